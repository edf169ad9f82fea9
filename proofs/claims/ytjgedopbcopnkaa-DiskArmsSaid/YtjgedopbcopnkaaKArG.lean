/- The statement DiskArms: the walk where the bounds hold. Conditions: those of the theorem. -/
import Derived.Test.YtjgedopbcopnkaaKArB
namespace Go.Proofs.Ytjgedopbcopnkaa.diskArms
open Go.RowKit Km Dk
set_option linter.unusedVariables false

theorem max0 (k : Int) : (if k < 0 then (0 : Int) else k) = max k 0 := by split <;> omega
theorem minN (n : Nat) (k : Int) : (if ((n : Nat) : Int) < max k 0 then ((n : Nat) : Int) else max k 0) = ((min (max k 0).toNat n : Nat) : Int) := by split <;> omega
theorem fst_next (tl : List Bs) (t : Bs) (h : ∀ u ∈ tl, u ≠ []) : fst (if t = [] then tl else tl ++ [t]) = if fst tl = [] then t else fst tl := by
  cases tl with
  | nil =>
    by_cases ht : t = []
    · simp [ht, fst]
    · simp [ht, fst]
  | cons u us =>
    have hu := h u (by simp)
    by_cases ht : t = [] <;> simp [ht, fst, hu]
section
variable {w : World} {ts : List Bs} {n : Nat} {k : Int} {v : Value}
set_option maxHeartbeats 8000000 in
set_option maxRecDepth 100000 in
theorem good (hv : Texts w v ts) (hm : ts.length ≤ 50) (hsum : len ts ≤ 20000) (h1n : 1 ≤ n) (hn100 : n ≤ 100) (hk : J64 k) : Calls Try.prog 5 #[v, .int .i64 ((n : Nat) : Int), .int .i64 k] w (IsTrue w) := by
  have HK := Lib.hid hk
  clear hk
  have SM := Lib.hid (fun W => small_any W)
  have HTX := Lib.hid hv
  obtain ⟨a, c, rfl, h1, h2, hc⟩ := hv
  have HL : ∃ N, ts.length = N := ⟨_, rfl⟩
  obtain ⟨N, hN⟩ := HL
  have HN := Lib.hid hN
  have H2 := Lib.hid h2
  have HC := Lib.hid hc
  clear hc h2 h1
  rw [hN] at hm ⊢
  rw [hN] at HTX
  clear hN
  have dm : decide ((50 : Int) < ((N : Nat) : Int)) = false := decide_eq_false (by omega)
  go_enter Try.func5, Try.ntmps5
  go_wp2_with fail
  refine (SM.out _).mono ?_
  rintro e w1 ⟨rfl, hb1⟩
  have HB1 := Lib.hid hb1
  clear hb1
  go_wp2_with fail
  refine (new_any (A := fun b => w.heap.size ≤ b) (fun b hb => by have := HB1.out.size; omega)).mono ?_
  rintro e w2 ⟨rfl, hd, hf⟩
  have D := Lib.hid hd
  have FF := Lib.hid (((Fr.refl (fun b => w.heap.size ≤ b) w).below HB1.out).below hf)
  have HBL := Lib.hid (FF.out.to_below (Nat.le_refl _))
  clear hd hf
  go_wp2_with fail
  go_loop [9, 10] (fun s i => ∃ j : Nat, j ≤ N ∧ i = .int .i64 j ∧ s = .int .i64 ((len (ts.take j) : Nat) : Int)) (fun _ i => N - (intOf i).toNat)
  case atStart => exact ⟨0, Nat.zero_le _, rfl, by simp [len]⟩
  case round =>
    obtain ⟨j, hj, rfl, rfl⟩ := hrel
    by_cases hlt : j < N
    · obtain ⟨t, ht⟩ : ∃ t, ts[j]? = some t := ⟨ts[j]'(by have := HN.out; omega), List.getElem?_eq_getElem _⟩
      obtain ⟨b, o, e, hb, hcell⟩ := HC.out (by have := HN.out; omega)
      subst e
      have ct : w2.cell? ⟨b, o + j, none⟩ = some (.string (sv t)) := (HBL.out.cell (p := ⟨b, o + j, none⟩) hb).trans (hcell j t ht)
      have hwi := wrapI j (by omega)
      have hts := H2.out t (List.mem_of_getElem? ht)
      have hbd := len_bound H2.out j
      have hws := sumFit (len (ts.take j)) j (sv t).size hbd (Nat.le_trans hj hm) hts
      have hnx := len_take ts j t ht
      rw [← sv_size] at hnx
      have HNX := Lib.hid hnx
      clear ht hnx hcell hb hts hbd
      generalize sv t = T at *
      generalize len (ts.take j) = z at *
      go_wp2_with fail
      go_round
      case rel => exact ⟨j + 1, by omega, by go_num, by rw [HNX.out]; go_num⟩
      case measure => simp [intOf]; omega
    · obtain rfl : j = N := by omega
      have htk : len (ts.take j) = len ts := by rw [← HN.out, List.take_length]
      rw [htk]
      clear htk
      have d1 : decide ((20000 : Int) < ((len ts : Nat) : Int)) = false := decide_eq_false (by omega)
      have d2 : decide (((n : Nat) : Int) < 1) = false := decide_eq_false (by omega)
      have d3 : decide ((100 : Int) < ((n : Nat) : Int)) = false := decide_eq_false (by omega)
      have hle : ∀ q, len (ts.take q) ≤ 20000 := fun q => Nat.le_trans (len_le ts q) hsum
      have HLE := Lib.hid hle
      obtain ⟨hwt, hpa⟩ := arm_wt k n h1n
      have HWT := Lib.hid hwt
      have HPA := Lib.hid hpa
      clear hle hwt hpa hsum
      go_wp2_with fail
      refine (arm_lit D.out (n := ((n : Nat) : Int)) (by unfold J64; omega) [k] rfl rfl (by simp) (by intro z hz; simp at hz; subst hz; exact HK.out) (s' := armS Km.new ((n : Nat) : Int) [k]) rfl).mono ?_
      rintro e w3 ⟨rfl, hd, hf⟩
      have D3 := Lib.hid hd
      have FF3 := Lib.hid (FF.out.trans hf)
      clear hd hf D FF HBL
      go_wp2_with fail
      go_loopw [11, 12, 13, 14, 15] (fun sa re fi ca i W => ∃ (q : Nat) (safe : Bs) (tl : List Bs) (s : St) (cl : Nat), q ≤ j ∧ cl ≤ n ∧ i = .int .i64 q ∧ ca = .int .i64 cl ∧ sa = .string (sv safe) ∧ re = .string (sv tl.flatten) ∧ fi = .string (sv (fst tl)) ∧
          Hid (Dsk (fun b => w.heap.size ≤ b) w1.heap.size s W ∧ Fr (fun b => w.heap.size ≤ b) w W ∧ safe.length + tl.flatten.length ≤ len (ts.take q) ∧ (∀ t ∈ tl, t ≠ [])) ∧
          Hid ((cl < n ∧ Wt k (n - cl) s ∧ Pa s safe tl) ∨ (s.down = true ∧ s.F 0 = safe ++ (fst tl).take (surv [k] 0 (fst tl).length)))) (fun _ _ _ _ i _ => j - (intOf i).toNat)
      case atStart => exact ⟨0, [], [], _, 0, Nat.zero_le _, Nat.zero_le _, rfl, rfl, rfl, rfl, rfl, Lib.hid ⟨D3.out, FF3.out, by simp, fun t ht => by cases ht⟩, Lib.hid (.inl ⟨by omega, by rw [Nat.sub_zero]; exact HWT.out, HPA.out⟩)⟩
      case round =>
        obtain ⟨q, safe, tl, s, cl, hq, hcl, rfl, rfl, rfl, rfl, rfl, HD, HS⟩ := hrel
        rcases HS.out with ⟨hcn, hwt, hpa⟩ | ⟨hdn, hF⟩
        · by_cases hqj : q < j
          · obtain ⟨t, ht⟩ : ∃ t, ts[q]? = some t := ⟨ts[q]'(by have := HN.out; omega), List.getElem?_eq_getElem _⟩
            obtain ⟨b, o, e, hb, hcell⟩ := HC.out (by have := HN.out; omega)
            subst e
            have ct0 := hcell q t ht
            have HCT := Lib.hid ct0
            have HBL := Lib.hid hb
            have ct : wr.cell? ⟨b, o + q, none⟩ = some (.string (sv t)) := HD.out.2.1.cell (p := ⟨b, o + q, none⟩) HCT.out (by show ¬ w.heap.size ≤ b; omega)
            have hnx := len_take ts q t ht
            have hbig := HLE.out (q + 1)
            have hsz3 := HD.out.2.2.1
            have hfit : (s.F 0).length + t.length ≤ 16777216 := by rw [hpa.F, List.length_append]; omega
            obtain ⟨tl', htl'⟩ : ∃ tl', (if t = [] then tl else tl ++ [t]) = tl' := ⟨_, rfl⟩
            have hfl' : tl.flatten ++ t = tl'.flatten := by
              rw [← htl']
              by_cases ht0 : t = []
              · rw [if_pos ht0, ht0, List.append_nil]
              · rw [if_neg ht0, List.flatten_append]
                simp
            have hne' : ∀ u ∈ tl', u ≠ [] := by
              rw [← htl']
              split
              · exact HD.out.2.2.2
              · intro u hu
                rcases List.mem_append.1 hu with hu | hu
                · exact HD.out.2.2.2 u hu
                · rw [List.mem_singleton] at hu; subst hu; assumption
            have hft' : fst tl' = if fst tl = [] then t else fst tl := by
              rw [← htl']
              exact fst_next tl t HD.out.2.2.2
            have hsz' : safe.length + tl'.flatten.length ≤ len (ts.take (q + 1)) := by rw [← hfl', List.length_append]; omega
            have hcat := sv_append tl.flatten t
            rw [hfl'] at hcat
            have hov : ¬ 9223372036854775807 < (sv tl.flatten).size + (sv t).size := by rw [sv_size, sv_size]; omega
            have hcat2 := sv_append safe tl'.flatten
            have hov2 : ¬ 9223372036854775807 < (sv safe).size + (sv tl'.flatten).size := by rw [sv_size, sv_size]; omega
            have htl : t.length ≤ 1099511627776 := by omega
            have HSZ' := Lib.hid hsz'
            have HNE' := Lib.hid hne'
            have HFT' := Lib.hid hft'
            have HTL' := Lib.hid htl'
            have HTL := Lib.hid htl
            have hwq := wrapI q (by omega)
            have HWQ := Lib.hid hwq
            obtain ⟨c1, hc1⟩ : ∃ c1, cl + 1 = c1 := ⟨_, rfl⟩
            have HC1 := Lib.hid hc1
            have HDD := Lib.hid HD.out.1
            have HFR := Lib.hid HD.out.2.1
            have HUP := Lib.hid hwt.up
            have hcn1 : c1 ≤ n := by omega
            by_cases hc : c1 = n
            · have hn1 : n - cl = 1 := by omega
              rw [hn1] at hwt
              obtain ⟨a1, a2, a3⟩ := app_wt1 HDD.out.1 hwt hpa t hfit
              rw [htl'] at a3
              have HA1 := Lib.hid a1
              have HA2 := Lib.hid a2
              have HA3 := Lib.hid a3
              have e1 : (((cl : Nat) : Int) + 1 == ((n : Nat) : Int)) = true := by simp; omega
              have e2 : ¬ ((cl : Nat) : Int) + 1 < ((n : Nat) : Int) := by omega
              clear a1 a2 a3 hn1 ht hcell hb ct0 hnx hbig hsz3 hfit htl' hfl' hne' hft' hsz' htl hwq hc1 hwt hpa HD HS
              generalize hgfl : tl'.flatten = fl' at *
              have HFLE := Lib.hid hgfl
              clear hgfl
              generalize tl.flatten = fl at *
              by_cases hf0 : fst tl = []
              · have hf1 : ((sv (fst tl)).toList == []) = true := by rw [sv_toList, hf0]; rfl
                have hff : fst tl' = t := by rw [HFT'.out, if_pos hf0]
                have HFF := Lib.hid hff
                clear hff hf0
                by_cases hpar : q % 2 = 1
                · have hp1 : (((q : Nat) : Int) % 2 == 1) = true := by simp; omega
                  go_wp2_with fail
                  refine (down_at HDD.out false HUP.out).mono ?_
                  rintro e w4 ⟨rfl, rfl⟩
                  go_wp2_with fail
                  refine (append_at HDD.out ((0 : Nat) : Int) t 9 HA1.out (s' := appS s ((0 : Nat) : Int) t) rfl HTL.out).mono ?_
                  rintro e w5 ⟨rfl, hd, hf⟩
                  have HD5 := Lib.hid hd
                  have HF5 := Lib.hid (HFR.out.trans hf)
                  have ct5 : w5.cell? ⟨b, o + q, none⟩ = some (.string (sv t)) := HF5.out.cell (p := ⟨b, o + q, none⟩) HCT.out (by have := HBL.out; show ¬ w.heap.size ≤ b; omega)
                  clear hd hf
                  go_wp2_with fail
                  refine (down_at HD5.out true HA2.out).mono ?_
                  rintro e w6 ⟨rfl, rfl⟩
                  go_wp2_with fail
                  go_roundw
                  case rel => exact ⟨q + 1, safe, tl', appS s ((0 : Nat) : Int) t, c1, by omega, by have := HC1.out; omega, by go_num, (by rw [← HC1.out]; go_num), rfl, (by rw [HFLE.out]), (by rw [HFF.out]), Lib.hid ⟨HD5.out, HF5.out, by rw [HFLE.out]; exact HSZ'.out, HNE'.out⟩, Lib.hid ((.inr ⟨HA2.out, HA3.out⟩))⟩
                  case measure => simp [intOf]; omega
                · have hp1 : (((q : Nat) : Int) % 2 == 1) = false := by simp; omega
                  go_wp2_with fail
                  refine (down_at HDD.out false HUP.out).mono ?_
                  rintro e w4 ⟨rfl, rfl⟩
                  go_wp2_with fail
                  refine (append_at HDD.out ((0 : Nat) : Int) t 9 HA1.out (s' := appS s ((0 : Nat) : Int) t) rfl HTL.out).mono ?_
                  rintro e w5 ⟨rfl, hd, hf⟩
                  have HD5 := Lib.hid hd
                  have HF5 := Lib.hid (HFR.out.trans hf)
                  have ct5 : w5.cell? ⟨b, o + q, none⟩ = some (.string (sv t)) := HF5.out.cell (p := ⟨b, o + q, none⟩) HCT.out (by have := HBL.out; show ¬ w.heap.size ≤ b; omega)
                  clear hd hf
                  go_wp2_with fail
                  go_roundw
                  case rel => exact ⟨q + 1, safe, tl', appS s ((0 : Nat) : Int) t, c1, by omega, by have := HC1.out; omega, by go_num, (by rw [← HC1.out]; go_num), rfl, (by rw [HFLE.out]), (by rw [HFF.out]), Lib.hid ⟨HD5.out, HF5.out, by rw [HFLE.out]; exact HSZ'.out, HNE'.out⟩, Lib.hid ((.inr ⟨HA2.out, HA3.out⟩))⟩
                  case measure => simp [intOf]; omega
              · have hf1 : ((sv (fst tl)).toList == []) = false := by rw [sv_toList]; simpa using hf0
                have hff : fst tl' = fst tl := by rw [HFT'.out, if_neg hf0]
                have HFF := Lib.hid hff
                clear hff hf0
                by_cases hpar : q % 2 = 1
                · have hp1 : (((q : Nat) : Int) % 2 == 1) = true := by simp; omega
                  go_wp2_with fail
                  refine (down_at HDD.out false HUP.out).mono ?_
                  rintro e w4 ⟨rfl, rfl⟩
                  go_wp2_with fail
                  refine (append_at HDD.out ((0 : Nat) : Int) t 9 HA1.out (s' := appS s ((0 : Nat) : Int) t) rfl HTL.out).mono ?_
                  rintro e w5 ⟨rfl, hd, hf⟩
                  have HD5 := Lib.hid hd
                  have HF5 := Lib.hid (HFR.out.trans hf)
                  have ct5 : w5.cell? ⟨b, o + q, none⟩ = some (.string (sv t)) := HF5.out.cell (p := ⟨b, o + q, none⟩) HCT.out (by have := HBL.out; show ¬ w.heap.size ≤ b; omega)
                  clear hd hf
                  go_wp2_with fail
                  refine (down_at HD5.out true HA2.out).mono ?_
                  rintro e w6 ⟨rfl, rfl⟩
                  go_wp2_with fail
                  go_roundw
                  case rel => exact ⟨q + 1, safe, tl', appS s ((0 : Nat) : Int) t, c1, by omega, by have := HC1.out; omega, by go_num, (by rw [← HC1.out]; go_num), rfl, (by rw [HFLE.out]), (by rw [HFF.out]), Lib.hid ⟨HD5.out, HF5.out, by rw [HFLE.out]; exact HSZ'.out, HNE'.out⟩, Lib.hid ((.inr ⟨HA2.out, HA3.out⟩))⟩
                  case measure => simp [intOf]; omega
                · have hp1 : (((q : Nat) : Int) % 2 == 1) = false := by simp; omega
                  go_wp2_with fail
                  refine (down_at HDD.out false HUP.out).mono ?_
                  rintro e w4 ⟨rfl, rfl⟩
                  go_wp2_with fail
                  refine (append_at HDD.out ((0 : Nat) : Int) t 9 HA1.out (s' := appS s ((0 : Nat) : Int) t) rfl HTL.out).mono ?_
                  rintro e w5 ⟨rfl, hd, hf⟩
                  have HD5 := Lib.hid hd
                  have HF5 := Lib.hid (HFR.out.trans hf)
                  have ct5 : w5.cell? ⟨b, o + q, none⟩ = some (.string (sv t)) := HF5.out.cell (p := ⟨b, o + q, none⟩) HCT.out (by have := HBL.out; show ¬ w.heap.size ≤ b; omega)
                  clear hd hf
                  go_wp2_with fail
                  go_roundw
                  case rel => exact ⟨q + 1, safe, tl', appS s ((0 : Nat) : Int) t, c1, by omega, by have := HC1.out; omega, by go_num, (by rw [← HC1.out]; go_num), rfl, (by rw [HFLE.out]), (by rw [HFF.out]), Lib.hid ⟨HD5.out, HF5.out, by rw [HFLE.out]; exact HSZ'.out, HNE'.out⟩, Lib.hid ((.inr ⟨HA2.out, HA3.out⟩))⟩
                  case measure => simp [intOf]; omega
            · obtain ⟨m, hm2⟩ : ∃ m, n - cl = m + 1 + 1 := ⟨n - cl - 2, by omega⟩
              rw [hm2] at hwt
              obtain ⟨a1, a2, a3⟩ := app_wt hwt hpa t hfit
              rw [htl'] at a3
              have HA1 := Lib.hid a1
              have HA2 := Lib.hid a2
              have HA3 := Lib.hid a3
              have HM2 := Lib.hid hm2
              have e1 : (((cl : Nat) : Int) + 1 == ((n : Nat) : Int)) = false := by simp; omega
              have e2 : ((cl : Nat) : Int) + 1 < ((n : Nat) : Int) := by omega
              have hc1n : c1 < n := by omega
              obtain ⟨c2, hc2⟩ : ∃ c2, c1 + 1 = c2 := ⟨_, rfl⟩
              have HC2 := Lib.hid hc2
              clear hc2
              clear a1 a2 a3 hm2 ht hcell hb ct0 hnx hbig hsz3 hfit htl' hfl' hne' hft' hsz' htl hwq hc1 hwt hpa HD HS
              generalize hgfl : tl'.flatten = fl' at *
              have HFLE := Lib.hid hgfl
              clear hgfl
              generalize tl.flatten = fl at *
              by_cases hf0 : fst tl = []
              · have hf1 : ((sv (fst tl)).toList == []) = true := by rw [sv_toList, hf0]; rfl
                have hff : fst tl' = t := by rw [HFT'.out, if_pos hf0]
                have HFF := Lib.hid hff
                clear hff hf0
                by_cases hpar : q % 2 = 1
                · have hp1 : (((q : Nat) : Int) % 2 == 1) = true := by simp; omega
                  by_cases hcc : c2 = n
                  · have hm0 : m = 0 := by have := HC1.out; have := HC2.out; have := HM2.out; omega
                    have hcl2 : cl + 1 + 1 = n := by have := HC1.out; have := HC2.out; omega
                    have e3 : (((cl : Nat) : Int) + 1 + 1 == ((n : Nat) : Int)) = true := by simp; omega
                    have e3' : (((cl : Nat) : Int) + 2 == ((n : Nat) : Int)) = true := by simp; omega
                    have e4 : ¬ ((cl : Nat) : Int) + 1 + 1 < ((n : Nat) : Int) := by omega
                    have e4' : ¬ ((cl : Nat) : Int) + 2 < ((n : Nat) : Int) := by omega
                    have hq1 := HA2.out
                    rw [hm0] at hq1
                    have HQ1 := Lib.hid hq1
                    clear hq1 hm0
                    go_wp2_with fail
                    refine (down_at HDD.out false HUP.out).mono ?_
                    rintro e w4 ⟨rfl, rfl⟩
                    go_wp2_with fail
                    refine (append_at HDD.out ((0 : Nat) : Int) t 0 HA1.out (s' := appS s ((0 : Nat) : Int) t) rfl HTL.out).mono ?_
                    rintro e w5 ⟨rfl, hd, hf⟩
                    have HD5 := Lib.hid hd
                    have HF5 := Lib.hid (HFR.out.trans hf)
                    have ct5 : w5.cell? ⟨b, o + q, none⟩ = some (.string (sv t)) := HF5.out.cell (p := ⟨b, o + q, none⟩) HCT.out (by have := HBL.out; show ¬ w.heap.size ≤ b; omega)
                    clear hd hf
                    go_wp2_with fail
                    refine (down_at HD5.out false HA2.out.up).mono ?_
                    rintro e w6 ⟨rfl, rfl⟩
                    have hg := flu_wt1 HD5.out.1 HQ1.out HA3.out
                    have HG := Lib.hid hg
                    clear hg
                    go_wp2_with fail
                    refine (flush_at HD5.out ((0 : Nat) : Int) 9 HG.out.1 (s' := fluS (appS s ((0 : Nat) : Int) t) ((0 : Nat) : Int)) rfl).mono ?_
                    rintro e w7 ⟨rfl, hd, hf⟩
                    have HD7 := Lib.hid hd
                    have HF7 := Lib.hid (HF5.out.trans hf)
                    clear hd hf
                    go_wp2_with fail
                    go_roundw
                    case rel => exact ⟨q + 1, safe, tl', fluS (appS s ((0 : Nat) : Int) t) ((0 : Nat) : Int), c2, by omega, by have := HC1.out; omega, by go_num, (by rw [← HC2.out, ← HC1.out]; go_num), rfl, (by rw [HFLE.out]), (by rw [HFF.out]), Lib.hid ⟨HD7.out, HF7.out, by rw [HFLE.out]; exact HSZ'.out, HNE'.out⟩, Lib.hid ((.inr ⟨HG.out.2.1, HG.out.2.2⟩))⟩
                    case measure => simp [intOf]; omega
                  · have hm1 : ∃ m', m = m' + 1 := ⟨m - 1, by have := HC1.out; have := HC2.out; have := HM2.out; omega⟩
                    obtain ⟨m', hm1⟩ := hm1
                    have hc2n : c2 ≤ n := by have := HC2.out; omega
                    have hcl2 : cl + 1 + 1 < n := by have := HC1.out; have := HC2.out; omega
                    have e3 : (((cl : Nat) : Int) + 1 + 1 == ((n : Nat) : Int)) = false := by simp; omega
                    have e3' : (((cl : Nat) : Int) + 2 == ((n : Nat) : Int)) = false := by simp; omega
                    have e4 : ((cl : Nat) : Int) + 1 + 1 < ((n : Nat) : Int) := by omega
                    have e4' : ((cl : Nat) : Int) + 2 < ((n : Nat) : Int) := by omega
                    have hq1 := HA2.out
                    rw [hm1] at hq1
                    have hg := flu_wt hq1 HA3.out
                    have HG := Lib.hid hg
                    have hnc2 : n - c2 = m' + 1 := by have := HC1.out; have := HC2.out; have := HM2.out; omega
                    have HNC := Lib.hid hnc2
                    clear hq1 hm1 hg hnc2
                    go_wp2_with fail
                    refine (down_at HDD.out false HUP.out).mono ?_
                    rintro e w4 ⟨rfl, rfl⟩
                    go_wp2_with fail
                    refine (append_at HDD.out ((0 : Nat) : Int) t 0 HA1.out (s' := appS s ((0 : Nat) : Int) t) rfl HTL.out).mono ?_
                    rintro e w5 ⟨rfl, hd, hf⟩
                    have HD5 := Lib.hid hd
                    have HF5 := Lib.hid (HFR.out.trans hf)
                    have ct5 : w5.cell? ⟨b, o + q, none⟩ = some (.string (sv t)) := HF5.out.cell (p := ⟨b, o + q, none⟩) HCT.out (by have := HBL.out; show ¬ w.heap.size ≤ b; omega)
                    clear hd hf
                    go_wp2_with fail
                    refine (down_at HD5.out false HA2.out.up).mono ?_
                    rintro e w6 ⟨rfl, rfl⟩
                    go_wp2_with fail
                    refine (flush_at HD5.out ((0 : Nat) : Int) 0 HG.out.1 (s' := fluS (appS s ((0 : Nat) : Int) t) ((0 : Nat) : Int)) rfl).mono ?_
                    rintro e w7 ⟨rfl, hd, hf⟩
                    have HD7 := Lib.hid hd
                    have HF7 := Lib.hid (HF5.out.trans hf)
                    clear hd hf
                    go_wp2_with fail
                    go_roundw
                    case rel => exact ⟨q + 1, (safe ++ fl'), [], fluS (appS s ((0 : Nat) : Int) t) ((0 : Nat) : Int), c2, by omega, by have := HC1.out; omega, by go_num, (by rw [← HC2.out, ← HC1.out]; go_num), rfl, rfl, rfl, Lib.hid ⟨HD7.out, HF7.out, by rw [List.length_append]; show safe.length + fl'.length + 0 ≤ _; have := HSZ'.out; omega, fun t ht => by cases ht⟩, Lib.hid ((.inl ⟨by have := HC1.out; have := HC2.out; omega, by rw [HNC.out]; exact HG.out.2.1, by rw [← HFLE.out]; exact HG.out.2.2⟩))⟩
                    case measure => simp [intOf]; omega
                · have hp1 : (((q : Nat) : Int) % 2 == 1) = false := by simp; omega
                  go_wp2_with fail
                  refine (down_at HDD.out false HUP.out).mono ?_
                  rintro e w4 ⟨rfl, rfl⟩
                  go_wp2_with fail
                  refine (append_at HDD.out ((0 : Nat) : Int) t 0 HA1.out (s' := appS s ((0 : Nat) : Int) t) rfl HTL.out).mono ?_
                  rintro e w5 ⟨rfl, hd, hf⟩
                  have HD5 := Lib.hid hd
                  have HF5 := Lib.hid (HFR.out.trans hf)
                  have ct5 : w5.cell? ⟨b, o + q, none⟩ = some (.string (sv t)) := HF5.out.cell (p := ⟨b, o + q, none⟩) HCT.out (by have := HBL.out; show ¬ w.heap.size ≤ b; omega)
                  clear hd hf
                  go_wp2_with fail
                  go_roundw
                  case rel => exact ⟨q + 1, safe, tl', appS s ((0 : Nat) : Int) t, c1, by omega, by have := HC1.out; omega, by go_num, (by rw [← HC1.out]; go_num), rfl, (by rw [HFLE.out]), (by rw [HFF.out]), Lib.hid ⟨HD5.out, HF5.out, by rw [HFLE.out]; exact HSZ'.out, HNE'.out⟩, Lib.hid ((.inl ⟨by have := HC1.out; omega, by rw [show n - c1 = m + 1 by have := HC1.out; have := HM2.out; omega]; exact HA2.out, HA3.out⟩))⟩
                  case measure => simp [intOf]; omega
              · have hf1 : ((sv (fst tl)).toList == []) = false := by rw [sv_toList]; simpa using hf0
                have hff : fst tl' = fst tl := by rw [HFT'.out, if_neg hf0]
                have HFF := Lib.hid hff
                clear hff hf0
                by_cases hpar : q % 2 = 1
                · have hp1 : (((q : Nat) : Int) % 2 == 1) = true := by simp; omega
                  by_cases hcc : c2 = n
                  · have hm0 : m = 0 := by have := HC1.out; have := HC2.out; have := HM2.out; omega
                    have hcl2 : cl + 1 + 1 = n := by have := HC1.out; have := HC2.out; omega
                    have e3 : (((cl : Nat) : Int) + 1 + 1 == ((n : Nat) : Int)) = true := by simp; omega
                    have e3' : (((cl : Nat) : Int) + 2 == ((n : Nat) : Int)) = true := by simp; omega
                    have e4 : ¬ ((cl : Nat) : Int) + 1 + 1 < ((n : Nat) : Int) := by omega
                    have e4' : ¬ ((cl : Nat) : Int) + 2 < ((n : Nat) : Int) := by omega
                    have hq1 := HA2.out
                    rw [hm0] at hq1
                    have HQ1 := Lib.hid hq1
                    clear hq1 hm0
                    go_wp2_with fail
                    refine (down_at HDD.out false HUP.out).mono ?_
                    rintro e w4 ⟨rfl, rfl⟩
                    go_wp2_with fail
                    refine (append_at HDD.out ((0 : Nat) : Int) t 0 HA1.out (s' := appS s ((0 : Nat) : Int) t) rfl HTL.out).mono ?_
                    rintro e w5 ⟨rfl, hd, hf⟩
                    have HD5 := Lib.hid hd
                    have HF5 := Lib.hid (HFR.out.trans hf)
                    have ct5 : w5.cell? ⟨b, o + q, none⟩ = some (.string (sv t)) := HF5.out.cell (p := ⟨b, o + q, none⟩) HCT.out (by have := HBL.out; show ¬ w.heap.size ≤ b; omega)
                    clear hd hf
                    go_wp2_with fail
                    refine (down_at HD5.out false HA2.out.up).mono ?_
                    rintro e w6 ⟨rfl, rfl⟩
                    have hg := flu_wt1 HD5.out.1 HQ1.out HA3.out
                    have HG := Lib.hid hg
                    clear hg
                    go_wp2_with fail
                    refine (flush_at HD5.out ((0 : Nat) : Int) 9 HG.out.1 (s' := fluS (appS s ((0 : Nat) : Int) t) ((0 : Nat) : Int)) rfl).mono ?_
                    rintro e w7 ⟨rfl, hd, hf⟩
                    have HD7 := Lib.hid hd
                    have HF7 := Lib.hid (HF5.out.trans hf)
                    clear hd hf
                    go_wp2_with fail
                    go_roundw
                    case rel => exact ⟨q + 1, safe, tl', fluS (appS s ((0 : Nat) : Int) t) ((0 : Nat) : Int), c2, by omega, by have := HC1.out; omega, by go_num, (by rw [← HC2.out, ← HC1.out]; go_num), rfl, (by rw [HFLE.out]), (by rw [HFF.out]), Lib.hid ⟨HD7.out, HF7.out, by rw [HFLE.out]; exact HSZ'.out, HNE'.out⟩, Lib.hid ((.inr ⟨HG.out.2.1, HG.out.2.2⟩))⟩
                    case measure => simp [intOf]; omega
                  · have hm1 : ∃ m', m = m' + 1 := ⟨m - 1, by have := HC1.out; have := HC2.out; have := HM2.out; omega⟩
                    obtain ⟨m', hm1⟩ := hm1
                    have hc2n : c2 ≤ n := by have := HC2.out; omega
                    have hcl2 : cl + 1 + 1 < n := by have := HC1.out; have := HC2.out; omega
                    have e3 : (((cl : Nat) : Int) + 1 + 1 == ((n : Nat) : Int)) = false := by simp; omega
                    have e3' : (((cl : Nat) : Int) + 2 == ((n : Nat) : Int)) = false := by simp; omega
                    have e4 : ((cl : Nat) : Int) + 1 + 1 < ((n : Nat) : Int) := by omega
                    have e4' : ((cl : Nat) : Int) + 2 < ((n : Nat) : Int) := by omega
                    have hq1 := HA2.out
                    rw [hm1] at hq1
                    have hg := flu_wt hq1 HA3.out
                    have HG := Lib.hid hg
                    have hnc2 : n - c2 = m' + 1 := by have := HC1.out; have := HC2.out; have := HM2.out; omega
                    have HNC := Lib.hid hnc2
                    clear hq1 hm1 hg hnc2
                    go_wp2_with fail
                    refine (down_at HDD.out false HUP.out).mono ?_
                    rintro e w4 ⟨rfl, rfl⟩
                    go_wp2_with fail
                    refine (append_at HDD.out ((0 : Nat) : Int) t 0 HA1.out (s' := appS s ((0 : Nat) : Int) t) rfl HTL.out).mono ?_
                    rintro e w5 ⟨rfl, hd, hf⟩
                    have HD5 := Lib.hid hd
                    have HF5 := Lib.hid (HFR.out.trans hf)
                    have ct5 : w5.cell? ⟨b, o + q, none⟩ = some (.string (sv t)) := HF5.out.cell (p := ⟨b, o + q, none⟩) HCT.out (by have := HBL.out; show ¬ w.heap.size ≤ b; omega)
                    clear hd hf
                    go_wp2_with fail
                    refine (down_at HD5.out false HA2.out.up).mono ?_
                    rintro e w6 ⟨rfl, rfl⟩
                    go_wp2_with fail
                    refine (flush_at HD5.out ((0 : Nat) : Int) 0 HG.out.1 (s' := fluS (appS s ((0 : Nat) : Int) t) ((0 : Nat) : Int)) rfl).mono ?_
                    rintro e w7 ⟨rfl, hd, hf⟩
                    have HD7 := Lib.hid hd
                    have HF7 := Lib.hid (HF5.out.trans hf)
                    clear hd hf
                    go_wp2_with fail
                    go_roundw
                    case rel => exact ⟨q + 1, (safe ++ fl'), [], fluS (appS s ((0 : Nat) : Int) t) ((0 : Nat) : Int), c2, by omega, by have := HC1.out; omega, by go_num, (by rw [← HC2.out, ← HC1.out]; go_num), rfl, rfl, rfl, Lib.hid ⟨HD7.out, HF7.out, by rw [List.length_append]; show safe.length + fl'.length + 0 ≤ _; have := HSZ'.out; omega, fun t ht => by cases ht⟩, Lib.hid ((.inl ⟨by have := HC1.out; have := HC2.out; omega, by rw [HNC.out]; exact HG.out.2.1, by rw [← HFLE.out]; exact HG.out.2.2⟩))⟩
                    case measure => simp [intOf]; omega
                · have hp1 : (((q : Nat) : Int) % 2 == 1) = false := by simp; omega
                  go_wp2_with fail
                  refine (down_at HDD.out false HUP.out).mono ?_
                  rintro e w4 ⟨rfl, rfl⟩
                  go_wp2_with fail
                  refine (append_at HDD.out ((0 : Nat) : Int) t 0 HA1.out (s' := appS s ((0 : Nat) : Int) t) rfl HTL.out).mono ?_
                  rintro e w5 ⟨rfl, hd, hf⟩
                  have HD5 := Lib.hid hd
                  have HF5 := Lib.hid (HFR.out.trans hf)
                  have ct5 : w5.cell? ⟨b, o + q, none⟩ = some (.string (sv t)) := HF5.out.cell (p := ⟨b, o + q, none⟩) HCT.out (by have := HBL.out; show ¬ w.heap.size ≤ b; omega)
                  clear hd hf
                  go_wp2_with fail
                  go_roundw
                  case rel => exact ⟨q + 1, safe, tl', appS s ((0 : Nat) : Int) t, c1, by omega, by have := HC1.out; omega, by go_num, (by rw [← HC1.out]; go_num), rfl, (by rw [HFLE.out]), (by rw [HFF.out]), Lib.hid ⟨HD5.out, HF5.out, by rw [HFLE.out]; exact HSZ'.out, HNE'.out⟩, Lib.hid ((.inl ⟨by have := HC1.out; omega, by rw [show n - c1 = m + 1 by have := HC1.out; have := HM2.out; omega]; exact HA2.out, HA3.out⟩))⟩
                  case measure => simp [intOf]; omega
          · obtain rfl : q = j := by omega
            have hrd := read_up (s := s) hwt.up (f := 0) (by decide)
            have hrd1 := hrd.2.trans hpa.F
            have HR1 := Lib.hid hrd.1
            have HR2 := Lib.hid hrd1
            have HDN := Lib.hid hwt.up
            have HDD := Lib.hid HD.out.1
            have HFR := Lib.hid HD.out.2.1
            have hbig := HLE.out q
            have hsz3 := HD.out.2.2.1
            have hcat := sv_append safe tl.flatten
            have hov : ¬ 9223372036854775807 < (sv safe).size + (sv tl.flatten).size := by rw [sv_size, sv_size]; omega
            clear hrd hrd1 hwt hpa HD HS hbig hsz3
            generalize tl.flatten = fl at *
            generalize fst tl = ft at *
            go_wp2_with fail
            refine (down_at HDD.out false HDN.out).mono ?_
            rintro e w5 ⟨rfl, rfl⟩
            go_wp2_with fail
            refine (read_at (s := s) HDD.out ((0 : Nat) : Int) 0 _ HR1.out HR2.out).mono ?_
            rintro e w7 ⟨rfl, hd, hf⟩
            have HF7 := Lib.hid (HFR.out.trans hf)
            clear hd hf
            go_wp2_with fail
            go_ret
            exact ⟨rfl, HF7.out.to_below (Nat.le_refl _)⟩
        · obtain ⟨x, hx⟩ : ∃ x, surv [k] 0 (fst tl).length = x := ⟨_, rfl⟩
          have hxle : x ≤ (fst tl).length := by rw [← hx]; exact surv_le _ _ _
          have m0 : (if (((sv (fst tl)).size : Nat) : Int) < max k 0 then (((sv (fst tl)).size : Nat) : Int) else max k 0) = ((x : Nat) : Int) := by rw [← hx]; exact minN _ _
          have x0 := max0 k
          rw [hx] at hF
          have hsl := fun W => slice_to (fst tl) x hxle W
          have hbig := HLE.out q
          have hfl := fst_len tl
          have hsz3 := HD.out.2.2.1
          have hcat := sv_append safe ((fst tl).take x)
          have hov : ¬ 9223372036854775807 < (sv safe).size + (sv ((fst tl).take x)).size := by rw [sv_size, sv_size, List.length_take]; omega
          have hrd := read_up (s := startS s) rfl (f := 0) (by decide)
          have hrd1 := hrd.2.trans (show (startS s).F 0 = _ from hF)
          have HR1 := Lib.hid hrd.1
          have HR2 := Lib.hid hrd1
          have HDN := Lib.hid hdn
          have HDD := Lib.hid HD.out.1
          have HFR := Lib.hid HD.out.2.1
          clear hx hxle hF hbig hfl hsz3 hrd hrd1 hdn HD HS
          generalize max k 0 = M0 at *
          generalize fst tl = ft at *
          by_cases hqj : q < j
          · go_wp2_with fail
            refine (down_at HDD.out true HDN.out).mono ?_
            rintro e w4 ⟨rfl, rfl⟩
            go_wp2_with fail
            refine (down_at HDD.out true HDN.out).mono ?_
            rintro e w5 ⟨rfl, rfl⟩
            go_wp2_with fail
            refine (start_at HDD.out (s' := startS s) rfl).mono ?_
            rintro e w6 ⟨rfl, hd, hf⟩
            have HD6 := Lib.hid hd
            have HF6 := Lib.hid (HFR.out.trans hf)
            clear hd hf
            go_wp2_with fail
            refine (read_at (s := startS s) HD6.out ((0 : Nat) : Int) 0 _ HR1.out HR2.out).mono ?_
            rintro e w7 ⟨rfl, hd, hf⟩
            have HF7 := Lib.hid (HF6.out.trans hf)
            clear hd hf
            go_wp2_with fail
            go_ret
            exact ⟨rfl, HF7.out.to_below (Nat.le_refl _)⟩
          · obtain rfl : q = j := by omega
            go_wp2_with fail
            refine (down_at HDD.out true HDN.out).mono ?_
            rintro e w5 ⟨rfl, rfl⟩
            go_wp2_with fail
            refine (start_at HDD.out (s' := startS s) rfl).mono ?_
            rintro e w6 ⟨rfl, hd, hf⟩
            have HD6 := Lib.hid hd
            have HF6 := Lib.hid (HFR.out.trans hf)
            clear hd hf
            go_wp2_with fail
            refine (read_at (s := startS s) HD6.out ((0 : Nat) : Int) 0 _ HR1.out HR2.out).mono ?_
            rintro e w7 ⟨rfl, hd, hf⟩
            have HF7 := Lib.hid (HF6.out.trans hf)
            clear hd hf
            go_wp2_with fail
            go_ret
            exact ⟨rfl, HF7.out.to_below (Nat.le_refl _)⟩

end
theorem walk {w : World} {v : Value} {ts : List Bs} {n k : Int} (hv : Texts w v ts) (hn : J64 n) (hk : J64 k) : Calls Try.prog 5 #[v, .int .i64 n, .int .i64 k] w (IsTrue w) := by
  by_cases h1 : 50 < ts.length
  · exact many hv h1
  by_cases h2 : 20000 < len ts
  · exact bad hv (by omega) (.inl h2)
  by_cases h3 : n < 1
  · exact bad hv (by omega) (.inr (.inl ⟨by omega, h3⟩))
  by_cases h4 : 100 < n
  · exact bad hv (by omega) (.inr (.inr ⟨by omega, by omega, h4⟩))
  obtain ⟨m, rfl⟩ : ∃ m : Nat, n = m := ⟨n.toNat, by omega⟩
  exact good hv (by omega) (by omega) (by omega) (by omega) hk
end Go.Proofs.Ytjgedopbcopnkaa.diskArms
