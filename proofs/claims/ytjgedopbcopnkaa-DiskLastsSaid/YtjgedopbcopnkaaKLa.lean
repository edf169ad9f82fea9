/- The statement DiskLasts: the walk where there are few acts. Conditions: those of the theorem. -/
import Derived.Test.YtjgedopbcopnkaaKLaM
namespace Go.Proofs.Ytjgedopbcopnkaa.diskLasts
open Go.RowKit Km Dk
set_option linter.unusedVariables false

set_option maxHeartbeats 16000000 in
set_option maxRecDepth 100000 in
theorem few_walk {w : World} {v kv : Value} {l : List (Ac × Value)} {ks : List Int} (h : Acts w v l) (hl : l.length ≤ 200) (hz : szA l ≤ 100000) (hk : Ints w kv ks) (hj : ∀ z ∈ ks, J64 z) (hL : Lies w kv) : Calls Try.prog 3 #[v, kv] w (IsTrue w) := by
  have SM := Lib.hid (fun W => small_any W)
  have HFW := Lib.hid (show ∀ W, Below w.heap.size w W → Calls Try.prog 9 #[v] W fun e w' => e = .returned (.bool true) ∧ Below W.heap.size W w' from fun W hb => by
    have := few_less (acts_below h hb) hl
    rw [decide_eq_true hz] at this
    exact this)
  have HA := Lib.hid h
  have HK := Lib.hid hk
  have HJ := Lib.hid hj
  have HKL := Lib.hid hL
  obtain ⟨a0, c0, hv, _, hr, _⟩ := h
  have HVV := Lib.hid hv
  have HR := Lib.hid hr
  obtain ⟨N, hN⟩ : ∃ N, l.length = N := ⟨_, rfl⟩
  have HN := Lib.hid hN
  have HMK := Lib.hid (fun W => run_mk8 W)
  obtain ⟨ka0, kc0, hkv, _⟩ := hk
  have HKV := Lib.hid hkv
  rw [hv, hkv]
  rw [hv] at HFW
  rw [hN] at hl HFW ⊢
  have hszs : ∀ (j : Nat) (p : Ac × Value), l[j]? = some p → p.1.s.length ≤ 1099511627776 := fun j p hp => by
    have := (hr p (List.mem_of_getElem? hp))
    have h2 := szA_mem (List.mem_of_getElem? hp)
    omega
  have HSZS := Lib.hid hszs
  clear hv hr hN hkv hj hL hz hszs
  generalize ks.length = kn0 at *
  go_enter Try.func3, Try.ntmps3
  go_wp2_with fail
  refine (SM.out _).mono ?_
  rintro e w1 ⟨rfl, hb1⟩
  have HB1 := Lib.hid hb1
  clear hb1
  go_wp2_with fail
  refine (new_any (A := fun b => w.heap.size ≤ b) (fun b hb => by have := HB1.out.size; omega)).mono ?_
  rintro e w2 ⟨rfl, hd, hf⟩
  have HB2 := Lib.hid ((HB1.out.mono (Nat.le_refl _)).trans (hf.mono HB1.out.size))
  have D2 := Lib.hid hd
  clear hd hf
  go_wp2_with fail
  refine (HFW.out _ HB2.out).mono ?_
  rintro e w3 ⟨rfl, hb3⟩
  have D3 := Lib.hid (D2.out.below hb3)
  have HB3 := Lib.hid (HB2.out.trans (hb3.mono HB2.out.size))
  clear hb3 D2
  have hmk := HMK.out w3
  go_wp2_with fail
  clear hmk
  generalize hr0 : w1.heap.size = r at *
  clear hr0
  have hgs : w.heap.size ≤ w3.heap.size := HB3.out.size
  have D4 := Lib.hid (D3.out.hide (below_alloc w3 (.cells (sfc fun _ => []) 9 (0, 0))) (Nat.le_refl _) (by simp))
  have BS := Lib.hid (Blk.new w3 9 (sfc fun _ => []))
  have F4 := Lib.hid (((Fr.refl (fun b => w.heap.size ≤ b) w).below HB3.out).alloc (.cells (sfc fun _ => []) 9 (0, 0)))
  generalize w3.heap.size = gs at *
  go_loopw [8] (fun i W => ∃ (j : Nat) (s : St) (sf : Nat → Bs), j ≤ N ∧ i = .int .i64 j ∧ Hid (Dsk (fun b => w.heap.size ≤ b ∧ b ≠ gs) r s W ∧ Blk W gs 9 (sfc sf) ∧ Sv sf s ∧ Fr (fun b => w.heap.size ≤ b) w W)) (fun i _ => N - (intOf i).toNat)
  case atStart => exact ⟨0, Km.new, fun _ => [], Nat.zero_le _, rfl, Lib.hid ⟨D4.out, BS.out, sv_new, F4.out⟩⟩
  case round =>
    obtain ⟨j, s, sf, hj, rfl, HD⟩ := hrel
    by_cases hlt : j < N
    · obtain ⟨p, hp⟩ : ∃ p, l[j]? = some p := ⟨l[j]'(by have := HN.out; omega), List.getElem?_eq_getElem _⟩
      obtain ⟨b, o, rfl, hb, q0, q1, q2, q3, q4, q5⟩ := act_cells HA.out (W := wr) (fun b hb => HD.out.2.2.2.block b hb (by show ¬ w.heap.size ≤ b; omega)) HVV.out hp
      have hra := HR.out p (List.mem_of_getElem? hp)
      have hs1 := HSZS.out j p hp
      obtain ⟨a, av⟩ := p
      obtain ⟨x1, x2, x3, x4, x5, x6, x7, x8, x9⟩ := hra
      simp only at x1 x2 x3 x4 x5 x6 x7 x8 x9 hs1 q0 q1 q2 q3 q4 q5
      have X8 := Lib.hid x8
      obtain ⟨ka, kc, hav, _⟩ := x8
      rw [hav] at q5
      have hdo := do_any (HD.out.1.hide (below_alloc wr (.cells (actC a av) 30)) (Nat.le_refl _) (by simp)) a x1 x4 x7 x6 hs1 (kv := av) ((X8.out.fr HD.out.2.2.2 (fun b hb hn => by have := x9 b hb; omega)).below (below_alloc _ _)) (fun b hb hn => by have := x9 b hb; have := hn.1.1; omega)
      have hdn := down_dsk (HD.out.1.alloc (.cells (actC a av) 30))
      have hpk := fun W => pick_any a.d x1 W
      have HAV := Lib.hid hav
      rw [hav] at hdo hdn
      simp only [actC] at hdo hdn
      have HDO := Lib.hid hdo
      have HDN := Lib.hid hdn
      have HPK := Lib.hid hpk
      have JF := Lib.hid x2
      have JG := Lib.hid x3
      have JN := Lib.hid x4
      have hwj := wrapK j (by omega)
      have HWJ := Lib.hid hwj
      clear hp hb hs1 x1 x2 x3 x4 x5 x6 x7 x9 hdo hdn hpk hav hwj
      go_wp2_with fail
      refine HDN.out.mono ?_
      rintro e w4 ⟨rfl, rfl⟩
      go_wp2_with fail
      refine HDO.out.mono ?_
      rintro e w5 ⟨rfl, hd5, hf5⟩
      have hbs : Blk w5 gs 9 (sfc sf) := hf5.blk (HD.out.2.1.alloc _) (fun hn => hn.1.2 rfl)
      have hbp : Blk w5 wr.heap.size 30 (actC a (.slice ka a.k.length kc)) := hf5.blk (Blk.new wr 30 (actC a (.slice ka a.k.length kc))) (fun hn => hn.2 rfl)
      have hfr5 : Fr (fun b => w.heap.size ≤ b) w w5 := (HD.out.2.2.2.alloc _).trans (hf5.mono fun b hb => hb.1.1)
      have D5 := Lib.hid (hd5.mono fun b hb => hb.1)
      have BS5 := Lib.hid hbs
      have BP5 := Lib.hid hbp
      have F5 := Lib.hid hfr5
      have hgg : wr.heap.size ≠ gs := by have := HD.out.2.1.lt; omega
      clear hd5 hf5 hbs hbp hfr5 q0 q1 q2 q3 q4 q5
      generalize wr.heap.size = gp at *
      have p0 : w5.cell? ⟨gp, 0, none⟩ = some (.int .i64 a.d) := BP5.out.cell 0
      have p1 : w5.cell? ⟨gp, 1, none⟩ = some (.int .i64 a.f) := BP5.out.cell 1
      have p2 : w5.cell? ⟨gp, 2, none⟩ = some (.int .i64 a.g) := BP5.out.cell 2
      have p3 : w5.cell? ⟨gp, 3, none⟩ = some (.int .i64 a.n) := BP5.out.cell 3
      go_wp2_with fail
      have HGG := Lib.hid hgg
      have WF0 := Lib.hid HD.out.1.1
      have SV0 := Lib.hid HD.out.2.2.1
      have WF5 := Lib.hid D5.out.1
      clear hgg HDO HDN HD
      by_cases hP2 : pick a.d = 2
      · have hP := hP2
        by_cases hE : doE s a = 0
        · obtain ⟨k, hk8, hf, hsd, hsd2, hsv⟩ := nx2 WF0.out SV0.out hP hE
          have HSV := Lib.hid hsv
          have HS2 := Lib.hid hsd2
          have HFK := Lib.hid hf
          rw [hf] at p1
          have hk8i : ((k : Nat) : Int) < 8 := by omega
          have b2 : (((pick a.d : Nat) : Int) == 2) = true := by simp; omega
          have b3 : (((pick a.d : Nat) : Int) == 3) = false := by simp; omega
          have b4 : (((pick a.d : Nat) : Int) == 4) = false := by simp; omega
          have eb : (doE s a == 0) = true := by simpa using hE
          have hrd := read_up (s := doS s a) hsd2 hk8
          have HR1 := Lib.hid hrd.1
          have HR2 := Lib.hid hrd.2
          clear hsv hrd hP hE hf hsd2
          generalize doE s a = E at *
          generalize doB s a = BB at *
          generalize hpd : pick a.d = P at *
          clear hpd
          go_wp2_with fail
          refine (HPK.out _).mono ?_
          rintro e w6 ⟨rfl, rfl⟩
          go_wp2_with fail
          refine (read_dsk D5.out ((k : Nat) : Int)).mono ?_
          rintro e w7 ⟨rfl, hb7⟩
          rw [HR1.out, HR2.out]
          have BS7 := Lib.hid (BS5.out.below hb7 BS5.out.lt)
          have BP7 := Lib.hid (BP5.out.below hb7 BP5.out.lt)
          have D7 := Lib.hid (D5.out.below hb7)
          have F7 := Lib.hid (F5.out.below hb7)
          have r1 : w7.cell? ⟨gp, 1, none⟩ = some (.int .i64 ((k : Nat) : Int)) := by rw [← HFK.out]; exact BP7.out.cell 1
          have r2 : w7.cell? ⟨gs, k, none⟩ = some (.string (sv (sf k))) := (BS7.out.cell k).trans (sfc_at sf k hk8)
          have r3 := BS7.out.frozen k
          clear hb7 p0 p1 p2 p3
          go_upto_region 16 with fail
          refine hide_world (X := fun W => Dsk (fun b => w.heap.size ≤ b ∧ b ≠ gs) r (doS s a) W ∧ Blk W gs 9 (sfc (upd sf k ((doS s a).F k))) ∧ Blk W gp 30 (actC a (.slice ka a.k.length kc)) ∧ Fr (fun b => w.heap.size ≤ b) w W) ⟨dsk_out D7.out (fun hn => hn.2 rfl) k _, sf_set BS7.out k _, BP7.out.far (p := ⟨gs, k, none⟩) HGG.out _, F7.out.setCell (p := ⟨gs, k, none⟩) hgs _⟩ ?_
          intro W8 hX
          have HX := Lib.hid hX
          clear hX
          go_region
          go_wp2_with fail
          refine (down_at (HX.out.1.below (w' := W8.drew) ⟨rfl, rfl, rfl, Nat.le_refl _, fun _ _ => rfl⟩) false HS2.out).mono ?_
          rintro e w9 ⟨rfl, rfl⟩
          go_wp2_with fail
          go_roundw
          case rel => exact ⟨j + 1, doS s a, upd sf k ((doS s a).F k), by omega, by go_num, Lib.hid ⟨(HX.out.1.below (w' := W8.drew) ⟨rfl, rfl, rfl, Nat.le_refl _, fun _ _ => rfl⟩), HX.out.2.1, HSV.out, HX.out.2.2.2.drew⟩⟩
          case measure => simp [intOf]; omega
        · have hsv := nx0 WF0.out SV0.out (a := a) (.inr hE)
          have HSV := Lib.hid hsv
          have b2 : (((pick a.d : Nat) : Int) == 2) = true := by simp; omega
          have b3 : (((pick a.d : Nat) : Int) == 3) = false := by simp; omega
          have b4 : (((pick a.d : Nat) : Int) == 4) = false := by simp; omega
          have eb : (doE s a == 0) = false := by simpa using hE
          clear hsv hP2 hP hE p1 p2 p3
          generalize doE s a = E at *
          generalize doB s a = BB at *
          generalize hpd : pick a.d = P at *
          clear hpd
          cases hsd : s.down with
          | true =>
            go_wp2_with fail
            refine (HPK.out _).mono ?_
            rintro e w6 ⟨rfl, rfl⟩
            go_upto_region 16 with fail
            refine hide_world (X := fun W => Dsk (fun b => w.heap.size ≤ b ∧ b ≠ gs) r (doS s a) W ∧ Blk W gs 9 (sfc sf) ∧ Blk W gp 30 (actC a (.slice ka a.k.length kc)) ∧ Fr (fun b => w.heap.size ≤ b) w W) ⟨D5.out, BS5.out, BP5.out, F5.out⟩ ?_
            intro W8 hX
            have HX := Lib.hid hX
            clear hX
            go_region
            go_wp2_with fail
            go_roundw
            case rel => exact ⟨j + 1, doS s a, sf, by omega, by go_num, Lib.hid ⟨(HX.out.1.below (w' := W8.drew) ⟨rfl, rfl, rfl, Nat.le_refl _, fun _ _ => rfl⟩), HX.out.2.1, HSV.out, HX.out.2.2.2.drew⟩⟩
            case measure => simp [intOf]; omega
          | false =>
            go_wp2_with fail
            refine (HPK.out _).mono ?_
            rintro e w6 ⟨rfl, rfl⟩
            go_upto_region 16 with fail
            refine hide_world (X := fun W => Dsk (fun b => w.heap.size ≤ b ∧ b ≠ gs) r (doS s a) W ∧ Blk W gs 9 (sfc sf) ∧ Blk W gp 30 (actC a (.slice ka a.k.length kc)) ∧ Fr (fun b => w.heap.size ≤ b) w W) ⟨D5.out, BS5.out, BP5.out, F5.out⟩ ?_
            intro W8 hX
            have HX := Lib.hid hX
            clear hX
            go_region
            go_wp2_with fail
            cases hs2 : (doS s a).down with
            | false =>
              have HS2 := Lib.hid hs2
              clear hs2
              refine (down_at (HX.out.1.below (w' := W8.drew) ⟨rfl, rfl, rfl, Nat.le_refl _, fun _ _ => rfl⟩) false HS2.out).mono ?_
              rintro e w9 ⟨rfl, rfl⟩
              go_wp2_with fail
              go_roundw
              case rel => exact ⟨j + 1, doS s a, sf, by omega, by go_num, Lib.hid ⟨(HX.out.1.below (w' := W8.drew) ⟨rfl, rfl, rfl, Nat.le_refl _, fun _ _ => rfl⟩), HX.out.2.1, HSV.out, HX.out.2.2.2.drew⟩⟩
              case measure => simp [intOf]; omega
            | true =>
              have HCR := Lib.hid (do_crashed WF0.out a hsd hs2)
              have hs2' : (doS s a).down = true := hs2
              have HS2 := Lib.hid hs2'
              clear hs2 hs2'
              refine (down_at (HX.out.1.below (w' := W8.drew) ⟨rfl, rfl, rfl, Nat.le_refl _, fun _ _ => rfl⟩) true HS2.out).mono ?_
              rintro e w9 ⟨rfl, rfl⟩
              go_wp2_with fail
              refine (start_at (HX.out.1.below (w' := W8.drew) ⟨rfl, rfl, rfl, Nat.le_refl _, fun _ _ => rfl⟩) (s' := startS (doS s a)) rfl).mono ?_
              rintro e w10 ⟨rfl, hd, hf⟩
              have D10 := Lib.hid hd
              have B10 := Lib.hid (hf.blk (show Blk W8.drew gs 9 (sfc sf) from HX.out.2.1) (fun hn => hn.2 rfl))
              have F10 := Lib.hid (HX.out.2.2.2.drew.trans (hf.mono fun b hb => hb.1))
              clear hd hf
              go_wp2_with fail
              go_loopw [16] (fun i W => ∃ q : Nat, q ≤ 8 ∧ i = .int .i64 q ∧ Hid (Dsk (fun b => w.heap.size ≤ b ∧ b ≠ gs) r (startS (doS s a)) W ∧ Blk W gs 9 (sfc fun f => if f < q then (doS s a).F f else sf f) ∧ Fr (fun b => w.heap.size ≤ b) w W)) (fun i _ => 8 - (intOf i).toNat)
              case atStart => exact ⟨0, by omega, rfl, Lib.hid ⟨D10.out, by simpa using B10.out, F10.out⟩⟩
              case round =>
                obtain ⟨q, hq, rfl, HQ⟩ := hrel
                by_cases hq8 : q < 8
                · have hrd := read_up (s := startS (doS s a)) rfl hq8
                  have HR1 := Lib.hid hrd.1
                  have HR2 := Lib.hid (hrd.2.trans (show (startS (doS s a)).F q = (doS s a).F q from rfl))
                  have hbg := sv_begins WF5.out HSV.out hq8
                  have HBG := Lib.hid hbg
                  have hq8i : ((q : Nat) : Int) < 8 := by omega
                  clear hrd hbg
                  go_wp2_with fail
                  refine (read_dsk HQ.out.1 ((q : Nat) : Int)).mono ?_
                  rintro e w11 ⟨rfl, hb11⟩
                  rw [HR1.out, HR2.out]
                  have D11 := Lib.hid (HQ.out.1.below hb11)
                  have B11 := Lib.hid (HQ.out.2.1.below hb11 HQ.out.2.1.lt)
                  have F11 := Lib.hid (HQ.out.2.2.below hb11)
                  have r1 : w11.cell? ⟨gs, q, none⟩ = some (.string (sv (sf q))) := by rw [B11.out.cell q, sfc_at _ q hq8, if_neg (Nat.lt_irrefl q)]
                  have r2 := B11.out.frozen q
                  clear hb11
                  go_wp2_with fail
                  refine (begins_any ((doS s a).F q) (sf q) _).mono ?_
                  rintro e w12 ⟨rfl, rfl⟩
                  rw [HBG.out]
                  go_wp2_with fail
                  go_roundw
                  case rel => exact ⟨q + 1, by omega, by go_num, Lib.hid ⟨dsk_out D11.out (fun hn => hn.2 rfl) q _, by rw [← upd_next]; exact sf_set B11.out q _, F11.out.setCell (p := ⟨gs, q, none⟩) hgs _⟩⟩
                  case measure => simp [intOf]; omega
                · obtain rfl : q = 8 := by omega
                  go_wp2_with fail
                  refine (crash_nil HQ.out.1 (s' := crashS [] (startS (doS s a))) rfl).mono ?_
                  rintro e w11 ⟨rfl, hd, hf⟩
                  have D11 := Lib.hid hd
                  have B11 := Lib.hid (hf.blk HQ.out.2.1 (fun hn => hn.2 rfl))
                  have F11 := Lib.hid (HQ.out.2.2.trans (hf.mono fun b hb => hb.1))
                  have hsvn := sv_crashed (sf := sf) WF5.out HCR.out
                  have HSVN := Lib.hid hsvn
                  clear hd hf hsvn
                  go_wp2_with fail
                  go_roundw
                  case rel => exact ⟨j + 1, crashS [] (startS (doS s a)), fun f => if f < 8 then (doS s a).F f else sf f, by omega, by go_num, Lib.hid ⟨D11.out, B11.out, HSVN.out, F11.out⟩⟩
                  case measure => simp [intOf]; omega
      · by_cases hP3 : pick a.d = 3
        · have hP := hP3
          by_cases hE : doE s a = 0
          · obtain ⟨k, m, hk8, hf, hn, hsd, hsd2, hsv⟩ := nx3 WF0.out SV0.out hP hE
            have HSV := Lib.hid hsv
            have HS2 := Lib.hid hsd2
            have HFK := Lib.hid hf
            have HFM := Lib.hid hn
            have hk8i : ((k : Nat) : Int) < 8 := by omega
            have b2 : (((pick a.d : Nat) : Int) == 2) = false := by simp; omega
            have b3 : (((pick a.d : Nat) : Int) == 3) = true := by simp; omega
            have b4 : (((pick a.d : Nat) : Int) == 4) = false := by simp; omega
            have eb : (doE s a == 0) = true := by simpa using hE
            clear hsv hP hE hf hn hsd2 p1 p2 p3
            generalize doE s a = E at *
            generalize doB s a = BB at *
            generalize hpd : pick a.d = P at *
            clear hpd
            go_wp2_with fail
            refine (HPK.out _).mono ?_
            rintro e w6 ⟨rfl, rfl⟩
            go_upto_region 16 with fail
            refine hide_world (X := fun W => Dsk (fun b => w.heap.size ≤ b ∧ b ≠ gs) r (doS s a) W ∧ Blk W gs 9 (sfc sf) ∧ Blk W gp 30 (actC a (.slice ka a.k.length kc)) ∧ Fr (fun b => w.heap.size ≤ b) w W) ⟨D5.out, BS5.out, BP5.out, F5.out⟩ ?_
            intro W8 hX
            have HX := Lib.hid hX
            clear hX
            have r1 : W8.cell? ⟨gp, 1, none⟩ = some (.int .i64 ((k : Nat) : Int)) := by rw [← HFK.out]; exact HX.out.2.2.1.cell 1
            have r4 : W8.cell? ⟨gp, 3, none⟩ = some (.int .i64 ((m : Nat) : Int)) := by rw [← HFM.out]; exact HX.out.2.2.1.cell 3
            have r2 : W8.cell? ⟨gs, k, none⟩ = some (.string (sv (sf k))) := (HX.out.2.1.cell k).trans (sfc_at sf k hk8)
            have r3 := HX.out.2.1.frozen k
            clear p0
            by_cases hlen : m < (sf k).length
            · have hli : ((m : Nat) : Int) < (((sv (sf k)).size : Nat) : Int) := by rw [sv_size]; omega
              have hsl := fun W => slice_to (sf k) m (by omega) W
              go_region
              go_upto_region 17 with fail
              go_region
              go_upto_region 18 with fail
              refine hide_world (X := fun W => Dsk (fun b => w.heap.size ≤ b ∧ b ≠ gs) r (doS s a) W ∧ Blk W gs 9 (sfc (upd sf k ((sf k).take m))) ∧ Blk W gp 30 (actC a (.slice ka a.k.length kc)) ∧ Fr (fun b => w.heap.size ≤ b) w W) ⟨(dsk_out HX.out.1 (fun hn => hn.2 rfl) k _).below ⟨rfl, rfl, rfl, Nat.le_refl _, fun _ _ => rfl⟩, sf_set HX.out.2.1 k _, HX.out.2.2.1.far (p := ⟨gs, k, none⟩) HGG.out _, ((HX.out.2.2.2.setCell (p := ⟨gs, k, none⟩) hgs _).drew).drew⟩ ?_
              intro W10 hX
              have HY := Lib.hid hX
              clear hX
              go_wp2_with fail
              refine (down_at HY.out.1 false HS2.out).mono ?_
              rintro e w9 ⟨rfl, rfl⟩
              go_wp2_with fail
              go_roundw
              case rel => exact ⟨j + 1, doS s a, upd sf k ((sf k).take m), by omega, by go_num, Lib.hid ⟨HY.out.1, HY.out.2.1, HSV.out, HY.out.2.2.2⟩⟩
              case measure => simp [intOf]; omega
            · have hli : ¬ ((m : Nat) : Int) < (((sv (sf k)).size : Nat) : Int) := by rw [sv_size]; omega
              have hsame : upd sf k ((sf k).take m) = sf := by rw [List.take_of_length_le (by omega), upd_self]
              have HSAME := Lib.hid hsame
              clear hsame
              go_region
              go_wp2_with fail
              refine (down_at (HX.out.1.below (w' := W8.drew) ⟨rfl, rfl, rfl, Nat.le_refl _, fun _ _ => rfl⟩) false HS2.out).mono ?_
              rintro e w9 ⟨rfl, rfl⟩
              go_wp2_with fail
              go_roundw
              case rel => exact ⟨j + 1, doS s a, upd sf k ((sf k).take m), by omega, by go_num, Lib.hid ⟨(HX.out.1.below (w' := W8.drew) ⟨rfl, rfl, rfl, Nat.le_refl _, fun _ _ => rfl⟩), by rw [HSAME.out]; exact HX.out.2.1, HSV.out, HX.out.2.2.2.drew⟩⟩
              case measure => simp [intOf]; omega
          · have hsv := nx0 WF0.out SV0.out (a := a) (.inr hE)
            have HSV := Lib.hid hsv
            have b2 : (((pick a.d : Nat) : Int) == 2) = false := by simp; omega
            have b3 : (((pick a.d : Nat) : Int) == 3) = true := by simp; omega
            have b4 : (((pick a.d : Nat) : Int) == 4) = false := by simp; omega
            have eb : (doE s a == 0) = false := by simpa using hE
            clear hsv hP2 hP3 hP hE p1 p2 p3
            generalize doE s a = E at *
            generalize doB s a = BB at *
            generalize hpd : pick a.d = P at *
            clear hpd
            cases hsd : s.down with
            | true =>
              go_wp2_with fail
              refine (HPK.out _).mono ?_
              rintro e w6 ⟨rfl, rfl⟩
              go_upto_region 16 with fail
              refine hide_world (X := fun W => Dsk (fun b => w.heap.size ≤ b ∧ b ≠ gs) r (doS s a) W ∧ Blk W gs 9 (sfc sf) ∧ Blk W gp 30 (actC a (.slice ka a.k.length kc)) ∧ Fr (fun b => w.heap.size ≤ b) w W) ⟨D5.out, BS5.out, BP5.out, F5.out⟩ ?_
              intro W8 hX
              have HX := Lib.hid hX
              clear hX
              go_region
              go_wp2_with fail
              go_roundw
              case rel => exact ⟨j + 1, doS s a, sf, by omega, by go_num, Lib.hid ⟨(HX.out.1.below (w' := W8.drew) ⟨rfl, rfl, rfl, Nat.le_refl _, fun _ _ => rfl⟩), HX.out.2.1, HSV.out, HX.out.2.2.2.drew⟩⟩
              case measure => simp [intOf]; omega
            | false =>
              go_wp2_with fail
              refine (HPK.out _).mono ?_
              rintro e w6 ⟨rfl, rfl⟩
              go_upto_region 16 with fail
              refine hide_world (X := fun W => Dsk (fun b => w.heap.size ≤ b ∧ b ≠ gs) r (doS s a) W ∧ Blk W gs 9 (sfc sf) ∧ Blk W gp 30 (actC a (.slice ka a.k.length kc)) ∧ Fr (fun b => w.heap.size ≤ b) w W) ⟨D5.out, BS5.out, BP5.out, F5.out⟩ ?_
              intro W8 hX
              have HX := Lib.hid hX
              clear hX
              go_region
              go_wp2_with fail
              cases hs2 : (doS s a).down with
              | false =>
                have HS2 := Lib.hid hs2
                clear hs2
                refine (down_at (HX.out.1.below (w' := W8.drew) ⟨rfl, rfl, rfl, Nat.le_refl _, fun _ _ => rfl⟩) false HS2.out).mono ?_
                rintro e w9 ⟨rfl, rfl⟩
                go_wp2_with fail
                go_roundw
                case rel => exact ⟨j + 1, doS s a, sf, by omega, by go_num, Lib.hid ⟨(HX.out.1.below (w' := W8.drew) ⟨rfl, rfl, rfl, Nat.le_refl _, fun _ _ => rfl⟩), HX.out.2.1, HSV.out, HX.out.2.2.2.drew⟩⟩
                case measure => simp [intOf]; omega
              | true =>
                have HCR := Lib.hid (do_crashed WF0.out a hsd hs2)
                have hs2' : (doS s a).down = true := hs2
                have HS2 := Lib.hid hs2'
                clear hs2 hs2'
                refine (down_at (HX.out.1.below (w' := W8.drew) ⟨rfl, rfl, rfl, Nat.le_refl _, fun _ _ => rfl⟩) true HS2.out).mono ?_
                rintro e w9 ⟨rfl, rfl⟩
                go_wp2_with fail
                refine (start_at (HX.out.1.below (w' := W8.drew) ⟨rfl, rfl, rfl, Nat.le_refl _, fun _ _ => rfl⟩) (s' := startS (doS s a)) rfl).mono ?_
                rintro e w10 ⟨rfl, hd, hf⟩
                have D10 := Lib.hid hd
                have B10 := Lib.hid (hf.blk (show Blk W8.drew gs 9 (sfc sf) from HX.out.2.1) (fun hn => hn.2 rfl))
                have F10 := Lib.hid (HX.out.2.2.2.drew.trans (hf.mono fun b hb => hb.1))
                clear hd hf
                go_wp2_with fail
                go_loopw [16] (fun i W => ∃ q : Nat, q ≤ 8 ∧ i = .int .i64 q ∧ Hid (Dsk (fun b => w.heap.size ≤ b ∧ b ≠ gs) r (startS (doS s a)) W ∧ Blk W gs 9 (sfc fun f => if f < q then (doS s a).F f else sf f) ∧ Fr (fun b => w.heap.size ≤ b) w W)) (fun i _ => 8 - (intOf i).toNat)
                case atStart => exact ⟨0, by omega, rfl, Lib.hid ⟨D10.out, by simpa using B10.out, F10.out⟩⟩
                case round =>
                  obtain ⟨q, hq, rfl, HQ⟩ := hrel
                  by_cases hq8 : q < 8
                  · have hrd := read_up (s := startS (doS s a)) rfl hq8
                    have HR1 := Lib.hid hrd.1
                    have HR2 := Lib.hid (hrd.2.trans (show (startS (doS s a)).F q = (doS s a).F q from rfl))
                    have hbg := sv_begins WF5.out HSV.out hq8
                    have HBG := Lib.hid hbg
                    have hq8i : ((q : Nat) : Int) < 8 := by omega
                    clear hrd hbg
                    go_wp2_with fail
                    refine (read_dsk HQ.out.1 ((q : Nat) : Int)).mono ?_
                    rintro e w11 ⟨rfl, hb11⟩
                    rw [HR1.out, HR2.out]
                    have D11 := Lib.hid (HQ.out.1.below hb11)
                    have B11 := Lib.hid (HQ.out.2.1.below hb11 HQ.out.2.1.lt)
                    have F11 := Lib.hid (HQ.out.2.2.below hb11)
                    have r1 : w11.cell? ⟨gs, q, none⟩ = some (.string (sv (sf q))) := by rw [B11.out.cell q, sfc_at _ q hq8, if_neg (Nat.lt_irrefl q)]
                    have r2 := B11.out.frozen q
                    clear hb11
                    go_wp2_with fail
                    refine (begins_any ((doS s a).F q) (sf q) _).mono ?_
                    rintro e w12 ⟨rfl, rfl⟩
                    rw [HBG.out]
                    go_wp2_with fail
                    go_roundw
                    case rel => exact ⟨q + 1, by omega, by go_num, Lib.hid ⟨dsk_out D11.out (fun hn => hn.2 rfl) q _, by rw [← upd_next]; exact sf_set B11.out q _, F11.out.setCell (p := ⟨gs, q, none⟩) hgs _⟩⟩
                    case measure => simp [intOf]; omega
                  · obtain rfl : q = 8 := by omega
                    go_wp2_with fail
                    refine (crash_nil HQ.out.1 (s' := crashS [] (startS (doS s a))) rfl).mono ?_
                    rintro e w11 ⟨rfl, hd, hf⟩
                    have D11 := Lib.hid hd
                    have B11 := Lib.hid (hf.blk HQ.out.2.1 (fun hn => hn.2 rfl))
                    have F11 := Lib.hid (HQ.out.2.2.trans (hf.mono fun b hb => hb.1))
                    have hsvn := sv_crashed (sf := sf) WF5.out HCR.out
                    have HSVN := Lib.hid hsvn
                    clear hd hf hsvn
                    go_wp2_with fail
                    go_roundw
                    case rel => exact ⟨j + 1, crashS [] (startS (doS s a)), fun f => if f < 8 then (doS s a).F f else sf f, by omega, by go_num, Lib.hid ⟨D11.out, B11.out, HSVN.out, F11.out⟩⟩
                    case measure => simp [intOf]; omega
        · by_cases hP4 : pick a.d = 4
          · have hP := hP4
            by_cases hE : doE s a = 0
            · obtain ⟨k, l', hk8, hl8, hf, hg, hsd, hsd2, hsv⟩ := nx4 WF0.out SV0.out hP hE
              have HSV := Lib.hid hsv
              have HS2 := Lib.hid hsd2
              have HFK := Lib.hid hf
              have HFL := Lib.hid hg
              have hk8i : ((k : Nat) : Int) < 8 := by omega
              have hl8i : ((l' : Nat) : Int) < 8 := by omega
              have b2 : (((pick a.d : Nat) : Int) == 2) = false := by simp; omega
              have b3 : (((pick a.d : Nat) : Int) == 3) = false := by simp; omega
              have b4 : (((pick a.d : Nat) : Int) == 4) = true := by simp; omega
              have eb : (doE s a == 0) = true := by simpa using hE
              clear hsv hP hE hf hg hsd2 p1 p2 p3
              generalize doE s a = E at *
              generalize doB s a = BB at *
              generalize hpd : pick a.d = P at *
              clear hpd
              go_wp2_with fail
              refine (HPK.out _).mono ?_
              rintro e w6 ⟨rfl, rfl⟩
              go_upto_region 16 with fail
              refine hide_world (X := fun W => Dsk (fun b => w.heap.size ≤ b ∧ b ≠ gs) r (doS s a) W ∧ Blk W gs 9 (sfc sf) ∧ Blk W gp 30 (actC a (.slice ka a.k.length kc)) ∧ Fr (fun b => w.heap.size ≤ b) w W) ⟨D5.out, BS5.out, BP5.out, F5.out⟩ ?_
              intro W8 hX
              have HX := Lib.hid hX
              clear hX
              go_region
              go_upto_region 19 with fail
              refine hide_world (X := fun W => Dsk (fun b => w.heap.size ≤ b ∧ b ≠ gs) r (doS s a) W ∧ Blk W gs 9 (sfc sf) ∧ Blk W gp 30 (actC a (.slice ka a.k.length kc)) ∧ Fr (fun b => w.heap.size ≤ b) w W) ⟨(HX.out.1.below (w' := W8.drew) ⟨rfl, rfl, rfl, Nat.le_refl _, fun _ _ => rfl⟩), HX.out.2.1, HX.out.2.2.1, HX.out.2.2.2.drew⟩ ?_
              intro W9 hX
              have HX9 := Lib.hid hX
              clear hX
              have r1 : W9.cell? ⟨gp, 1, none⟩ = some (.int .i64 ((k : Nat) : Int)) := by rw [← HFK.out]; exact HX9.out.2.2.1.cell 1
              have r4 : W9.cell? ⟨gp, 2, none⟩ = some (.int .i64 ((l' : Nat) : Int)) := by rw [← HFL.out]; exact HX9.out.2.2.1.cell 2
              have r2 : W9.cell? ⟨gs, k, none⟩ = some (.string (sv (sf k))) := (HX9.out.2.1.cell k).trans (sfc_at sf k hk8)
              have r5 : W9.cell? ⟨gs, l', none⟩ = some (.string (sv (sf l'))) := (HX9.out.2.1.cell l').trans (sfc_at sf l' hl8)
              have r3 := HX9.out.2.1.frozen k
              clear p0
              go_region
              go_upto_region 20 with fail
              refine hide_world (X := fun W => Dsk (fun b => w.heap.size ≤ b ∧ b ≠ gs) r (doS s a) W ∧ Blk W gs 9 (sfc (upd sf k (sf l'))) ∧ Blk W gp 30 (actC a (.slice ka a.k.length kc)) ∧ Fr (fun b => w.heap.size ≤ b) w W) ⟨(dsk_out HX9.out.1 (fun hn => hn.2 rfl) k _).below ⟨rfl, rfl, rfl, Nat.le_refl _, fun _ _ => rfl⟩, sf_set HX9.out.2.1 k _, HX9.out.2.2.1.far (p := ⟨gs, k, none⟩) HGG.out _, (HX9.out.2.2.2.setCell (p := ⟨gs, k, none⟩) hgs _).drew⟩ ?_
              intro W10 hX
              have HY := Lib.hid hX
              clear hX
              have r4 : W10.cell? ⟨gp, 2, none⟩ = some (.int .i64 ((l' : Nat) : Int)) := by rw [← HFL.out]; exact HY.out.2.2.1.cell 2
              have r5 : W10.cell? ⟨gs, l', none⟩ = some (.string (sv (upd sf k (sf l') l'))) := (HY.out.2.1.cell l').trans (sfc_at _ l' hl8)
              have r3 := HY.out.2.1.frozen l'
              have D11 := Lib.hid (dsk_out HY.out.1 (fun hn => hn.2 rfl) l' (.string ⟨#[]⟩))
              have B11 := Lib.hid (sf_set HY.out.2.1 l' [])
              have F11 := Lib.hid (HY.out.2.2.2.setCell (p := ⟨gs, l', none⟩) hgs (.string ⟨#[]⟩))
              go_wp2_with fail
              refine (down_at D11.out false HS2.out).mono ?_
              rintro e w9 ⟨rfl, rfl⟩
              go_wp2_with fail
              go_roundw
              case rel => exact ⟨j + 1, doS s a, upd (upd sf k (sf l')) l' [], by omega, by go_num, Lib.hid ⟨D11.out, B11.out, HSV.out, F11.out⟩⟩
              case measure => simp [intOf]; omega
            · have hsv := nx0 WF0.out SV0.out (a := a) (.inr hE)
              have HSV := Lib.hid hsv
              have b2 : (((pick a.d : Nat) : Int) == 2) = false := by simp; omega
              have b3 : (((pick a.d : Nat) : Int) == 3) = false := by simp; omega
              have b4 : (((pick a.d : Nat) : Int) == 4) = true := by simp; omega
              have eb : (doE s a == 0) = false := by simpa using hE
              clear hsv hP2 hP3 hP4 hP hE p1 p2 p3
              generalize doE s a = E at *
              generalize doB s a = BB at *
              generalize hpd : pick a.d = P at *
              clear hpd
              cases hsd : s.down with
              | true =>
                go_wp2_with fail
                refine (HPK.out _).mono ?_
                rintro e w6 ⟨rfl, rfl⟩
                go_upto_region 16 with fail
                refine hide_world (X := fun W => Dsk (fun b => w.heap.size ≤ b ∧ b ≠ gs) r (doS s a) W ∧ Blk W gs 9 (sfc sf) ∧ Blk W gp 30 (actC a (.slice ka a.k.length kc)) ∧ Fr (fun b => w.heap.size ≤ b) w W) ⟨D5.out, BS5.out, BP5.out, F5.out⟩ ?_
                intro W8 hX
                have HX := Lib.hid hX
                clear hX
                go_region
                go_wp2_with fail
                go_roundw
                case rel => exact ⟨j + 1, doS s a, sf, by omega, by go_num, Lib.hid ⟨(HX.out.1.below (w' := W8.drew) ⟨rfl, rfl, rfl, Nat.le_refl _, fun _ _ => rfl⟩), HX.out.2.1, HSV.out, HX.out.2.2.2.drew⟩⟩
                case measure => simp [intOf]; omega
              | false =>
                go_wp2_with fail
                refine (HPK.out _).mono ?_
                rintro e w6 ⟨rfl, rfl⟩
                go_upto_region 16 with fail
                refine hide_world (X := fun W => Dsk (fun b => w.heap.size ≤ b ∧ b ≠ gs) r (doS s a) W ∧ Blk W gs 9 (sfc sf) ∧ Blk W gp 30 (actC a (.slice ka a.k.length kc)) ∧ Fr (fun b => w.heap.size ≤ b) w W) ⟨D5.out, BS5.out, BP5.out, F5.out⟩ ?_
                intro W8 hX
                have HX := Lib.hid hX
                clear hX
                go_region
                go_wp2_with fail
                cases hs2 : (doS s a).down with
                | false =>
                  have HS2 := Lib.hid hs2
                  clear hs2
                  refine (down_at (HX.out.1.below (w' := W8.drew) ⟨rfl, rfl, rfl, Nat.le_refl _, fun _ _ => rfl⟩) false HS2.out).mono ?_
                  rintro e w9 ⟨rfl, rfl⟩
                  go_wp2_with fail
                  go_roundw
                  case rel => exact ⟨j + 1, doS s a, sf, by omega, by go_num, Lib.hid ⟨(HX.out.1.below (w' := W8.drew) ⟨rfl, rfl, rfl, Nat.le_refl _, fun _ _ => rfl⟩), HX.out.2.1, HSV.out, HX.out.2.2.2.drew⟩⟩
                  case measure => simp [intOf]; omega
                | true =>
                  have HCR := Lib.hid (do_crashed WF0.out a hsd hs2)
                  have hs2' : (doS s a).down = true := hs2
                  have HS2 := Lib.hid hs2'
                  clear hs2 hs2'
                  refine (down_at (HX.out.1.below (w' := W8.drew) ⟨rfl, rfl, rfl, Nat.le_refl _, fun _ _ => rfl⟩) true HS2.out).mono ?_
                  rintro e w9 ⟨rfl, rfl⟩
                  go_wp2_with fail
                  refine (start_at (HX.out.1.below (w' := W8.drew) ⟨rfl, rfl, rfl, Nat.le_refl _, fun _ _ => rfl⟩) (s' := startS (doS s a)) rfl).mono ?_
                  rintro e w10 ⟨rfl, hd, hf⟩
                  have D10 := Lib.hid hd
                  have B10 := Lib.hid (hf.blk (show Blk W8.drew gs 9 (sfc sf) from HX.out.2.1) (fun hn => hn.2 rfl))
                  have F10 := Lib.hid (HX.out.2.2.2.drew.trans (hf.mono fun b hb => hb.1))
                  clear hd hf
                  go_wp2_with fail
                  go_loopw [16] (fun i W => ∃ q : Nat, q ≤ 8 ∧ i = .int .i64 q ∧ Hid (Dsk (fun b => w.heap.size ≤ b ∧ b ≠ gs) r (startS (doS s a)) W ∧ Blk W gs 9 (sfc fun f => if f < q then (doS s a).F f else sf f) ∧ Fr (fun b => w.heap.size ≤ b) w W)) (fun i _ => 8 - (intOf i).toNat)
                  case atStart => exact ⟨0, by omega, rfl, Lib.hid ⟨D10.out, by simpa using B10.out, F10.out⟩⟩
                  case round =>
                    obtain ⟨q, hq, rfl, HQ⟩ := hrel
                    by_cases hq8 : q < 8
                    · have hrd := read_up (s := startS (doS s a)) rfl hq8
                      have HR1 := Lib.hid hrd.1
                      have HR2 := Lib.hid (hrd.2.trans (show (startS (doS s a)).F q = (doS s a).F q from rfl))
                      have hbg := sv_begins WF5.out HSV.out hq8
                      have HBG := Lib.hid hbg
                      have hq8i : ((q : Nat) : Int) < 8 := by omega
                      clear hrd hbg
                      go_wp2_with fail
                      refine (read_dsk HQ.out.1 ((q : Nat) : Int)).mono ?_
                      rintro e w11 ⟨rfl, hb11⟩
                      rw [HR1.out, HR2.out]
                      have D11 := Lib.hid (HQ.out.1.below hb11)
                      have B11 := Lib.hid (HQ.out.2.1.below hb11 HQ.out.2.1.lt)
                      have F11 := Lib.hid (HQ.out.2.2.below hb11)
                      have r1 : w11.cell? ⟨gs, q, none⟩ = some (.string (sv (sf q))) := by rw [B11.out.cell q, sfc_at _ q hq8, if_neg (Nat.lt_irrefl q)]
                      have r2 := B11.out.frozen q
                      clear hb11
                      go_wp2_with fail
                      refine (begins_any ((doS s a).F q) (sf q) _).mono ?_
                      rintro e w12 ⟨rfl, rfl⟩
                      rw [HBG.out]
                      go_wp2_with fail
                      go_roundw
                      case rel => exact ⟨q + 1, by omega, by go_num, Lib.hid ⟨dsk_out D11.out (fun hn => hn.2 rfl) q _, by rw [← upd_next]; exact sf_set B11.out q _, F11.out.setCell (p := ⟨gs, q, none⟩) hgs _⟩⟩
                      case measure => simp [intOf]; omega
                    · obtain rfl : q = 8 := by omega
                      go_wp2_with fail
                      refine (crash_nil HQ.out.1 (s' := crashS [] (startS (doS s a))) rfl).mono ?_
                      rintro e w11 ⟨rfl, hd, hf⟩
                      have D11 := Lib.hid hd
                      have B11 := Lib.hid (hf.blk HQ.out.2.1 (fun hn => hn.2 rfl))
                      have F11 := Lib.hid (HQ.out.2.2.trans (hf.mono fun b hb => hb.1))
                      have hsvn := sv_crashed (sf := sf) WF5.out HCR.out
                      have HSVN := Lib.hid hsvn
                      clear hd hf hsvn
                      go_wp2_with fail
                      go_roundw
                      case rel => exact ⟨j + 1, crashS [] (startS (doS s a)), fun f => if f < 8 then (doS s a).F f else sf f, by omega, by go_num, Lib.hid ⟨D11.out, B11.out, HSVN.out, F11.out⟩⟩
                      case measure => simp [intOf]; omega
          · have hP := hP4
            have hsv := nx0 WF0.out SV0.out (a := a) (.inl ⟨hP2, hP3, hP4⟩)
            have HSV := Lib.hid hsv
            have b2 : (((pick a.d : Nat) : Int) == 2) = false := by simp; omega
            have b3 : (((pick a.d : Nat) : Int) == 3) = false := by simp; omega
            have b4 : (((pick a.d : Nat) : Int) == 4) = false := by simp; omega
            clear hsv hP2 hP3 hP4 hP p1 p2 p3
            generalize doE s a = E at *
            generalize doB s a = BB at *
            generalize hpd : pick a.d = P at *
            clear hpd
            cases hsd : s.down with
            | true =>
              go_wp2_with fail
              refine (HPK.out _).mono ?_
              rintro e w6 ⟨rfl, rfl⟩
              go_upto_region 16 with fail
              refine hide_world (X := fun W => Dsk (fun b => w.heap.size ≤ b ∧ b ≠ gs) r (doS s a) W ∧ Blk W gs 9 (sfc sf) ∧ Blk W gp 30 (actC a (.slice ka a.k.length kc)) ∧ Fr (fun b => w.heap.size ≤ b) w W) ⟨D5.out, BS5.out, BP5.out, F5.out⟩ ?_
              intro W8 hX
              have HX := Lib.hid hX
              clear hX
              go_region
              go_wp2_with fail
              go_roundw
              case rel => exact ⟨j + 1, doS s a, sf, by omega, by go_num, Lib.hid ⟨(HX.out.1.below (w' := W8.drew) ⟨rfl, rfl, rfl, Nat.le_refl _, fun _ _ => rfl⟩), HX.out.2.1, HSV.out, HX.out.2.2.2.drew⟩⟩
              case measure => simp [intOf]; omega
            | false =>
              go_wp2_with fail
              refine (HPK.out _).mono ?_
              rintro e w6 ⟨rfl, rfl⟩
              go_upto_region 16 with fail
              refine hide_world (X := fun W => Dsk (fun b => w.heap.size ≤ b ∧ b ≠ gs) r (doS s a) W ∧ Blk W gs 9 (sfc sf) ∧ Blk W gp 30 (actC a (.slice ka a.k.length kc)) ∧ Fr (fun b => w.heap.size ≤ b) w W) ⟨D5.out, BS5.out, BP5.out, F5.out⟩ ?_
              intro W8 hX
              have HX := Lib.hid hX
              clear hX
              go_region
              go_wp2_with fail
              cases hs2 : (doS s a).down with
              | false =>
                have HS2 := Lib.hid hs2
                clear hs2
                refine (down_at (HX.out.1.below (w' := W8.drew) ⟨rfl, rfl, rfl, Nat.le_refl _, fun _ _ => rfl⟩) false HS2.out).mono ?_
                rintro e w9 ⟨rfl, rfl⟩
                go_wp2_with fail
                go_roundw
                case rel => exact ⟨j + 1, doS s a, sf, by omega, by go_num, Lib.hid ⟨(HX.out.1.below (w' := W8.drew) ⟨rfl, rfl, rfl, Nat.le_refl _, fun _ _ => rfl⟩), HX.out.2.1, HSV.out, HX.out.2.2.2.drew⟩⟩
                case measure => simp [intOf]; omega
              | true =>
                have HCR := Lib.hid (do_crashed WF0.out a hsd hs2)
                have hs2' : (doS s a).down = true := hs2
                have HS2 := Lib.hid hs2'
                clear hs2 hs2'
                refine (down_at (HX.out.1.below (w' := W8.drew) ⟨rfl, rfl, rfl, Nat.le_refl _, fun _ _ => rfl⟩) true HS2.out).mono ?_
                rintro e w9 ⟨rfl, rfl⟩
                go_wp2_with fail
                refine (start_at (HX.out.1.below (w' := W8.drew) ⟨rfl, rfl, rfl, Nat.le_refl _, fun _ _ => rfl⟩) (s' := startS (doS s a)) rfl).mono ?_
                rintro e w10 ⟨rfl, hd, hf⟩
                have D10 := Lib.hid hd
                have B10 := Lib.hid (hf.blk (show Blk W8.drew gs 9 (sfc sf) from HX.out.2.1) (fun hn => hn.2 rfl))
                have F10 := Lib.hid (HX.out.2.2.2.drew.trans (hf.mono fun b hb => hb.1))
                clear hd hf
                go_wp2_with fail
                go_loopw [16] (fun i W => ∃ q : Nat, q ≤ 8 ∧ i = .int .i64 q ∧ Hid (Dsk (fun b => w.heap.size ≤ b ∧ b ≠ gs) r (startS (doS s a)) W ∧ Blk W gs 9 (sfc fun f => if f < q then (doS s a).F f else sf f) ∧ Fr (fun b => w.heap.size ≤ b) w W)) (fun i _ => 8 - (intOf i).toNat)
                case atStart => exact ⟨0, by omega, rfl, Lib.hid ⟨D10.out, by simpa using B10.out, F10.out⟩⟩
                case round =>
                  obtain ⟨q, hq, rfl, HQ⟩ := hrel
                  by_cases hq8 : q < 8
                  · have hrd := read_up (s := startS (doS s a)) rfl hq8
                    have HR1 := Lib.hid hrd.1
                    have HR2 := Lib.hid (hrd.2.trans (show (startS (doS s a)).F q = (doS s a).F q from rfl))
                    have hbg := sv_begins WF5.out HSV.out hq8
                    have HBG := Lib.hid hbg
                    have hq8i : ((q : Nat) : Int) < 8 := by omega
                    clear hrd hbg
                    go_wp2_with fail
                    refine (read_dsk HQ.out.1 ((q : Nat) : Int)).mono ?_
                    rintro e w11 ⟨rfl, hb11⟩
                    rw [HR1.out, HR2.out]
                    have D11 := Lib.hid (HQ.out.1.below hb11)
                    have B11 := Lib.hid (HQ.out.2.1.below hb11 HQ.out.2.1.lt)
                    have F11 := Lib.hid (HQ.out.2.2.below hb11)
                    have r1 : w11.cell? ⟨gs, q, none⟩ = some (.string (sv (sf q))) := by rw [B11.out.cell q, sfc_at _ q hq8, if_neg (Nat.lt_irrefl q)]
                    have r2 := B11.out.frozen q
                    clear hb11
                    go_wp2_with fail
                    refine (begins_any ((doS s a).F q) (sf q) _).mono ?_
                    rintro e w12 ⟨rfl, rfl⟩
                    rw [HBG.out]
                    go_wp2_with fail
                    go_roundw
                    case rel => exact ⟨q + 1, by omega, by go_num, Lib.hid ⟨dsk_out D11.out (fun hn => hn.2 rfl) q _, by rw [← upd_next]; exact sf_set B11.out q _, F11.out.setCell (p := ⟨gs, q, none⟩) hgs _⟩⟩
                    case measure => simp [intOf]; omega
                  · obtain rfl : q = 8 := by omega
                    go_wp2_with fail
                    refine (crash_nil HQ.out.1 (s' := crashS [] (startS (doS s a))) rfl).mono ?_
                    rintro e w11 ⟨rfl, hd, hf⟩
                    have D11 := Lib.hid hd
                    have B11 := Lib.hid (hf.blk HQ.out.2.1 (fun hn => hn.2 rfl))
                    have F11 := Lib.hid (HQ.out.2.2.trans (hf.mono fun b hb => hb.1))
                    have hsvn := sv_crashed (sf := sf) WF5.out HCR.out
                    have HSVN := Lib.hid hsvn
                    clear hd hf hsvn
                    go_wp2_with fail
                    go_roundw
                    case rel => exact ⟨j + 1, crashS [] (startS (doS s a)), fun f => if f < 8 then (doS s a).F f else sf f, by omega, by go_num, Lib.hid ⟨D11.out, B11.out, HSVN.out, F11.out⟩⟩
                    case measure => simp [intOf]; omega
    · obtain rfl : j = N := by omega
      have SV0 := Lib.hid (sv_off HD.out.2.2.1)
      have D0 := Lib.hid HD.out.1
      have B0 := Lib.hid HD.out.2.1
      have F0 := Lib.hid HD.out.2.2.2
      clear HD
      go_wp2_with fail
      refine (arm_nil D0.out (s' := armS s 0 []) rfl).mono ?_
      rintro e w4 ⟨rfl, hd, hf⟩
      have D1 := Lib.hid hd
      have B1 := Lib.hid (hf.blk B0.out (fun hn => hn.2 rfl))
      have F1 := Lib.hid (F0.out.trans (hf.mono fun b hb => hb.1))
      clear hd hf
      go_wp2_with fail
      refine (start_at D1.out (s' := startS (armS s 0 [])) rfl).mono ?_
      rintro e w5 ⟨rfl, hd, hf⟩
      have D2 := Lib.hid hd
      have B2 := Lib.hid (hf.blk B1.out (fun hn => hn.2 rfl))
      have F2 := Lib.hid (F1.out.trans (hf.mono fun b hb => hb.1))
      clear hd hf
      generalize hs1 : startS (armS s 0 []) = s1 at *
      have hup : s1.down = false := by rw [← hs1]; rfl
      have HUP := Lib.hid hup
      clear hs1 hup
      have hmk := HMK.out w5
      go_wp2_with fail
      clear hmk
      have D3 := Lib.hid (D2.out.hide (below_alloc w5 (.cells (sfc fun _ => []) 9 (0, 0))) (Nat.le_refl _) (by simp))
      have B3 := Lib.hid (B2.out.alloc (.cells (sfc fun _ => []) 9 (0, 0)))
      have C3 := Lib.hid (Blk.new w5 9 (sfc fun _ => []))
      have F3 := Lib.hid (F2.out.alloc (.cells (sfc fun _ => []) 9 (0, 0)))
      have hgw : w.heap.size ≤ w5.heap.size := F2.out.size
      have hgwgs : gs ≠ w5.heap.size := by have := B2.out.lt; omega
      have HGW := Lib.hid hgwgs
      clear hgwgs
      generalize w5.heap.size = gw at *
      go_loopw [20] (fun i W => ∃ q : Nat, q ≤ 8 ∧ i = .int .i64 q ∧ Hid (Dsk (fun b => (w.heap.size ≤ b ∧ b ≠ gs) ∧ b ≠ gw) r s1 W ∧ Blk W gs 9 (sfc sf) ∧ Blk W gw 9 (sfc fun f => if f < q then s1.F f else []) ∧ Fr (fun b => w.heap.size ≤ b) w W)) (fun i _ => 8 - (intOf i).toNat)
      case atStart => exact ⟨0, by omega, rfl, Lib.hid ⟨D3.out, B3.out, by simpa using C3.out, F3.out⟩⟩
      case round =>
        obtain ⟨q, hq, rfl, HQ⟩ := hrel
        by_cases hq8 : q < 8
        · have hrd := read_up (s := s1) HUP.out hq8
          have HR1 := Lib.hid hrd.1
          have HR2 := Lib.hid hrd.2
          have hq8i : ((q : Nat) : Int) < 8 := by omega
          clear hrd
          go_wp2_with fail
          refine (read_dsk HQ.out.1 ((q : Nat) : Int)).mono ?_
          rintro e w11 ⟨rfl, hb11⟩
          rw [HR1.out, HR2.out]
          have D11 := Lib.hid (HQ.out.1.below hb11)
          have B11 := Lib.hid (HQ.out.2.1.below hb11 HQ.out.2.1.lt)
          have C11 := Lib.hid (HQ.out.2.2.1.below hb11 HQ.out.2.2.1.lt)
          have F11 := Lib.hid (HQ.out.2.2.2.below hb11)
          have r1 : w11.cell? ⟨gw, q, none⟩ = some (.string (sv [])) := by rw [C11.out.cell q, sfc_at _ q hq8, if_neg (Nat.lt_irrefl q)]
          have r2 := C11.out.frozen q
          clear hb11
          go_wp2_with fail
          go_roundw
          case rel => exact ⟨q + 1, by omega, by go_num, Lib.hid ⟨dsk_out D11.out (fun hn => hn.2 rfl) q _, B11.out.far (p := ⟨gw, q, none⟩) HGW.out _, by rw [← upd_next]; exact sf_set C11.out q _, F11.out.setCell (p := ⟨gw, q, none⟩) hgw _⟩⟩
          case measure => simp [intOf]; omega
        · obtain rfl : q = 8 := by omega
          have hkI := HK.out.fr HQ.out.2.2.2 (fun b hb hn => by have := HKL.out b hb; omega)
          rw [HKV.out] at hkI
          have HKI := Lib.hid hkI
          have hkb : ∀ b, vblock (.slice ka0 kn0 kc0) = some b → b < w.heap.size := fun b hb => HKL.out b (by rw [HKV.out]; exact hb)
          have HKB := Lib.hid hkb
          have HC8 := Lib.hid (show Blk wr gw 9 (sfc fun f => if f < 8 then s1.F f else []) from HQ.out.2.2.1)
          have WF1 := Lib.hid HQ.out.1.1
          have SV2 := Lib.hid (sv_crash HQ.out.1.1 SV0.out ks)
          clear hkI hkb
          go_wp2_with fail
          refine (crash_at HQ.out.1 HKI.out HJ.out (fun b hb hn => by have := HKB.out b hb; have := hn.1.1; omega) (s' := crashS ks s1) rfl).mono ?_
          rintro e w6 ⟨rfl, hd, hf⟩
          have D6 := Lib.hid hd
          have B6 := Lib.hid (hf.blk HQ.out.2.1 (fun hn => hn.1.2 rfl))
          have C6 := Lib.hid (hf.blk HC8.out (fun hn => hn.2 rfl))
          have F6 := Lib.hid (HQ.out.2.2.2.trans (hf.mono fun b hb => hb.1.1))
          clear hd hf
          go_wp2_with fail
          refine (start_at D6.out (s' := startS (crashS ks s1)) rfl).mono ?_
          rintro e w7 ⟨rfl, hd, hf⟩
          have D7 := Lib.hid hd
          have B7 := Lib.hid (hf.blk B6.out (fun hn => hn.1.2 rfl))
          have C7 := Lib.hid (hf.blk C6.out (fun hn => hn.2 rfl))
          have F7 := Lib.hid (F6.out.trans (hf.mono fun b hb => hb.1.1))
          clear hd hf
          go_wp2_with fail
          go_loopw [23] (fun i W => ∃ q : Nat, q ≤ 8 ∧ i = .int .i64 q ∧ Hid (Dsk (fun b => (w.heap.size ≤ b ∧ b ≠ gs) ∧ b ≠ gw) r (startS (crashS ks s1)) W ∧ Blk W gs 9 (sfc sf) ∧ Blk W gw 9 (sfc fun f => if f < 8 then s1.F f else []) ∧ Fr (fun b => w.heap.size ≤ b) w W)) (fun i _ => 8 - (intOf i).toNat)
          case atStart => exact ⟨0, by omega, rfl, Lib.hid ⟨D7.out, B7.out, C7.out, F7.out⟩⟩
          case round =>
            obtain ⟨q, hq, rfl, HQ⟩ := hrel
            by_cases hq8 : q < 8
            · have hrd := read_up (s := startS (crashS ks s1)) rfl hq8
              have HR1 := Lib.hid hrd.1
              have HR2 := Lib.hid (hrd.2.trans (show (startS (crashS ks s1)).F q = (crashS ks s1).F q from rfl))
              have HBG := Lib.hid (sv_begins (wf_crash WF1.out ks) SV2.out hq8)
              have HTN := Lib.hid (torn_crash WF1.out ks hq8)
              have HLN := Lib.hid ((wf_crash WF1.out ks).len q hq8)
              have hq8i : ((q : Nat) : Int) < 8 := by omega
              clear hrd
              go_wp2_with fail
              refine (read_dsk HQ.out.1 ((q : Nat) : Int)).mono ?_
              rintro e w11 ⟨rfl, hb11⟩
              rw [HR1.out, HR2.out]
              have D11 := Lib.hid (HQ.out.1.below hb11)
              have B11 := Lib.hid (HQ.out.2.1.below hb11 HQ.out.2.1.lt)
              have C11 := Lib.hid (HQ.out.2.2.1.below hb11 HQ.out.2.2.1.lt)
              have F11 := Lib.hid (HQ.out.2.2.2.below hb11)
              have r1 : w11.cell? ⟨gs, q, none⟩ = some (.string (sv (sf q))) := by rw [B11.out.cell q, sfc_at _ q hq8]
              have r2 : w11.cell? ⟨gw, q, none⟩ = some (.string (sv (s1.F q))) := by rw [C11.out.cell q, sfc_at _ q hq8, if_pos hq8]
              clear hb11
              go_wp2_with fail
              refine (begins_any ((crashS ks s1).F q) (sf q) _).mono ?_
              rintro e w12 ⟨rfl, rfl⟩
              rw [HBG.out]
              go_wp2_with fail
              refine (torn_yes ((crashS ks s1).F q) (s1.F q) HTN.out HLN.out _).mono ?_
              rintro e w13 ⟨rfl, hb13⟩
              have D13 := Lib.hid (D11.out.below hb13)
              have B13 := Lib.hid (B11.out.below hb13 B11.out.lt)
              have C13 := Lib.hid (C11.out.below hb13 C11.out.lt)
              have F13 := Lib.hid (F11.out.below hb13)
              clear hb13
              go_wp2_with fail
              go_roundw
              case rel => exact ⟨q + 1, by omega, by go_num, Lib.hid ⟨D13.out, B13.out, C13.out, F13.out⟩⟩
              case measure => simp [intOf]; omega
            · obtain rfl : q = 8 := by omega
              go_wp2_with fail
              go_ret
              exact ⟨rfl, HQ.out.2.2.2.to_below (Nat.le_refl _)⟩
theorem walk {w : World} {v kv : Value} {l : List (Ac × Value)} {ks : List Int} (h : Acts w v l) (hk : Ints w kv ks) (hj : ∀ z ∈ ks, J64 z) (hL : Lies w kv) : Calls Try.prog 3 #[v, kv] w (IsTrue w) := by
  obtain ⟨ka, kc, hkv, _⟩ := id hk
  by_cases h1 : 200 < l.length
  · exact notfew h (.inl h1) hkv
  by_cases h2 : 100000 < szA l
  · exact notfew h (.inr ⟨by omega, h2⟩) hkv
  exact few_walk h (by omega) (by omega) hk hj hL
end Go.Proofs.Ytjgedopbcopnkaa.diskLasts
