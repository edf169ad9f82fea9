/- The statement WalAlone: its walk where the arguments are within the limits. Conditions: the arguments read as data within the reach. -/
import Derived.Test.YtdjchpejhfkknaaLAlone
import Derived.Test.YtdjchpejhfkknaaLAloneM
namespace Go.Proofs.Ytdjchpejhfkknaa.walAlone
open Go.RowKit Km Dk Lw walSkips
open Lm hiding Bs
set_option linter.unusedVariables false
set_option maxRecDepth 100000

section
variable {A : Nat → Prop} {r p q : Nat} {s : St} {l m : List Bs} {i j k : Nat} {W : World}
theorem al_append {b : Bs} {rows : List Bs} (hD : Two A r p q s (l.take i) rows W) (hS : Al s l m i j) (hi : l[i]? = some b) (hsm : Small l) (hz : (recs l).length ≤ 10000) (hl : l.length ≤ 100) : Calls Try.prog 35 #[.pointer (some ⟨p, 0, none⟩), .string (sv b)] W fun e w' => e = .returned (.int .i64 0) ∧ Two A r p q (wappS s 0 b) (l.take (i + 1)) rows w' ∧ Fr A W w' ∧ Al (wappS s 0 b) l m (i + 1) j := by
  have hb := hsm b (List.mem_of_getElem? hi)
  have h1 := recs_le l (i + 1)
  rw [take_next hi, recs_append, recs_one, List.length_append, recB_length] at h1
  obtain ⟨e1, e2, e3⟩ := al_app hS hi hb (by rw [hS.lg.file]; omega)
  refine (two_append hD b (by omega) (by rw [List.length_take]; omega) e1 (s' := wappS s 0 b) rfl (l' := l.take (i + 1)) e2).mono ?_
  rintro e w' ⟨h1, h2, h3⟩
  exact ⟨h1, h2, h3, e3⟩
theorem al_rewrite {v : Value} {rows rows' : List Bs} (hT : Texts W v (m.take k)) (hv : ∀ b, vblock v = some b → ¬ A b) (hD : Two A r p q s rows rows' W) (hS : Al s l m i j) (hsm : Small m) (hz : (recs m).length ≤ 10000) (hl : m.length ≤ 100) : Calls Try.prog 34 #[.pointer (some ⟨q, 0, none⟩), v] W fun e w' => e = .returned (.int .i64 0) ∧ Two A r p q (wrewS s 2 (m.take k)) rows (m.take k) w' ∧ Fr A W w' ∧ Al (wrewS s 2 (m.take k)) l m i k := by
  have h1 := recs_le m k
  obtain ⟨e1, e2, e3⟩ := al_rew (rows := rows') (k := k) hS hsm (by omega)
  refine (two_rewrite hD hT hv (by rw [List.length_take]; omega) (by omega) e1 (s' := wrewS s 2 (m.take k)) rfl (m' := m.take k) e2).mono ?_
  rintro e w' ⟨h1, h2, h3⟩
  exact ⟨h1, h2, h3, e3⟩
end
set_option maxHeartbeats 8000000 in
theorem main {w : World} {a a2 : Option Addr} {c c2 : Nat} {kv : Value} {l m : List Bs} {ks : List Int} (h : Texts w (.slice a l.length c) l) (hm : Texts w (.slice a2 m.length c2) m) (hcap : m.length ≤ c2) (hk : Ints w kv ks) (hj : ∀ z ∈ ks, J64 z) (hL : Lies w kv) (hb : bytB l ≤ 1500) (hb2 : bytB m ≤ 1500) (hK : ks.length ≤ 30) :
    Calls Try.prog 8 #[.slice a l.length c, .slice a2 m.length c2, kv] w (IsTrue w) := by
  have SM := Lib.hid (fun W => small_any W)
  have HT := Lib.hid h
  have HM := Lib.hid hm
  have HBY := Lib.hid (fun W (hb : Below w.heap.size w W) => bytes_any (Texts.below HT.out hb))
  have HBZ := Lib.hid (fun W (hb : Below w.heap.size w W) => bytes_any (Texts.below HM.out hb))
  have d1 : decide ((1500 : Int) < ((bytB l : Nat) : Int)) = false := decide_eq_false (by omega)
  have d2 : decide ((1500 : Int) < ((bytB m : Nat) : Int)) = false := decide_eq_false (by omega)
  have d3 : decide ((30 : Int) < ((ks.length : Nat) : Int)) = false := decide_eq_false (by omega)
  have HSL := Lib.hid (few_small hb)
  have HSM := Lib.hid (few_small hb2)
  obtain ⟨f1, f2, f3⟩ := few_of hb
  obtain ⟨g1, g2, g3⟩ := few_of hb2
  have HRL := Lib.hid (show (recs l).length ≤ 10000 by omega)
  have HRM := Lib.hid (show (recs m).length ≤ 10000 by omega)
  have HKS := Lib.hid hk
  have HJ := Lib.hid hj
  have HL := Lib.hid hL
  have HTC := Lib.hid (show 0 < l.length → ∃ b o, a = some ⟨b, o, none⟩ ∧ b < w.heap.size ∧ ∀ j t, l[j]? = some t → w.cell? ⟨b, o + j, none⟩ = some (.string (sv t)) from by obtain ⟨a', c', e, _, _, h3⟩ := h; injection e with e1; subst e1; exact h3)
  obtain ⟨ka, kc, rfl, _⟩ := hk
  obtain ⟨N, hN⟩ : ∃ N, l.length = N := ⟨_, rfl⟩
  obtain ⟨M, hM⟩ : ∃ M, m.length = M := ⟨_, rfl⟩
  obtain ⟨K, hKK⟩ : ∃ K, ks.length = K := ⟨_, rfl⟩
  have HN := Lib.hid hN
  have HMM := Lib.hid hM
  have HCAP := Lib.hid (show M ≤ c2 by omega)
  have hNi : N ≤ 30 := by omega
  have hMi : M ≤ 30 := by omega
  rw [hN] at h HT HBY ⊢
  rw [hM] at hm HM HBZ ⊢
  rw [hKK] at d3 HKS HL ⊢
  obtain ⟨X, hX⟩ : ∃ X, max N M = X := ⟨_, rfl⟩
  have hmx : max ((N : Nat) : Int) ((M : Nat) : Int) = ((X : Nat) : Int) := by omega
  have hXi : X ≤ 30 := by omega
  have HX := Lib.hid (show N ≤ X ∧ M ≤ X ∧ (X ≤ N ∨ X ≤ M) by omega)
  clear h hm hb hb2 hj hL f1 f2 f3 g1 g2 g3 hK hcap hN hM hKK hX
  generalize bytB l = n at *
  generalize bytB m = n2 at *
  go_enter Try.func8, Try.ntmps8
  go_wp2_with fail
  refine (SM.out _).mono ?_
  rintro e w1 ⟨rfl, hb1⟩
  have HB1 := Lib.hid hb1
  clear hb1
  go_wp2_with fail
  refine (HBY.out _ HB1.out).mono ?_
  rintro e w2 ⟨rfl, hb2⟩
  have HB2 := Lib.hid (HB1.out.trans (hb2.mono HB1.out.size))
  clear hb2 HB1
  go_wp2_with fail
  refine (HBZ.out _ HB2.out).mono ?_
  rintro e w3 ⟨rfl, hb2⟩
  have HB3 := Lib.hid (HB2.out.trans (hb2.mono HB2.out.size))
  clear hb2 HB2
  go_wp2_with fail
  refine (new_any (A := fun b => w.heap.size ≤ b) (fun b hb => by have := HB3.out.size; omega)).mono ?_
  rintro e w4 ⟨rfl, hd, hf⟩
  have HB4 := Lib.hid (HB3.out.trans (hf.mono HB3.out.size))
  have D4 := Lib.hid hd
  clear hd hf HB3
  generalize hr0 : w3.heap.size = r at *
  clear hr0
  go_wp2_with fail
  refine (open_good D4.out 0 (al_zero l m).1 (s' := (opn Km.new ((0 : Nat) : Int)).2) rfl (rows := l.take 0) (al_zero l m).2.1).mono ?_
  rintro e w5 ⟨p, rfl, hd, hf⟩
  have F5 := Lib.hid (((Fr.refl (fun b => w.heap.size ≤ b) w).below HB4.out).trans hf)
  have L5 := Lib.hid hd
  have A5 := Lib.hid (al_open (al_zero l m).2.2 HSM.out)
  clear hd hf HB4 D4
  generalize (opn Km.new ((0 : Nat) : Int)).2 = s0 at *
  go_wp2_with fail
  refine (two_open L5.out A5.out.1 rfl A5.out.2.1).mono ?_
  rintro e w6 ⟨q, rfl, hd, hf⟩
  have F6 := Lib.hid (F5.out.trans hf)
  have L6 := Lib.hid hd
  clear hd hf F5 L5
  go_wp2_with fail
  go_loopw [13] (fun vi W => ∃ (i : Nat) (s : St), i ≤ X ∧ vi = .int .i64 i ∧ Hid (Two (fun b => w.heap.size ≤ b) r p q s (l.take i) (m.take i) W ∧ Al s l m i i ∧ Fr (fun b => w.heap.size ≤ b) w W)) (fun i _ => X - (intOf i).toNat)
  case atStart => exact ⟨0, _, Nat.zero_le _, rfl, Lib.hid ⟨L6.out, A5.out.2.2, F6.out⟩⟩
  case round =>
    obtain ⟨i, s, hi, rfl, HD⟩ := hrel
    by_cases hlt : i < X
    · by_cases hiN : i < N
      · obtain ⟨b, hb⟩ : ∃ b, l[i]? = some b := ⟨l[i]'(by have := HN.out; omega), List.getElem?_eq_getElem _⟩
        obtain ⟨ga, oa, rfl, hga, hcella⟩ := HTC.out (by have := HN.out; omega)
        have HGA := Lib.hid hga
        have HCA := Lib.hid (hcella i b hb)
        have hAP := Lib.hid (al_append HD.out.1 HD.out.2.1 hb HSL.out HRL.out (by have := HN.out; omega))
        have cw := (HD.out.2.2.cell HCA.out (by show ¬ w.heap.size ≤ ga; omega))
        clear hb hga hcella
        have hiN' : (i : Int) < (N : Int) := by omega
        by_cases hiM : i < M
        · have hslr := fun W => slice_rows a2 M c2 (i + 1) (by have := HCAP.out; omega) W
          have HTK := Lib.hid (texts_take HM.out (i + 1) (by have := HMM.out; omega))
          simp only [Int.natCast_add, Int.natCast_one] at hslr
          go_wp2_with fail
          refine (hAP.out).mono ?_
          rintro e w7 ⟨rfl, hd, hf, hs⟩
          have L7 := Lib.hid hd
          have F7 := Lib.hid (HD.out.2.2.trans hf)
          have S7 := Lib.hid hs
          clear hd hf hs
          go_wp2_with fail
          --GG
          refine (al_rewrite (Texts.frs HTK.out F7.out (fun b hb => by have := Texts.lt HTK.out hb; omega)) (fun b hb => by have := Texts.lt HTK.out hb; omega) L7.out S7.out HSM.out HRM.out (by have := HMM.out; omega)).mono ?_
          rintro e w8 ⟨rfl, hd, hf, hs⟩
          have L8 := Lib.hid hd
          have F8 := Lib.hid (F7.out.trans hf)
          have S8 := Lib.hid hs
          clear hd hf hs
          go_wp2_with fail
          go_roundw
          case rel => exact ⟨i + 1, _, by omega, by go_num, Lib.hid ⟨L8.out, S8.out, F8.out⟩⟩
          case measure => simp [intOf]; omega
        · have HE := Lib.hid (show m.take (i + 1) = m.take i by rw [List.take_of_length_le (by have := HMM.out; omega), List.take_of_length_le (by have := HMM.out; omega)])
          go_wp2_with fail
          refine (hAP.out).mono ?_
          rintro e w7 ⟨rfl, hd, hf, hs⟩
          have L7 := Lib.hid hd
          have F7 := Lib.hid (HD.out.2.2.trans hf)
          have S7 := Lib.hid (al_same hs (by have := HMM.out; omega))
          clear hd hf hs
          go_wp2_with fail
          go_roundw
          case rel => exact ⟨i + 1, _, by omega, by go_num, Lib.hid ⟨by rw [HE.out]; exact L7.out, S7.out, F7.out⟩⟩
          case measure => simp [intOf]; omega
      · have hiM : i < M := by have := HX.out; omega
        have hslr := fun W => slice_rows a2 M c2 (i + 1) (by have := HCAP.out; omega) W
        have HTK := Lib.hid (texts_take HM.out (i + 1) (by have := HMM.out; omega))
        simp only [Int.natCast_add, Int.natCast_one] at hslr
        have HE := Lib.hid (show l.take (i + 1) = l.take i by rw [List.take_of_length_le (by have := HN.out; omega), List.take_of_length_le (by have := HN.out; omega)])
        go_wp2_with fail
        refine (al_rewrite (Texts.frs HTK.out HD.out.2.2 (fun b hb => by have := Texts.lt HTK.out hb; omega)) (fun b hb => by have := Texts.lt HTK.out hb; omega) HD.out.1 HD.out.2.1 HSM.out HRM.out (by have := HMM.out; omega)).mono ?_
        rintro e w8 ⟨rfl, hd, hf, hs⟩
        have L8 := Lib.hid hd
        have F8 := Lib.hid (HD.out.2.2.trans hf)
        have S8 := Lib.hid (al_stay hs (by have := HN.out; omega))
        clear hd hf hs
        go_wp2_with fail
        go_roundw
        case rel => exact ⟨i + 1, _, by omega, by go_num, Lib.hid ⟨by rw [HE.out]; exact L8.out, S8.out, F8.out⟩⟩
        case measure => simp [intOf]; omega
    · have hiX : X = i := by omega
      subst hiX
      have hNX : l.length ≤ X := by have h1 := HX.out.1; have h2 := HN.out; omega
      have hMX : m.length ≤ X := by have h1 := HX.out.2.1; have h2 := HMM.out; omega
      obtain ⟨o1, o2, o3⟩ := al_open HD.out.2.1 HSM.out
      rw [List.take_of_length_le hMX] at o2
      obtain ⟨s1, hs1⟩ : ∃ s1, (opn s ((2 : Nat) : Int)).2 = s1 := ⟨_, rfl⟩
      rw [hs1] at o3
      obtain ⟨n0, k1, k2⟩ := al_crash o3 hNX hMX HSM.out ks
      obtain ⟨sc1, sc2⟩ := start_cal o3.cal ks
      obtain ⟨u1, u2, _, _, u5, u6⟩ := opn_cal sc1 (f := 0) (by decide)
      rw [sc2] at u6
      obtain ⟨s3, hs3⟩ : ∃ s3, (opn (startS (crashS ks s1)) ((0 : Nat) : Int)).2 = s3 := ⟨_, rfl⟩
      rw [hs3] at u2 u5
      obtain ⟨v1, _, _, _, _, v6⟩ := opn_cal u2 (f := 2) (by decide)
      have e2 : s3.F 2 = (crashS ks s1).F 2 := (u5 2 (by decide) (by decide)).1.trans (by rw [sc2])
      rw [e2] at v6
      have hT := HD.out.1
      rw [List.take_of_length_le hNX, List.take_of_length_le hMX] at hT
      have HZ := Lib.hid (two_open hT.fst o1 hs1 o2)
      have FD := Lib.hid HD.out.2.2
      have HCR := Lib.hid (fun W (hF : Fr (fun b => w.heap.size ≤ b) w W) (hW : Lgd (fun b => w.heap.size ≤ b) r p 0 s1 l W) => lgd_crash hW (HKS.out.fr hF (fun b hb hn => by have := HL.out b hb; omega)) HJ.out (fun b hb hn => by have := HL.out b hb; omega) (s' := crashS ks s1) rfl)
      have HST := Lib.hid (fun W (hW : Lgd (fun b => w.heap.size ≤ b) r p 0 (crashS ks s1) l W) => lgd_start hW (s' := startS (crashS ks s1)) rfl)
      have HO0 := Lib.hid (fun W (hW : Lgd (fun b => w.heap.size ≤ b) r p 0 (startS (crashS ks s1)) l W) => open_good (lgd_dsk hW) 0 u1 hs3 (rows := l.take n0) (by rw [u6]; exact k1))
      have HO2 := Lib.hid (fun W pp (hW : Lgd (fun b => w.heap.size ≤ b) r pp 0 s3 (l.take n0) W) => two_open hW v1 (s' := (opn s3 ((2 : Nat) : Int)).2) rfl (m := m) (by rw [v6]; exact k2))
      have HLEN := Lib.hid (show l.length ≤ 30 ∧ m.length ≤ 30 ∧ (l.take n0).length ≤ 30 by rw [List.length_take, HN.out, HMM.out]; omega)
      have HSLT := Lib.hid (small_take HSL.out n0)
      have HTW := Lib.hid (fun W (hF : Fr (fun b => w.heap.size ≤ b) w W) => Texts.frs HT.out hF (fun b hb => by have := Texts.lt HT.out hb; omega))
      have HMW := Lib.hid (fun W (hF : Fr (fun b => w.heap.size ≤ b) w W) => Texts.frs HM.out hF (fun b hb => by have := Texts.lt HM.out hb; omega))
      have HPRE := Lib.hid (decide_eq_true (List.take_prefix n0 l))
      clear hNX hMX o1 o2 o3 hs1 k1 k2 sc1 sc2 u1 u2 u5 u6 hs3 v1 v6 e2 hT HD
      generalize (opn s3 ((2 : Nat) : Int)).2 = s4 at *
      go_wp2_with fail
      refine (HZ.out).mono ?_
      rintro e w7 ⟨z, rfl, hd, hf⟩
      have L7 := Lib.hid hd
      have F7 := Lib.hid (FD.out.trans hf)
      clear hd hf
      go_wp2_with fail
      refine (lgd_all L7.out.fst (by have := HLEN.out; omega) (fun t ht => by have := HSL.out t ht; omega)).mono ?_
      rintro e w8 ⟨v8, A8, rfl, _, _, ht, _, hb8⟩
      have L8 := Lib.hid (L7.out.below hb8)
      have F8 := Lib.hid (F7.out.below hb8)
      have T8 := Lib.hid ht
      clear ht hb8
      go_wp2_with fail
      have hbg := same_any T8.out (HTW.out _ F8.out) (by have := HLEN.out; omega) (by have := HLEN.out; omega)
      rw [decide_eq_true rfl] at hbg
      refine hbg.mono ?_
      rintro e w9 ⟨rfl, hb9⟩
      have L9 := Lib.hid (L8.out.below hb9)
      have F9 := Lib.hid (F8.out.below hb9)
      clear hb9 hbg
      go_wp2_with fail
      refine (lgd_all L9.out.snd (by have := HLEN.out; omega) (fun t ht => by have := HSM.out t ht; omega)).mono ?_
      rintro e w10 ⟨v10, A10, rfl, _, _, ht, _, hb10⟩
      have L10 := Lib.hid (L9.out.below hb10)
      have F10 := Lib.hid (F9.out.below hb10)
      have T10 := Lib.hid ht
      clear ht hb10
      go_wp2_with fail
      have hbg := same_any T10.out (HMW.out _ F10.out) (by have := HLEN.out; omega) (by have := HLEN.out; omega)
      rw [decide_eq_true rfl] at hbg
      refine hbg.mono ?_
      rintro e w11 ⟨rfl, hb11⟩
      have L11 := Lib.hid (L10.out.below hb11)
      have F11 := Lib.hid (F10.out.below hb11)
      clear hb11 hbg
      go_wp2_with fail
      refine (HCR.out _ F11.out L11.out.fst).mono ?_
      rintro e w12 ⟨rfl, hd, hf⟩
      have L12 := Lib.hid hd
      have F12 := Lib.hid (F11.out.trans hf)
      clear hd hf
      go_wp2_with fail
      refine (HST.out _ L12.out).mono ?_
      rintro e w13 ⟨rfl, hd, hf⟩
      have L13 := Lib.hid hd
      have F13 := Lib.hid (F12.out.trans hf)
      clear hd hf
      go_wp2_with fail
      refine (HO0.out _ L13.out).mono ?_
      rintro e w14 ⟨pu, rfl, hd, hf⟩
      have L14 := Lib.hid hd
      have F14 := Lib.hid (F13.out.trans hf)
      clear hd hf
      go_wp2_with fail
      refine (HO2.out _ _ L14.out).mono ?_
      rintro e w15 ⟨pv, rfl, hd, hf⟩
      have L15 := Lib.hid hd
      have F15 := Lib.hid (F14.out.trans hf)
      clear hd hf
      go_wp2_with fail
      --GG2
      refine (lgd_all L15.out.fst (by have := HLEN.out; omega) (fun t ht => by have := HSLT.out t ht; omega)).mono ?_
      rintro e w16 ⟨v16, A16, rfl, _, _, ht, _, hb16⟩
      have L16 := Lib.hid (L15.out.below hb16)
      have F16 := Lib.hid (F15.out.below hb16)
      have T16 := Lib.hid ht
      clear ht hb16
      go_wp2_with fail
      have hbg := begins_any (HTW.out _ F16.out) T16.out (by have := HLEN.out; omega) (by have := HLEN.out; omega)
      rw [HPRE.out] at hbg
      refine hbg.mono ?_
      rintro e w17 ⟨rfl, hb17⟩
      have L17 := Lib.hid (L16.out.below hb17)
      have F17 := Lib.hid (F16.out.below hb17)
      clear hb17 hbg
      go_wp2_with fail
      refine (lgd_all L17.out.snd (by have := HLEN.out; omega) (fun t ht => by have := HSM.out t ht; omega)).mono ?_
      rintro e w18 ⟨v18, A18, rfl, _, _, ht, _, hb18⟩
      have F18 := Lib.hid (F17.out.below hb18)
      have T18 := Lib.hid ht
      clear ht hb18
      go_wp2_with fail
      have hbg := same_any T18.out (HMW.out _ F18.out) (by have := HLEN.out; omega) (by have := HLEN.out; omega)
      rw [decide_eq_true rfl] at hbg
      refine hbg.mono ?_
      rintro e w19 ⟨rfl, hb19⟩
      have F19 := Lib.hid (F18.out.below hb19)
      clear hb19 hbg
      go_wp2_with fail
      go_ret
      exact ⟨rfl, F19.out.to_below (Nat.le_refl _)⟩
theorem walk {w : World} {v u kv : Value} {l m : List Bs} {ks : List Int} (h : Texts w v l) (hm : Texts w u m) (hcap : ∀ a n c, u = .slice a n c → n ≤ c) (hk : Ints w kv ks) (hj : ∀ z ∈ ks, J64 z) (hL : Lies w kv) : Calls Try.prog 8 #[v, u, kv] w (IsTrue w) := by
  by_cases h1 : 1500 < bytB l
  · exact out_first h hm hk h1
  · by_cases h2 : 1500 < bytB m
    · exact out_second h hm hk (by omega) h2
    · by_cases h3 : 30 < ks.length
      · exact out_keep h hm hk (by omega) (by omega) h3
      · obtain ⟨a, c, rfl⟩ := texts_len h
        obtain ⟨a2, c2, rfl⟩ := texts_len hm
        exact main h hm (hcap _ _ _ rfl) hk hj hL (by omega) (by omega) (by omega)
end Go.Proofs.Ytdjchpejhfkknaa.walAlone
