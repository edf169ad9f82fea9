/- The statement WireOrder, walked: the concatenated encodings of two lists of values are in the order of the first values that differ. Conditions: those of the walk. -/
import Derived.Test.YtocbodjmdgoaiaaDoorWOrder
namespace Go.Proofs.YtocbodjmdgoaiaaDoor
open Go.RowKit Wm
set_option linter.unusedVariables false

theorem allE_append (a b : List Va) : allE (a ++ b) = allE a ++ allE b := by simp [allE]
theorem text_of_D {s t : Bs} (h : D s t) : cmpT s t = -1 ∧ cmpT t s = 1 ∧ begB s t = false ∧ begB t s = false :=
  ⟨cmpT_lt (.inl h), cmpT_gt (.inl h), beg_no h.not_pre.2, beg_no h.not_pre.1⟩
set_option maxHeartbeats 8000000 in
set_option maxRecDepth 100000 in
theorem order_walk {A A' : Option Addr} {n c n' c' : Nat} {vs us : List Va} {w : World} (hr : RdV w A n vs) (hr' : RdV w A' n' us) (hl : lightB vs = true) (hl' : lightB us = true) (hm : Mx w) :
    Calls Tryd.prog 6 #[.slice A n c, .slice A' n' c'] w (IsTrue w) := by
  have hlen := hr.1
  have hlen' := hr'.1
  obtain ⟨l1, l2⟩ := lightB_parts hl
  obtain ⟨l1', l2'⟩ := lightB_parts hl'
  have hall := allE_le_light hr hl
  have hall' := allE_le_light hr' hl'
  have hn20 : n ≤ 20 := by omega
  have hn20' : n' ≤ 20 := by omega
  have HR := Lib.hid hr
  have HR' := Lib.hid hr'
  have HM := Lib.hid hm
  have HLen := Lib.hid hlen
  have HLen' := Lib.hid hlen'
  have SM := Lib.hid (small_any hm)
  have LT := Lib.hid (fun W (hW : RdV W A n vs) => light_any (c := c) hW (by omega))
  have LT' := Lib.hid (fun W (hW : RdV W A' n' us) => light_any (c := c') hW (by omega))
  rw [hl] at LT
  rw [hl'] at LT'
  have AL := Lib.hid (fun W (hW : RdV W A n vs) (hx : Mx W) => all_any (c := c) hW hl hx)
  have AL' := Lib.hid (fun W (hW : RdV W A' n' us) (hx : Mx W) => all_any (c := c') hW hl' hx)
  have BG := Lib.hid (fun W => begins_any (allE vs) (allE us) (by omega) (by omega) W)
  have BG' := Lib.hid (fun W => begins_any (allE us) (allE vs) (by omega) (by omega) W)
  have TX := Lib.hid (fun W => text_cmp (allE vs) (allE us) W)
  clear hr hr' hm hlen hlen' l2 l2' hl hl' l1 l1' hall hall'
  generalize hS : sv (allE vs) = S at *
  generalize hT : sv (allE us) = T at *
  clear hS hT
  go_enter Tryd.func6, Tryd.ntmps6
  go_wp2_with fail
  refine SM.out.mono ?_
  rintro e w1 ⟨rfl, hb1⟩
  have HB1 := Lib.hid hb1
  clear hb1
  go_wp2_with fail
  refine (LT.out _ (HR.out.below HB1.out)).mono ?_
  rintro e w2 ⟨rfl, rfl⟩
  go_wp2_with fail
  refine (LT'.out _ (HR'.out.below HB1.out)).mono ?_
  rintro e w2 ⟨rfl, rfl⟩
  go_wp2_with fail
  refine (AL.out _ (HR.out.below HB1.out) (HM.out.self HB1.out)).mono ?_
  rintro e w2 ⟨rfl, hb2⟩
  have HB2 := Lib.hid (below_trans HB1.out hb2)
  clear hb2
  go_wp2_with fail
  refine (AL'.out _ (HR'.out.below HB2.out) (HM.out.self HB2.out)).mono ?_
  rintro e w3 ⟨rfl, hb3⟩
  have HB3 := Lib.hid (below_trans HB2.out hb3)
  clear hb3
  go_wp2_with fail
  go_loopw [10] (fun i wr => ∃ k : Nat, k ≤ n ∧ k ≤ n' ∧ i = .int .i64 k ∧ Hid (allE (vs.take k) = allE (us.take k)) ∧ Hid (Below w.heap.size w wr)) (fun i _ => n - (intOf i).toNat)
  case atStart => exact ⟨0, Nat.zero_le _, Nat.zero_le _, rfl, Lib.hid (by simp), HB3⟩
  case round =>
    obtain ⟨k, hk1, hk2, rfl, HE, HBE⟩ := hrel
    by_cases hlt : k < n ∧ k < n'
    · obtain ⟨hlt1, hlt2⟩ := hlt
      have hrw := HR.out.below HBE.out
      have hrw' := HR'.out.below HBE.out
      obtain ⟨b, off, e, hlb, hc⟩ := hrw.2.2 (by omega)
      obtain ⟨b', off', e', hlb', hc'⟩ := hrw'.2.2 (by omega)
      have hkv : k < vs.length := by have := HLen.out; omega
      have hku : k < us.length := by have := HLen'.out; omega
      obtain ⟨v, hv⟩ : ∃ v, vs[k]? = some v := ⟨vs[k], List.getElem?_eq_getElem hkv⟩
      obtain ⟨u, hu⟩ : ∃ v, us[k]? = some v := ⟨us[k], List.getElem?_eq_getElem hku⟩
      subst e e'
      obtain ⟨g0, g1, g2, g3, g4⟩ := hc k v hv
      obtain ⟨f0, f1, f2, f3, f4⟩ := hc' k u hu
      have hva := hrw.2.1 v (List.mem_of_getElem? hv)
      have hua := hrw'.2.1 u (List.mem_of_getElem? hu)
      have HVA := Lib.hid hva
      have HUA := Lib.hid hua
      have HSV := Lib.hid (allE_snoc vs k v hv)
      have HSU := Lib.hid (allE_snoc us k u hu)
      have hdv : allE vs = allE (vs.take k) ++ (encV v ++ allE (vs.drop (k + 1))) := by rw [← allE_drop vs k v hv, ← allE_append, List.take_append_drop]
      have hdu : allE us = allE (vs.take k) ++ (encV u ++ allE (us.drop (k + 1))) := by rw [HE.out, ← allE_drop us k u hu, ← allE_append, List.take_append_drop]
      have HDV := Lib.hid hdv
      have HDU := Lib.hid hdu
      have hkd : bits .and .i64 v.k 3 = kd v.k := rfl
      have hkd' : bits .and .i64 u.k 3 = kd u.k := rfl
      clear hc hc' hlb hlb' hrw hrw' hv hu hva hua hdv hdu
      by_cases hkk : kd v.k = kd u.k
      · have HS := Lib.hid (says_value HVA.out HUA.out hkk)
        have CM := Lib.hid (fun W (hW : RdVa W v) (hW' : RdVa W u) => compare_any hW hW')
        unfold vaV at CM
        rw [← hkk] at hkd'
        generalize kd v.k = q at *
        have e3 : (q != q) = false := by simp
        have e4 : (q == q) = true := by simp
        generalize cmpV q v u = C at *
        clear hkk
        go_wp2_with fail
        go_quiet (fail)
        go_wp2_with fail
        go_upto_region 13 with fail
        obtain ⟨W2, hW2⟩ : ∃ W2, W2 = wr.drewN nq := ⟨_, rfl⟩
        rw [← hW2]
        have hA1 : VaAt W2 b (off + k * 5) v := by rw [hW2]; exact ⟨g0, g1, g2, g3, g4⟩
        have hA2 : VaAt W2 b' (off' + k * 5) u := by rw [hW2]; exact ⟨f0, f1, f2, f3, f4⟩
        clear g0 g1 g2 g3 g4 f0 f1 f2 f3 f4
        obtain ⟨g0, g1, g2, g3, g4⟩ := hA1
        obtain ⟨f0, f1, f2, f3, f4⟩ := hA2
        have HBE2 : Hid (Below w.heap.size w W2) := Lib.hid (by rw [hW2]; exact below_drew HBE.out _)
        have HVA2 : Hid (RdVa W2 v) := Lib.hid (by rw [hW2]; exact HVA.out)
        have HUA2 : Hid (RdVa W2 u) := Lib.hid (by rw [hW2]; exact HUA.out)
        clear hW2
        go_cut [11] (fun x wx => x = .int .i64 C ∧ Below w.heap.size w wx)
        case first =>
          go_region_with ((go_at_call 39; refine (CM.out W2.drew HVA2.out HUA2.out).mono ?_; rintro e w4 ⟨rfl, hb4⟩; have HB4 : Hid (Below w.heap.size w w4) := Lib.hid (HBE2.out.trans ((below_trans (below_drewN W2 1) hb4).mono HBE2.out.size)); clear hb4))
          all_goals
            go_wp2_with fail
            go_meet
            exact ⟨rfl, HB4.out⟩
        case rest =>
          obtain ⟨rfl, hb4⟩ := hcut
          have HB4 := Lib.hid hb4
          clear hb4
          rcases HS.out with ⟨rfl, he⟩ | ⟨rfl, hd⟩ | ⟨rfl, hd⟩
          · have HEQ : Hid (allE (vs.take (k + 1)) = allE (us.take (k + 1))) := Lib.hid (by rw [HSV.out, HSU.out, HE.out, he])
            clear he
            go_wp2_with fail
            go_roundw
            case rel => exact ⟨k + 1, by omega, by omega, by go_num, HEQ, HB4⟩
            case measure => simp [intOf]; omega
          · have hdd : D (allE vs) (allE us) := by rw [HDV.out, HDU.out]; exact (hd.app _ _).pre _
            have hD := text_of_D hdd
            have t1 := hD.1
            have b1 := hD.2.2.1
            have b2 := hD.2.2.2
            rw [t1] at TX
            rw [b1] at BG
            rw [b2] at BG'
            clear hD t1 b1 b2 hd hdd
            go_wp2_with fail
            refine (TX.out _).mono ?_
            rintro e w5 ⟨rfl, rfl⟩
            go_wp2_with fail
            refine (BG.out _).mono ?_
            rintro e w5 ⟨rfl, rfl⟩
            go_wp2_with fail
            refine (BG'.out _).mono ?_
            rintro e w5 ⟨rfl, rfl⟩
            go_wp2_with fail
            go_ret
            exact ⟨rfl, HB4.out⟩
          · have hdd : D (allE us) (allE vs) := by rw [HDV.out, HDU.out]; exact (hd.app _ _).pre _
            have hD := text_of_D hdd
            have t1 := hD.2.1
            have b1 := hD.2.2.2
            have b2 := hD.2.2.1
            rw [t1] at TX
            rw [b1] at BG
            rw [b2] at BG'
            clear hD t1 b1 b2 hd hdd
            go_wp2_with fail
            refine (TX.out _).mono ?_
            rintro e w5 ⟨rfl, rfl⟩
            go_wp2_with fail
            refine (BG.out _).mono ?_
            rintro e w5 ⟨rfl, rfl⟩
            go_wp2_with fail
            refine (BG'.out _).mono ?_
            rintro e w5 ⟨rfl, rfl⟩
            go_wp2_with fail
            go_ret
            exact ⟨rfl, HB4.out⟩
      · have e3 : (kd v.k != kd u.k) = true := by simpa using hkk
        have e4 : (kd v.k == kd u.k) = false := by simpa using hkk
        clear hkk
        go_wp2_with fail
        go_quiet (fail)
        go_wp2_with fail
        go_ret
        exact ⟨rfl, below_drew HBE.out _⟩
    · have hB : (n ≤ n' → begB (allE us) (allE vs) = true) ∧ (n' < n → begB (allE vs) (allE us) = true) := by
        have h1 := HE.out
        constructor
        · intro h
          have hk : k = n := by omega
          rw [List.take_of_length_le (by have := HLen.out; omega)] at h1
          rw [h1]
          refine beg_yes ⟨allE (us.drop k), ?_⟩
          rw [← allE_append, List.take_append_drop]
        · intro h
          have hk : k = n' := by omega
          rw [List.take_of_length_le (l := us) (by have := HLen'.out; omega)] at h1
          rw [← h1]
          refine beg_yes ⟨allE (vs.drop k), ?_⟩
          rw [← allE_append, List.take_append_drop]
      have HBB := Lib.hid hB
      clear hB
      by_cases hnn : n ≤ n'
      · have hbt := HBB.out.1 hnn
        rw [hbt] at BG'
        have d : decide (n ≤ n') = true := decide_eq_true hnn
        have hge : ¬ k < n := by omega
        clear hlt hbt
        go_wp2_with fail
        refine (BG'.out _).mono ?_
        rintro e w4 ⟨rfl, rfl⟩
        go_wp2_with fail
        go_ret
        exact ⟨rfl, HBE.out⟩
      · have hbt := HBB.out.2 (by omega)
        rw [hbt] at BG
        have d : decide (n ≤ n') = false := decide_eq_false hnn
        have hge : ¬ k < n' := by omega
        by_cases hkn : k < n
        · clear hlt hbt
          go_wp2_with fail
          refine (BG.out _).mono ?_
          rintro e w4 ⟨rfl, rfl⟩
          go_wp2_with fail
          go_ret
          exact ⟨rfl, HBE.out⟩
        · omega
end Go.Proofs.YtocbodjmdgoaiaaDoor
