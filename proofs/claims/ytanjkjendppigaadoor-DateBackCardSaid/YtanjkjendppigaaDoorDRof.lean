/- The reference's Of, day by day and month by month. Conditions: none beyond those of each lemma. -/
import Derived.Test.YtanjkjendppigaaDoorDLen
namespace Go.Proofs.YtanjkjendppigaaDoor.Dy
open Go.RowKit Cal
set_option linter.unusedVariables false
set_option maxRecDepth 100000

theorem length_t (y m : Nat) (w : World) : Calls Tryd.prog 28 #[.int .i64 (y : Int), .int .i64 (m : Int)] w fun e w' => e = .returned (.int .i64 ((len y m : Nat) : Int)) ∧ w = w' := by
  have h := length_any (y : Int) (m : Int) w
  rw [lenI_nat] at h
  exact h
theorem rof_bad (h : Int) (hh : isH h = false) (w : World) : Calls Tryd.prog 11 #[.int .i64 h] w fun e w' => e = .returned (ofV h) ∧ Below w.heap.size w w' := by
  rw [ofV_bad hh]
  have hc : ¬ (0 ≤ h ∧ h ≤ 16777216) := of_decide_eq_false hh
  clear hh
  by_cases h0 : h < 0
  · have d0 : decide (h < 0) = true := decide_eq_true h0
    clear hc h0
    go_enter Tryd.func11, Tryd.ntmps11
    go_wp2_with fail
    exact ret_date rfl rfl rfl rfl rfl (Blk.new _ _ _) rfl (below_alloc _ _)
  · have d0 : decide (h < 0) = false := decide_eq_false h0
    have d8 : decide (16777216 < h) = true := decide_eq_true (by omega)
    clear hc h0
    go_enter Tryd.func11, Tryd.ntmps11
    go_wp2_with fail
    exact ret_date rfl rfl rfl rfl rfl (Blk.new _ _ _) rfl (below_alloc _ _)
set_option maxHeartbeats 2000000 in
theorem rof_good (t : Nat) (ht : t ≤ 16777216) (w : World) : Calls Tryd.prog 11 #[.int .i64 (t : Int)] w fun e w' => e = .returned (.tuple #[dtv (dateOf t), .bool true]) ∧ Below w.heap.size w w' := by
  obtain ⟨D, hD⟩ : ∃ D, t / 24 = D := ⟨_, rfl⟩
  have HD := Lib.hid hD
  have hDl : D ≤ 699050 := by omega
  have q1 : ((t : Nat) : Int) / 24 = ((D : Nat) : Int) := by omega
  have d0 : decide (((t : Nat) : Int) < 0) = false := decide_eq_false (by omega)
  have d8 : decide (16777216 < t) = false := decide_eq_false (by omega)
  obtain ⟨res, hres⟩ : ∃ res, dtv (dateOf t) = res := ⟨_, rfl⟩
  have HR := Lib.hid hres
  rw [hres]
  clear hD hres
  go_enter Tryd.func11, Tryd.ntmps11
  go_wp2_with fail
  obtain ⟨M, hM⟩ : ∃ M : Nat, 699050 ≤ M := ⟨_, Nat.le_refl _⟩
  have HMX := Lib.hid hM
  clear hM
  go_loopw [4, 5, 6] (fun vd vy vm W => ∃ k : Nat, vm = .int .i64 ((k % 12 + 1 : Nat) : Int) ∧ vy = .int .i64 ((2000 + k / 12 : Nat) : Int) ∧ vd = .int .i64 ((D - S k : Nat) : Int) ∧ Hid (S k ≤ D) ∧ Hid (W = wz w)) (fun vd _ _ _ => (intOf vd).toNat)
  case atStart => exact ⟨0, rfl, rfl, rfl, Lib.hid (Nat.zero_le _), Lib.hid rfl⟩
  case round =>
    obtain ⟨k, rfl, rfl, rfl, HK, HW⟩ := hrel
    obtain ⟨y, hy⟩ : ∃ y, 2000 + k / 12 = y := ⟨_, rfl⟩
    obtain ⟨m, hm⟩ : ∃ m, k % 12 + 1 = m := ⟨_, rfl⟩
    obtain ⟨E, hE⟩ : ∃ E, D - S k = E := ⟨_, rfl⟩
    obtain ⟨l, hl⟩ : ∃ l, len y m = l := ⟨_, rfl⟩
    have HLN := Lib.hid (fun W => length_t y m W)
    have HS := Lib.hid (show S (k + 1) = S k + l by rw [S_succ, hy, hm, hl])
    have HL := Lib.hid (show 28 ≤ l ∧ l ≤ 31 by rw [← hl]; exact ⟨len_ge _ _, len_le _ _⟩)
    have HYM := Lib.hid (show m ≤ 12 ∧ 1 ≤ m ∧ y ≤ 100000 ∧ (m < 12 → 2000 + (k + 1) / 12 = y ∧ (k + 1) % 12 + 1 = m + 1) ∧ (m = 12 → 2000 + (k + 1) / 12 = y + 1 ∧ (k + 1) % 12 + 1 = 1) by
      have h1 := HK.out
      have h2 := S_ge k
      refine ⟨by omega, by omega, by omega, fun h => by omega, fun h => by omega⟩)
    have HE := Lib.hid (show E = D - S k ∧ E ≤ 699050 by omega)
    have HY := Lib.hid hy
    have HM := Lib.hid hm
    rw [hl] at HLN
    rw [hy, hm, hE]
    clear hy hm hE hl
    by_cases hle : l ≤ E
    · have dle : decide (l ≤ E) = true := decide_eq_true hle
      have hsub : wrap64 (((E : Nat) : Int) - ((l : Nat) : Int)) = ((E - l : Nat) : Int) := by have := HE.out; unfold wrap64; omega
      have hm1 : wrap64 (((m : Nat) : Int) + 1) = ((m + 1 : Nat) : Int) := by have := HYM.out; unfold wrap64; omega
      have hy1 : wrap64 (((y : Nat) : Int) + 1) = ((y + 1 : Nat) : Int) := by have := HYM.out; unfold wrap64; omega
      have HSUB := Lib.hid hsub
      have HM1 := Lib.hid hm1
      have HY1 := Lib.hid hy1
      have HLE := Lib.hid hle
      have HNEXT := Lib.hid (show S (k + 1) ≤ D ∧ D - S (k + 1) = E - l by have h1 := HS.out; have h2 := HE.out; have h3 := HK.out; omega)
      clear hle
      by_cases h12 : m = 12
      · have d12 : decide ((12 : Int) < ((m : Nat) : Int) + 1) = true := decide_eq_true (by omega)
        have H12 := Lib.hid h12
        clear h12
        go_wp2_with fail
        refine (HLN.out _).mono ?_
        rintro e w2 ⟨rfl, hw2⟩
        have HW2 := Lib.hid (hw2 ▸ HW.out)
        clear hw2
        go_wp2_with fail
        refine (HLN.out _).mono ?_
        rintro e w3 ⟨rfl, hw3⟩
        have HW3 := Lib.hid (hw3 ▸ HW2.out)
        clear hw3
        go_wp2_with fail
        --GG
        go_roundw
        case rel => exact ⟨k + 1, by rw [((HYM.out.2.2.2.2) H12.out).2]; rfl, by rw [HY1.out, ((HYM.out.2.2.2.2) H12.out).1], by rw [HSUB.out, HNEXT.out.2], Lib.hid HNEXT.out.1, HW3⟩
        case measure =>
          have h1 := HL.out
          have h2 := HLE.out
          rw [HSUB.out]
          simp [intOf]
          omega
      · have d12 : decide ((12 : Int) < ((m : Nat) : Int) + 1) = false := decide_eq_false (by have := HYM.out; omega)
        have H12 := Lib.hid (show m < 12 by have := HYM.out; omega)
        clear h12
        go_wp2_with fail
        refine (HLN.out _).mono ?_
        rintro e w2 ⟨rfl, hw2⟩
        have HW2 := Lib.hid (hw2 ▸ HW.out)
        clear hw2
        go_wp2_with fail
        refine (HLN.out _).mono ?_
        rintro e w3 ⟨rfl, hw3⟩
        have HW3 := Lib.hid (hw3 ▸ HW2.out)
        clear hw3
        go_wp2_with fail
        go_roundw
        case rel => exact ⟨k + 1, by rw [HM1.out, ((HYM.out.2.2.2.1) H12.out).2], by rw [((HYM.out.2.2.2.1) H12.out).1], by rw [HSUB.out, HNEXT.out.2], Lib.hid HNEXT.out.1, HW3⟩
        case measure =>
          have h1 := HL.out
          have h2 := HLE.out
          rw [HSUB.out]
          simp [intOf]
          omega
    · have dle : decide (l ≤ E) = false := decide_eq_false hle
      have hE1 : wrap64 (((E : Nat) : Int) + 1) = ((E + 1 : Nat) : Int) := by have := HE.out; unfold wrap64; omega
      have ht24 : ((t : Nat) : Int) % 24 = ((t % 24 : Nat) : Int) := by omega
      have HRES := Lib.hid (show res = dv y m (E + 1 : Nat) (t % 24 : Nat) by
        have hmon : mon D = k := mon_uniq HK.out (by
          have h1 := HS.out
          have h2 := HE.out
          have h3 := HK.out
          omega)
        rw [← HR.out]
        unfold dtv dateOf
        rw [HD.out, hmon]
        show dv ((2000 + k / 12 : Nat) : Int) ((k % 12 + 1 : Nat) : Int) ((D - S k + 1 : Nat) : Int) ((t % 24 : Nat) : Int) = _
        rw [HY.out, HM.out, HE.out.1])
      clear hle
      go_wp2_with fail
      refine (HLN.out _).mono ?_
      rintro e w4 ⟨rfl, hw4⟩
      have HV4 := Lib.hid (hw4 ▸ HW.out)
      clear hw4
      obtain rfl := HV4.out
      unfold wz
      go_wp2_with fail
      refine wp_date (x := (y : Int)) (y := (m : Int)) (z := wrap64 ((E : Int) + 1)) (u := (t : Int) % 24) rfl rfl rfl rfl rfl ?_
      simp only [Act.put, List.setIfInBounds_toArray, List.set_cons_succ, List.set_cons_zero]
      go_wp2_with fail
      refine wp_store_date (x := (y : Int)) (y := (m : Int)) (z := wrap64 ((E : Int) + 1)) (u := (t : Int) % 24) rfl rfl rfl ?_
      simp only [Act.put]
      rw [hE1, ht24]
      go_wp2_with fail
      rw [HRES.out]
      exact ret_date rfl rfl rfl rfl rfl (Blk.new _ _ _) rfl (below_alloc _ _)
theorem rof_any (h : Int) (w : World) : Calls Tryd.prog 11 #[.int .i64 h] w fun e w' => e = .returned (ofV h) ∧ Below w.heap.size w w' := by
  by_cases hh : isH h = true
  · obtain ⟨h1, h2⟩ := isH_of hh
    rw [ofV_good hh]
    obtain ⟨t, rfl⟩ : ∃ t : Nat, h = (t : Int) := ⟨h.toNat, by omega⟩
    exact rof_good t (by omega) w
  · exact rof_bad h (by simpa using hh) w
end Go.Proofs.YtanjkjendppigaaDoor.Dy
