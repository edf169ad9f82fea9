/- The reference's Length and Valid. Conditions: none beyond those of each lemma. -/
import Derived.Test.YtanjkjendppigaaDoorDOf
namespace Go.Proofs.YtanjkjendppigaaDoor.Dy
open Go.RowKit Cal
set_option linter.unusedVariables false
set_option maxRecDepth 100000

def leapI (y : Int) : Prop := y.tmod 4 = 0 ∧ (y.tmod 100 ≠ 0 ∨ y.tmod 400 = 0)
instance (y : Int) : Decidable (leapI y) := by unfold leapI; infer_instance
def lenI (y m : Int) : Int := if m = 2 then (if leapI y then 29 else 28) else if m = 4 ∨ m = 6 ∨ m = 9 ∨ m = 11 then 30 else 31
theorem lenI_nat (y m : Nat) : lenI (y : Int) (m : Int) = ((len y m : Nat) : Int) := by
  have h : leapI (y : Int) ↔ leap y := by
    unfold leapI leap
    rw [Int.tmod_eq_emod_of_nonneg (by omega), Int.tmod_eq_emod_of_nonneg (by omega), Int.tmod_eq_emod_of_nonneg (by omega)]
    omega
  unfold lenI len
  by_cases hl : leap y
  · have hl' := h.2 hl
    repeat' split
    all_goals first | rfl | omega
  · have hl' := fun c => hl (h.1 c)
    repeat' split
    all_goals first | rfl | omega | (exfalso; exact hl' (by assumption))
theorem length_any (y m : Int) (w : World) : Calls Tryd.prog 28 #[.int .i64 y, .int .i64 m] w fun e w' => e = .returned (.int .i64 (lenI y m)) ∧ w = w' := by
  obtain ⟨r, hr⟩ : ∃ r, lenI y m = r := ⟨_, rfl⟩
  have HR := Lib.hid hr
  rw [hr]
  have bt : ∀ {a b : Int}, a = b → (a == b) = true := fun h => beq_iff_eq.2 h
  have bf : ∀ {a b : Int}, a ≠ b → (a == b) = false := fun h => beq_eq_false_iff_ne.2 h
  by_cases h2 : m = 2
  · have b2 := bt h2
    by_cases c4 : y.tmod 4 = 0
    · have d4 := bt c4
      by_cases c100 : y.tmod 100 = 0
      · have d100 : (y.tmod 100 != 0) = false := by rw [bne, bt c100]; rfl
        by_cases c400 : y.tmod 400 = 0
        · have d400 := bt c400
          have hx : r = 29 := by rw [← hr]; unfold lenI; rw [if_pos h2, if_pos ⟨c4, .inr c400⟩]
          clear hr h2 c4 c100 c400 bt bf HR
          subst hx
          go_enter Tryd.func28, Tryd.ntmps28
          go_wp2_with fail
          go_ret
          exact ⟨rfl, rfl⟩
        · have d400 := bf c400
          have hx : r = 28 := by rw [← hr]; unfold lenI; rw [if_pos h2, if_neg (by unfold leapI; omega)]
          clear hr h2 c4 c100 c400 bt bf HR
          subst hx
          go_enter Tryd.func28, Tryd.ntmps28
          go_wp2_with fail
          go_ret
          exact ⟨rfl, rfl⟩
      · have d100 : (y.tmod 100 != 0) = true := by rw [bne, bf c100]; rfl
        have hx : r = 29 := by rw [← hr]; unfold lenI; rw [if_pos h2, if_pos ⟨c4, .inl c100⟩]
        clear hr h2 c4 c100 bt bf HR
        subst hx
        go_enter Tryd.func28, Tryd.ntmps28
        go_wp2_with fail
        go_ret
        exact ⟨rfl, rfl⟩
    · have d4 := bf c4
      have hx : r = 28 := by rw [← hr]; unfold lenI; rw [if_pos h2, if_neg (by unfold leapI; omega)]
      clear hr h2 c4 bt bf HR
      subst hx
      go_enter Tryd.func28, Tryd.ntmps28
      go_wp2_with fail
      go_ret
      exact ⟨rfl, rfl⟩
  · have b2 := bf h2
    by_cases h4 : m = 4
    · have b4 := bt h4
      have hx : r = 30 := by rw [← hr]; unfold lenI; rw [if_neg h2, if_pos (by omega)]
      clear hr h2 bt bf HR
      subst hx h4
      go_enter Tryd.func28, Tryd.ntmps28
      go_wp2_with fail
      go_ret
      exact ⟨rfl, rfl⟩
    · have b4 := bf h4
      by_cases h6 : m = 6
      · have hx : r = 30 := by rw [← hr]; unfold lenI; rw [if_neg h2, if_pos (by omega)]
        clear hr h2 bt bf HR
        subst hx h6
        go_enter Tryd.func28, Tryd.ntmps28
        go_wp2_with fail
        go_ret
        exact ⟨rfl, rfl⟩
      · have b6 := bf h6
        by_cases h9 : m = 9
        · have hx : r = 30 := by rw [← hr]; unfold lenI; rw [if_neg h2, if_pos (by omega)]
          clear hr h2 bt bf HR
          subst hx h9
          go_enter Tryd.func28, Tryd.ntmps28
          go_wp2_with fail
          go_ret
          exact ⟨rfl, rfl⟩
        · have b9 := bf h9
          by_cases h11 : m = 11
          · have hx : r = 30 := by rw [← hr]; unfold lenI; rw [if_neg h2, if_pos (by omega)]
            clear hr h2 bt bf HR
            subst hx h11
            go_enter Tryd.func28, Tryd.ntmps28
            go_wp2_with fail
            go_ret
            exact ⟨rfl, rfl⟩
          · have b11 := bf h11
            have hx : r = 31 := by rw [← hr]; unfold lenI; rw [if_neg h2, if_neg (by omega)]
            clear hr h2 h4 h6 h9 h11 bt bf HR
            subst hx
            go_enter Tryd.func28, Tryd.ntmps28
            go_wp2_with fail
            go_ret
            exact ⟨rfl, rfl⟩
theorem below_drewN (w : World) (k : Nat) : Below w.heap.size w (w.drewN k) := ⟨rfl, rfl, rfl, Nat.le_refl _, fun _ _ => rfl⟩
def validB (y m d h : Int) : Bool := decide (1 ≤ m ∧ m ≤ 12 ∧ 1 ≤ d ∧ d ≤ lenI y m ∧ 0 ≤ h ∧ h ≤ 23)
set_option maxHeartbeats 2000000 in
theorem valid_any (y m d h : Int) (w : World) : Calls Tryd.prog 30 #[dv y m d h] w fun e w' => e = .returned (.bool (validB y m d h)) ∧ Below w.heap.size w w' := by
  obtain ⟨r, hr⟩ : ∃ r, validB y m d h = r := ⟨_, rfl⟩
  have HL := Lib.hid (fun W => (length_any y m W).mono (fun e w' h => (⟨h.1, h.2.symm⟩ : e = _ ∧ w' = W)))
  rw [hr]
  unfold dv
  obtain ⟨l, hl⟩ : ∃ l, lenI y m = l := ⟨_, rfl⟩
  rw [hl] at HL
  have hr2 : r = decide (1 ≤ m ∧ m ≤ 12 ∧ 1 ≤ d ∧ d ≤ l ∧ 0 ≤ h ∧ h ≤ 23) := by rw [← hr, ← hl]; rfl
  clear hr hl
  by_cases c1 : 1 ≤ m
  · have d1 := decide_eq_true c1
    by_cases c2 : m ≤ 12
    · have d2 := decide_eq_true c2
      by_cases c3 : 1 ≤ d
      · have d3 := decide_eq_true c3
        by_cases c4 : d ≤ l
        · have d4 := decide_eq_true c4
          by_cases c5 : 0 ≤ h
          · have d5 := decide_eq_true c5
            by_cases c6 : h ≤ 23
            · have d6 := decide_eq_true c6
              have hx : r = true := by rw [hr2]; exact decide_eq_true (by omega)
              clear hr2 c1 c2 c3 c4 c5 c6
              subst hx
              go_enter Tryd.func30, Tryd.ntmps30
              go_wp2_with fail
              go_quiet ((refine (HL.out _).mono ?_; rintro e w' ⟨he, hw⟩; exact ⟨he, _, hw⟩))
              go_wp2_with fail
              go_ret
              exact ⟨rfl, below_trans (below_alloc _ _) (below_drewN _ _)⟩
            · have d6 := decide_eq_false c6
              have hx : r = false := by rw [hr2]; exact decide_eq_false (by omega)
              clear hr2 c1 c2 c3 c4 c5 c6
              subst hx
              go_enter Tryd.func30, Tryd.ntmps30
              go_wp2_with fail
              go_quiet ((refine (HL.out _).mono ?_; rintro e w' ⟨he, hw⟩; exact ⟨he, _, hw⟩))
              go_wp2_with fail
              go_ret
              exact ⟨rfl, below_trans (below_alloc _ _) (below_drewN _ _)⟩
          · have d5 := decide_eq_false c5
            have hx : r = false := by rw [hr2]; exact decide_eq_false (by omega)
            clear hr2 c1 c2 c3 c4 c5
            subst hx
            go_enter Tryd.func30, Tryd.ntmps30
            go_wp2_with fail
            go_quiet ((refine (HL.out _).mono ?_; rintro e w' ⟨he, hw⟩; exact ⟨he, _, hw⟩))
            go_wp2_with fail
            go_ret
            exact ⟨rfl, below_trans (below_alloc _ _) (below_drewN _ _)⟩
        · have d4 := decide_eq_false c4
          have hx : r = false := by rw [hr2]; exact decide_eq_false (by omega)
          clear hr2 c1 c2 c3 c4
          subst hx
          go_enter Tryd.func30, Tryd.ntmps30
          go_wp2_with fail
          go_quiet ((refine (HL.out _).mono ?_; rintro e w' ⟨he, hw⟩; exact ⟨he, _, hw⟩))
          go_wp2_with fail
          go_ret
          exact ⟨rfl, below_trans (below_alloc _ _) (below_drewN _ _)⟩
      · have d3 := decide_eq_false c3
        have hx : r = false := by rw [hr2]; exact decide_eq_false (by omega)
        clear hr2 c1 c2 c3
        subst hx
        go_enter Tryd.func30, Tryd.ntmps30
        go_wp2_with fail
        go_quiet (fail)
        go_wp2_with fail
        go_ret
        exact ⟨rfl, below_trans (below_alloc _ _) (below_drewN _ _)⟩
    · have d2 := decide_eq_false c2
      have hx : r = false := by rw [hr2]; exact decide_eq_false (by omega)
      clear hr2 c1 c2
      subst hx
      go_enter Tryd.func30, Tryd.ntmps30
      go_wp2_with fail
      go_quiet (fail)
      go_wp2_with fail
      go_ret
      exact ⟨rfl, below_trans (below_alloc _ _) (below_drewN _ _)⟩
  · have d1 := decide_eq_false c1
    have hx : r = false := by rw [hr2]; exact decide_eq_false (by omega)
    clear hr2 c1
    subst hx
    go_enter Tryd.func30, Tryd.ntmps30
    go_wp2_with fail
    go_quiet (fail)
    go_wp2_with fail
    go_ret
    exact ⟨rfl, below_trans (below_alloc _ _) (below_drewN _ _)⟩
end Go.Proofs.YtanjkjendppigaaDoor.Dy
