/- The examples that every statement of layer 4 checks first: all of them are right. Conditions: none. -/
import Derived.Test.YtifkcnmdfeklmaaQIn
import Derived.OpenShut
import Derived.SizedLaws
import Derived.ProofKit
import Derived.Deep.DeepCutAuto
namespace Go.Proofs.Ytifkcnmdfeklmaa
set_option linter.unusedVariables false
open Go.RowKit Grp

theorem self_drewN (w : World) (k : Nat) : Below w.heap.size w (w.drewN k) := ⟨rfl, rfl, rfl, Nat.le_refl _, fun _ _ => rfl⟩
def IsTrue (w : World) (e : Ending) (w' : World) : Prop := e = .returned (.bool true) ∧ ∃ n, w' = w.drewN n
theorem IsTrue.below {w : World} {e : Ending} {w' : World} (h : IsTrue w e w') : e = .returned (.bool true) ∧ Below w.heap.size w w' := by
  obtain ⟨h1, n, rfl⟩ := h
  exact ⟨h1, self_drewN w n⟩

theorem ex_pm (a : Int) (n : Nat) (z : Nat) (hn : n < 2 ^ 64) (h : Num.pm 2305843009213691579 64 (rp a).toNat n % 2305843009213691579 = z) : ex a n = (z : Int) := by
  rw [ex_nat, ← Num.pm_eq _ (by decide) 64 _ _ hn, h]
theorem v_iv2 : iv 2 = 1152921504606845790 := (iv_uniq (by decide) (by decide) (by decide)).symm
theorem v_ivP : iv 2305843009213691579 = 0 := iv_zero (by decide)
theorem v_four : ex 4 1152921504606845789 = 1 := sq_in (y := 2) (by decide)
theorem v_inv4 : xe 4 (-1) = iv 4 := by
  have h := xe_inv (d := 1) v_four
  rw [xe_one, xe_rq v_four] at h
  exact h.symm
theorem v_twoQ : xe 2 1152921504606845789 = 2305843009213691578 := ex_pm 2 _ 2305843009213691578 (by decide) (by decide +kernel)
theorem v_in4 : inB 4 = true := inB_true (by decide) (by decide) v_four
theorem v_in1 : inB 1 = true := inB_true (by decide) (by decide) (ex_at_one _)
theorem v_inP : inB 2305843009213691578 = false := by
  rw [inB_of (by decide) (by decide), ex_pm 2305843009213691578 _ 2305843009213691578 (by decide) (by decide +kernel)]
  decide
theorem v_in0 : inB 0 = false := inB_out (.inl (by decide))
theorem v_inP4 : inB 2305843009213691583 = false := inB_out (.inr (by decide))
theorem i64c {n : Int} (h : -9223372036854775808 ≤ n ∧ n ≤ 9223372036854775807) : I64 n := h

set_option maxHeartbeats 3200000 in
set_option maxRecDepth 100000 in
theorem small_any (w : World) : Calls Try.prog 8 #[] w (IsTrue w) := by
  have c1 := fun W => inv_any 2 W
  rw [v_iv2, show (rp 2 != 0) = true by decide] at c1
  have c2 := fun W => inv_any 2305843009213691579 W
  rw [v_ivP, show (rp 2305843009213691579 != 0) = false by decide] at c2
  have c3 := fun W => inv_any 4 W
  rw [show (rp 4 != 0) = true by decide] at c3
  have c4 := fun W => exp_any 4 3 (i64c (by decide)) W
  rw [show xe 4 3 = 64 by decide] at c4
  have c5 := fun W => exp_any 0 0 (i64c (by decide)) W
  rw [xe_zero] at c5
  have c6 := fun W => exp_any 0 (-1152921504606845789) (i64c (by decide)) W
  rw [show xe 0 (-1152921504606845789) = 1 from ex_zero 0] at c6
  have c7 := fun W => exp_any 4 (-1) (i64c (by decide)) W
  rw [v_inv4] at c7
  have c8 := fun W => exp_any 2 1152921504606845789 (i64c (by decide)) W
  rw [v_twoQ] at c8
  have c9 := fun W => in_any 4 W
  rw [v_in4] at c9
  have c10 := fun W => in_any 1 W
  rw [v_in1] at c10
  have c11 := fun W => in_any 2305843009213691578 W
  rw [v_inP] at c11
  have c12 := fun W => in_any 0 W
  rw [v_in0] at c12
  have c13 := fun W => in_any 2305843009213691583 W
  rw [v_inP4] at c13
  have c14 := fun W => mul_any 2305843009213691578 2305843009213691578 W
  rw [show mu 2305843009213691578 2305843009213691578 = 1 by decide] at c14
  have c15 := fun W => mul_any (-1) 3 W
  rw [show mu (-1) 3 = 2305843009213691576 by decide] at c15
  have c16 := fun W => addq_any 1152921504606845788 2 W
  rw [show rq (1152921504606845788 + 2) = 1 by decide] at c16
  have c17 := fun W => subq_any 0 1 W
  rw [show rq (0 - 1) = 1152921504606845788 by decide] at c17
  have c18 := fun W => mulq_any 1152921504606845788 1152921504606845788 W
  rw [show rq (1152921504606845788 * 1152921504606845788) = 1 by decide] at c18
  generalize iv 4 = y at *
  have C1 := Lib.hid c1
  have C2 := Lib.hid c2
  have C3 := Lib.hid c3
  have C4 := Lib.hid c4
  have C5 := Lib.hid c5
  have C6 := Lib.hid c6
  have C7 := Lib.hid c7
  have C8 := Lib.hid c8
  have C9 := Lib.hid c9
  have C10 := Lib.hid c10
  have C11 := Lib.hid c11
  have C12 := Lib.hid c12
  have C13 := Lib.hid c13
  have C14 := Lib.hid c14
  have C15 := Lib.hid c15
  have C16 := Lib.hid c16
  have C17 := Lib.hid c17
  have C18 := Lib.hid c18
  clear c1 c2 c3 c4 c5 c6 c7 c8 c9 c10 c11 c12 c13 c14 c15 c16 c17 c18
  have ey : (y == y) = true := by simp
  go_enter Try.func8, Try.ntmps8
  go_wp2_with fail
  refine (C1.out _).mono ?_
  rintro e w1 ⟨rfl, k1, rfl⟩
  go_wp2_with fail
  refine (C2.out _).mono ?_
  rintro e w2 ⟨rfl, k2, rfl⟩
  go_wp2_with fail
  refine (C3.out _).mono ?_
  rintro e w3 ⟨rfl, k3, rfl⟩
  go_wp2_with fail
  refine (C4.out _).mono ?_
  rintro e w4 ⟨rfl, k4, rfl⟩
  go_wp2_with fail
  refine (C5.out _).mono ?_
  rintro e w5 ⟨rfl, k5, rfl⟩
  go_wp2_with fail
  refine (C6.out _).mono ?_
  rintro e w6 ⟨rfl, k6, rfl⟩
  go_wp2_with fail
  refine (C7.out _).mono ?_
  rintro e w7 ⟨rfl, k7, rfl⟩
  go_wp2_with fail
  refine (C8.out _).mono ?_
  rintro e w8 ⟨rfl, k8, rfl⟩
  go_wp2_with fail
  refine (C9.out _).mono ?_
  rintro e w9 ⟨rfl, k9, rfl⟩
  go_wp2_with fail
  refine (C10.out _).mono ?_
  rintro e w10 ⟨rfl, k10, rfl⟩
  go_wp2_with fail
  refine (C11.out _).mono ?_
  rintro e w11 ⟨rfl, k11, rfl⟩
  go_wp2_with fail
  refine (C12.out _).mono ?_
  rintro e w12 ⟨rfl, k12, rfl⟩
  go_wp2_with fail
  refine (C13.out _).mono ?_
  rintro e w13 ⟨rfl, k13, rfl⟩
  go_wp2_with fail
  refine (C14.out _).mono ?_
  rintro e w14 ⟨rfl, k14, rfl⟩
  go_wp2_with fail
  refine (C15.out _).mono ?_
  rintro e w15 ⟨rfl, k15, rfl⟩
  go_wp2_with fail
  refine (C16.out _).mono ?_
  rintro e w16 ⟨rfl, rfl⟩
  go_wp2_with fail
  refine (C17.out _).mono ?_
  rintro e w17 ⟨rfl, rfl⟩
  go_wp2_with fail
  refine (C18.out _).mono ?_
  rintro e w18 ⟨rfl, k18, rfl⟩
  go_wp2_with fail
  go_ret
  exact ⟨rfl, _, rfl⟩
end Go.Proofs.Ytifkcnmdfeklmaa
