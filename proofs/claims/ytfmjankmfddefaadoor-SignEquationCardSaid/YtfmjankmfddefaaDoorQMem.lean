/- Membership in the group of order Q: of a number and its negative, of products and of inverses. Plain mathematics, without the program. Conditions: those of each lemma. -/
import Derived.Test.YtfmjankmfddefaaDoorQIn
import Derived.Test.YtfmjankmfddefaaDoorQRef
namespace Go.Proofs.YtfmjankmfddefaaDoor.Gp.Grp
set_option linter.unusedVariables false
theorem ex_pm (a : Int) (n : Nat) (z : Nat) (hn : n < 2 ^ 64) (h : Num.pm 2305843009213691579 64 (rp a).toNat n % 2305843009213691579 = z) : ex a n = (z : Int) := by
  rw [ex_nat, ← Num.pm_eq _ (by decide) 64 _ _ hn, h]
theorem v_four : ex 4 1152921504606845789 = 1 := sq_in (y := 2) (by decide)
theorem v_in4 : inB 4 = true := inB_true (by decide) (by decide) v_four
theorem v_in1 : inB 1 = true := inB_true (by decide) (by decide) (ex_at_one _)

theorem pos_of {y : Int} (h : rp y ≠ 0) (h0 : 0 ≤ y) : 0 < y := by
  have : y ≠ 0 := by rintro rfl; exact h rfl
  omega
theorem inB_iff {y : Int} (h : rp y ≠ 0) (h0 : 0 ≤ y) (h1 : y < 2305843009213691579) : inB y = (ex y 1152921504606845789 == 1) := inB_of (pos_of h h0) h1
theorem beq_one_minus : ((2305843009213691578 : Int) == 1) = false := by decide
/-- the two ways of a number that is no multiple of P -/
theorem in_or {y : Int} (h : rp y ≠ 0) (h0 : 0 ≤ y) (h1 : y < 2305843009213691579) :
    (inB y = true ∧ ex y 1152921504606845789 = 1) ∨ (inB y = false ∧ ex y 1152921504606845789 = 2305843009213691578) := by
  rw [inB_iff h h0 h1]
  rcases euler y h with e | e
  · left; rw [e]; exact ⟨rfl, rfl⟩
  · right; rw [e]; exact ⟨rfl, rfl⟩
theorem rp_ne_of {y : Int} (h0 : 0 < y) (h1 : y < 2305843009213691579) : rp y ≠ 0 := by rw [rp_of (by omega) h1]; omega
theorem minus_mu (x : Int) (h1 : 0 < x) (h2 : x < 2305843009213691579) : 2305843009213691579 - x = mu 2305843009213691578 x := by
  unfold mu
  omega
theorem minus_Q : ex 2305843009213691578 1152921504606845789 = 2305843009213691578 := ex_pm 2305843009213691578 _ 2305843009213691578 (by decide) (by decide +kernel)
theorem in_minus (x : Int) (h1 : 0 < x) (h2 : x < 2305843009213691579) : inB (2305843009213691579 - x) = !inB x := by
  have e : ex (2305843009213691579 - x) 1152921504606845789 = mu 2305843009213691578 (ex x 1152921504606845789) := by
    rw [minus_mu x h1 h2, ex_prod, minus_Q]
  rw [inB_of (by omega) (by omega), e]
  rcases in_or (rp_ne_of h1 h2) (by omega) h2 with ⟨a, b⟩ | ⟨a, b⟩
  · rw [a, b]; decide
  · rw [a, b]; decide
theorem mu_ne {x y : Int} (hx : rp x ≠ 0) (hy : rp y ≠ 0) : rp (mu x y) ≠ 0 := by
  rw [rp_mu]
  intro h
  rcases (mu_zero_iff x y).1 h with h | h
  · exact hx h
  · exact hy h
theorem in_sq {x : Int} (hx : rp x ≠ 0) : inB (mu x x) = true := by
  rw [inB_iff (mu_ne hx hx) (mu_bd x x).1 (mu_bd x x).2, sq_in hx]; rfl
theorem in_xe {x e : Int} (h : ex x 1152921504606845789 = 1) : inB (xe x e) = true := by
  have h1 := xe_pow_one h e
  rw [inB_iff (in_ne h1) (xe_bd x e).1 (xe_bd x e).2, h1]; rfl
theorem in_mu {x y : Int} (hx : rp x ≠ 0) (x0 : 0 ≤ x) (x1 : x < 2305843009213691579) (hy : rp y ≠ 0) (y0 : 0 ≤ y) (y1 : y < 2305843009213691579) : inB (mu x y) = (inB x == inB y) := by
  rw [inB_iff (mu_ne hx hy) (mu_bd x y).1 (mu_bd x y).2, ex_prod]
  rcases in_or hx x0 x1 with ⟨a, b⟩ | ⟨a, b⟩ <;> rcases in_or hy y0 y1 with ⟨c, d⟩ | ⟨c, d⟩ <;> rw [a, b, c, d] <;> decide
theorem in_iv {x : Int} (hx : rp x ≠ 0) (x0 : 0 ≤ x) (x1 : x < 2305843009213691579) : inB (iv x) = inB x := by
  have hi := iv_bd x
  have hne : rp (iv x) ≠ 0 := by rw [rp_of hi.1 hi.2]; exact iv_ne hx
  have h1 := in_mu hx x0 x1 hne hi.1 hi.2
  rw [mu_iv hx, v_in1] at h1
  exact (eq_of_beq h1.symm).symm
theorem in_last {x : Int} (hx : rp x ≠ 0) (x0 : 0 ≤ x) (x1 : x < 2305843009213691579) : xe x 1152921504606845789 = if inB x then 1 else 2305843009213691578 := by
  rw [xe_q]
  rcases in_or hx x0 x1 with ⟨a, b⟩ | ⟨a, b⟩ <;> rw [a, b] <;> rfl
theorem in_self (a : Int) : inB a = (inB (rp a) && (a == rp a)) := by
  by_cases h : a = rp a
  · rw [← h, beq_iff_eq.2 rfl, Bool.and_true]
  · rw [beq_eq_false_iff_ne.2 h, Bool.and_false]
    refine inB_out ?_
    have : ¬ (0 ≤ a ∧ a < 2305843009213691579) := fun ⟨h0, h1⟩ => h (rp_of h0 h1).symm
    omega
end Go.Proofs.YtfmjankmfddefaaDoor.Gp.Grp
