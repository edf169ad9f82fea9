/- Euclid's algorithm with the factor of one number: what a round keeps. Plain mathematics, without the program. Conditions: those of each lemma. -/
import Derived.Test.YtifkcnmdfeklmaaQGrp
namespace Go.Proofs.Ytifkcnmdfeklmaa.Grp
set_option linter.unusedVariables false
open Num

theorem two_bd {X Y r s q : Int} (hX : 0 ≤ X) (hY : 0 ≤ Y) (hr : 0 < r) (hs : 0 < s) (hq : 0 ≤ q) (hqs : q * s ≤ r) (h : X * s + Y * r = 2305843009213691579) :
    0 ≤ q * Y ∧ X + q * Y ≤ 2305843009213691579 ∧ Y * (r - q * s) + (X + q * Y) * s = 2305843009213691579 := by
  have h1 : 0 ≤ q * Y := Int.mul_nonneg hq hY
  have h2 : q * Y * s ≤ Y * r := by
    rw [show q * Y * s = Y * (q * s) by rw [Int.mul_comm q Y, Int.mul_assoc]]
    exact Int.mul_le_mul_of_nonneg_left hqs hY
  have h3 : (X + q * Y) * 1 ≤ (X + q * Y) * s := Int.mul_le_mul_of_nonneg_left (by omega) (by omega)
  have h4 : (X + q * Y) * s = X * s + q * Y * s := Int.add_mul _ _ _
  have h5 : Y * (r - q * s) = Y * r - q * Y * s := by rw [Int.mul_sub, ← Int.mul_assoc, Int.mul_comm Y q]
  refine ⟨h1, by omega, by omega⟩
/-- what the loop keeps: both remainders, which are coprime, and their factors of a, whose signs differ -/
def Eu (a r s x y : Int) : Prop :=
  0 < r ∧ r ≤ 2305843009213691579 ∧ 0 ≤ s ∧ s < 2305843009213691579 ∧ Nat.gcd r.toNat s.toNat = 1 ∧ rp (x * a) = rp r ∧ rp (y * a) = rp s ∧
    ((0 ≤ -x ∧ 0 ≤ y ∧ -x * s + y * r = 2305843009213691579) ∨ (0 ≤ x ∧ 0 ≤ -y ∧ x * s + -y * r = 2305843009213691579))
theorem eu_start {a s : Int} (hs : s = rp a) (h : s ≠ 0) : Eu a 2305843009213691579 s 0 1 := by
  have hb := rp_bd a
  rw [← hs] at hb
  refine ⟨by decide, by decide, hb.1, hb.2, ?_, ?_, ?_, .inl ⟨by decide, by decide, by omega⟩⟩
  · exact prP.cop (not_dvd_lt (by omega) (by omega))
  · rw [Int.zero_mul]; rfl
  · rw [Int.one_mul, hs, rp_rp]
theorem cong_step {a r s x y q : Int} (h1 : rp (x * a) = rp r) (h2 : rp (y * a) = rp s) : rp ((x - q * y) * a) = rp (r - q * s) := by
  have e : (x - q * y) * a = x * a - q * (y * a) := by rw [Int.sub_mul, Int.mul_assoc]
  unfold rp at *
  rw [e, Int.sub_emod, h1, Int.mul_emod q (y * a), h2, ← Int.mul_emod, ← Int.sub_emod]
theorem eu_step {a r s x y : Int} (h : Eu a r s x y) (hs : 0 < s) :
    0 ≤ r / s ∧ r / s ≤ 2305843009213691579 ∧ 0 ≤ r / s * s ∧ r / s * s ≤ 2305843009213691579 ∧ -2305843009213691579 ≤ r / s * y ∧ r / s * y ≤ 2305843009213691579 ∧
    -2305843009213691579 ≤ x - r / s * y ∧ x - r / s * y ≤ 2305843009213691579 ∧ 0 ≤ r - r / s * s ∧ r - r / s * s < s ∧ r ≤ 2305843009213691579 ∧
    Eu a s (r - r / s * s) y (x - r / s * y) := by
  obtain ⟨e1, e2, e3, e4, e5, e6, e7, e8⟩ := h
  have hm : r % s = r - r / s * s := by
    have := Int.mul_ediv_add_emod r s
    rw [Int.mul_comm] at this
    omega
  have m1 := Int.emod_nonneg r (show s ≠ 0 by omega)
  have m2 := Int.emod_lt_of_pos r hs
  have hg : Nat.gcd s.toNat (r - r / s * s).toNat = 1 := by
    rw [← hm]
    obtain ⟨R, rfl⟩ := Int.eq_ofNat_of_zero_le (show 0 ≤ r by omega)
    obtain ⟨S, rfl⟩ := Int.eq_ofNat_of_zero_le (show 0 ≤ s by omega)
    rw [← Int.natCast_emod]
    simp only [Int.toNat_natCast] at e5 ⊢
    rw [Nat.gcd_comm, ← Nat.gcd_rec, Nat.gcd_comm]
    exact e5
  have hc := cong_step (q := r / s) e6 e7
  have q0 : 0 ≤ r / s := Int.ediv_nonneg (by omega) (by omega)
  have q1 : r / s ≤ r := Int.ediv_le_self _ (by omega)
  have q2 : 0 ≤ r / s * s := Int.mul_nonneg q0 (by omega)
  rw [hm] at m1 m2
  generalize r / s = q at *
  rcases e8 with ⟨x0, y0, e⟩ | ⟨x0, y0, e⟩
  · obtain ⟨b1, b2, b3⟩ := two_bd x0 y0 e1 hs q0 (by omega) e
    refine ⟨q0, by omega, q2, by omega, by omega, by omega, by omega, by omega, m1, m2, e2, hs, by omega, m1, by omega, hg, e7, hc, .inr ⟨y0, by omega, ?_⟩⟩
    rw [show -(x - q * y) = -x + q * y by omega]
    exact b3
  · obtain ⟨b1, b2, b3⟩ := two_bd x0 y0 e1 hs q0 (by omega) e
    have b4 : q * -y = - (q * y) := Int.mul_neg _ _
    rw [b4] at b1 b2 b3
    refine ⟨q0, by omega, q2, by omega, by omega, by omega, by omega, by omega, m1, m2, e2, hs, by omega, m1, by omega, hg, e7, hc, .inl ⟨y0, by omega, ?_⟩⟩
    rw [show x - q * y = x + -(q * y) by omega]
    exact b3
theorem eu_end {a r s x y : Int} (h : Eu a r s x y) (hs : ¬ 0 < s) : rp x = iv a := by
  obtain ⟨e1, e2, e3, e4, e5, e6, e7, e8⟩ := h
  obtain rfl : s = 0 := by omega
  rw [Int.toNat_zero, Nat.gcd_zero_right] at e5
  obtain rfl : r = 1 := by omega
  refine iv_uniq ?_ (rp_bd x).1 (rp_bd x).2
  rw [mu_rp']
  show rp (a * x) = 1
  rw [Int.mul_comm, e6]
  rfl
end Go.Proofs.Ytifkcnmdfeklmaa.Grp
