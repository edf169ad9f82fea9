/- The arithmetic modulo P and in the group of order Q, on integers: powers, inverses, membership, and the residues modulo Q. Plain mathematics, without the program. Conditions: those of each lemma. -/
import Derived.Test.YtfmjankmfddefaaDoorQPrimes
namespace Go.Proofs.YtfmjankmfddefaaDoor.Gp.Grp
set_option linter.unusedVariables false
open Num

/-- a power modulo P -/
def ex (a : Int) (n : Nat) : Int := a ^ n % 2305843009213691579
/-- the product modulo P -/
def mu (a b : Int) : Int := a * b % 2305843009213691579
/-- the exponent that an int stands for -/
def er (e : Int) : Nat := (if e < 0 then e % 1152921504606845789 else e).toNat
/-- the power with an int as exponent -/
def xe (a e : Int) : Int := ex a (er e)
/-- the residue modulo P -/
def rp (a : Int) : Int := a % 2305843009213691579
/-- the residue modulo Q -/
def rq (a : Int) : Int := a % 1152921504606845789
/-- the inverse, 0 for a multiple of P -/
def iv (a : Int) : Int := if rp a = 0 then 0 else ex a 2305843009213691577
/-- whether a number is in the group -/
def inB (y : Int) : Bool := decide (0 < y) && decide (y < 2305843009213691579) && (ex y 1152921504606845789 == 1)

theorem pow_emod (a : Int) (n : Nat) (m : Int) : (a % m) ^ n % m = a ^ n % m := by
  induction n with
  | zero => rw [Int.pow_zero, Int.pow_zero]
  | succ n ih => rw [Int.pow_succ, Int.pow_succ, Int.mul_emod, ih, Int.emod_emod, ← Int.mul_emod]
theorem ex_bd (a : Int) (n : Nat) : 0 ≤ ex a n ∧ ex a n < 2305843009213691579 := by unfold ex; omega
theorem mu_bd (a b : Int) : 0 ≤ mu a b ∧ mu a b < 2305843009213691579 := by unfold mu; omega
theorem rp_bd (a : Int) : 0 ≤ rp a ∧ rp a < 2305843009213691579 := by unfold rp; omega
theorem rq_bd (a : Int) : 0 ≤ rq a ∧ rq a < 1152921504606845789 := by unfold rq; omega
theorem rp_of {a : Int} (h0 : 0 ≤ a) (h1 : a < 2305843009213691579) : rp a = a := by unfold rp; omega
theorem rq_of {a : Int} (h0 : 0 ≤ a) (h1 : a < 1152921504606845789) : rq a = a := by unfold rq; omega
theorem rp_rp (a : Int) : rp (rp a) = rp a := by unfold rp; omega
theorem rq_rq (a : Int) : rq (rq a) = rq a := by unfold rq; omega
theorem ex_rp (a : Int) (n : Nat) : ex (rp a) n = ex a n := pow_emod _ _ _
theorem rp_ex (a : Int) (n : Nat) : rp (ex a n) = ex a n := rp_of (ex_bd a n).1 (ex_bd a n).2
theorem rp_mu (a b : Int) : rp (mu a b) = mu a b := rp_of (mu_bd a b).1 (mu_bd a b).2
theorem mu_comm (a b : Int) : mu a b = mu b a := by unfold mu; rw [Int.mul_comm]
theorem mu_rp (a b : Int) : mu (rp a) b = mu a b := by unfold mu rp; rw [Int.mul_emod, Int.emod_emod, ← Int.mul_emod]
theorem mu_rp' (a b : Int) : mu a (rp b) = mu a b := by rw [mu_comm, mu_rp, mu_comm]
theorem mu_assoc (a b c : Int) : mu (mu a b) c = mu a (mu b c) := by
  have h1 : mu (mu a b) c = mu (a * b) c := mu_rp (a * b) c
  have h2 : mu a (mu b c) = mu a (b * c) := mu_rp' a (b * c)
  rw [h1, h2]; unfold mu; rw [Int.mul_assoc]
theorem mu_one (a : Int) : mu a 1 = rp a := by unfold mu rp; rw [Int.mul_one]
theorem one_mu (a : Int) : mu 1 a = rp a := by rw [mu_comm, mu_one]
theorem ex_zero (a : Int) : ex a 0 = 1 := by unfold ex; rw [Int.pow_zero]; rfl
theorem ex_one (a : Int) : ex a 1 = rp a := by unfold ex rp; rw [show (1 : Nat) = 0 + 1 from rfl, Int.pow_succ, Int.pow_zero, Int.one_mul]
theorem ex_add (a : Int) (m n : Nat) : ex a (m + n) = mu (ex a m) (ex a n) := by
  unfold ex mu; rw [Int.pow_add, Int.mul_emod]
theorem ex_succ (a : Int) (n : Nat) : ex a (n + 1) = mu (ex a n) a := by rw [ex_add, ex_one, mu_rp']
theorem ex_two (a : Int) : ex a 2 = mu a a := by rw [ex_succ, ex_one, mu_rp]
theorem ex_ex (a : Int) (m n : Nat) : ex (ex a m) n = ex a (m * n) := by
  show ex (rp (a ^ m)) n = _
  rw [ex_rp]; unfold ex; rw [Int.pow_mul]
theorem ex_prod (a b : Int) (n : Nat) : ex (mu a b) n = mu (ex a n) (ex b n) := by
  show ex (rp (a * b)) n = _
  rw [ex_rp]; unfold ex mu; rw [Int.mul_pow, Int.mul_emod]
theorem ex_at_one (n : Nat) : ex 1 n = 1 := by unfold ex; rw [Int.one_pow]; rfl

/-- The powers of an integer, as those of a natural number. -/
theorem ex_nat (a : Int) (n : Nat) : ex a n = (((rp a).toNat ^ n % 2305843009213691579 : Nat) : Int) := by
  rw [← ex_rp]
  obtain ⟨x, hx⟩ := Int.eq_ofNat_of_zero_le (rp_bd a).1
  rw [hx]; unfold ex
  rw [Int.natCast_emod, Int.natCast_pow]
  rfl
theorem ex_one_iff (a : Int) (n : Nat) : ex a n = 1 ↔ (rp a).toNat ^ n % 2305843009213691579 = 1 := by
  rw [ex_nat]; omega
theorem fermat (a : Int) (h : rp a ≠ 0) : ex a 2305843009213691578 = 1 := by
  have hb := rp_bd a
  rw [ex_one_iff]
  exact Num.fermat' (p := 2305843009213691579) (n := 2305843009213691578) (a := (rp a).toNat) prP rfl (not_dvd_lt (by omega) (by omega))
theorem mu_zero_iff (a b : Int) : mu a b = 0 ↔ rp a = 0 ∨ rp b = 0 := by
  constructor
  · intro h
    rw [← mu_rp, ← mu_rp'] at h
    have ha := rp_bd a
    have hb := rp_bd b
    obtain ⟨x, hx⟩ := Int.eq_ofNat_of_zero_le ha.1
    obtain ⟨y, hy⟩ := Int.eq_ofNat_of_zero_le hb.1
    rw [hx] at ha
    rw [hy] at hb
    rw [hx, hy] at h ⊢
    unfold mu at h
    rw [← Int.natCast_mul] at h
    have hm : x * y % 2305843009213691579 = 0 := by omega
    rcases prP.dvd_mul (Nat.dvd_of_mod_eq_zero hm) with h1 | h1
    · left
      have := Nat.eq_zero_of_dvd_of_lt h1 (by omega)
      omega
    · right
      have := Nat.eq_zero_of_dvd_of_lt h1 (by omega)
      omega
  · rintro (h | h)
    · rw [← mu_rp, h]; simp [mu]
    · rw [← mu_rp', h]; simp [mu]
theorem ex_ne_zero {a : Int} (h : rp a ≠ 0) (n : Nat) : ex a n ≠ 0 := by
  induction n with
  | zero => rw [ex_zero]; decide
  | succ n ih =>
    rw [ex_succ]
    intro h0
    rcases (mu_zero_iff _ _).1 h0 with h1 | h1
    · rw [rp_ex] at h1; exact ih h1
    · exact h h1
/-- The power with the exponent Q is 1 or P - 1. -/
theorem euler (a : Int) (h : rp a ≠ 0) : ex a 1152921504606845789 = 1 ∨ ex a 1152921504606845789 = 2305843009213691578 := by
  have h2 : mu (ex a 1152921504606845789) (ex a 1152921504606845789) = 1 := by
    rw [← ex_add]; exact fermat a h
  have hb := ex_bd a 1152921504606845789
  generalize ex a 1152921504606845789 = e at h2 hb ⊢
  have h3 : mu (e - 1) (e + 1) = 0 := by
    unfold mu at h2 ⊢
    have : (e - 1) * (e + 1) = e * e - 1 := by rw [Int.sub_mul, Int.mul_add]; omega
    rw [this]; omega
  rcases (mu_zero_iff _ _).1 h3 with h4 | h4 <;> unfold rp at h4 <;> omega
theorem per {a : Int} (h : ex a 1152921504606845789 = 1) (n : Nat) : ex a n = ex a (n % 1152921504606845789) := by
  conv => lhs; rw [← Nat.div_add_mod n 1152921504606845789]
  rw [ex_add, ← ex_ex, h, ex_at_one, one_mu, rp_ex]
theorem order {x : Int} (h : ex x 1152921504606845789 = 1) (hx : rp x ≠ 1) (n : Nat) : ex x n = 1 ↔ n % 1152921504606845789 = 0 := by
  have hb := rp_bd x
  have h1 := (ex_one_iff _ _).1 h
  have h2 : (rp x).toNat % 2305843009213691579 ≠ 1 := by rw [Nat.mod_eq_of_lt (by omega)]; omega
  rw [ex_one_iff]
  refine (order_prime (p := 2305843009213691579) (q := 1152921504606845789) (x := (rp x).toNat) (by decide) prQ h1 h2 n).trans ?_
  omega
theorem iv_of {a : Int} (h : rp a ≠ 0) : iv a = ex a 2305843009213691577 := if_neg h
theorem iv_zero {a : Int} (h : rp a = 0) : iv a = 0 := if_pos h
theorem mu_iv {a : Int} (h : rp a ≠ 0) : mu a (iv a) = 1 := by
  rw [iv_of h, mu_comm, ← ex_succ]; exact fermat a h
theorem iv_bd (a : Int) : 0 ≤ iv a ∧ iv a < 2305843009213691579 := by
  unfold iv; split
  · omega
  · exact ex_bd _ _
theorem iv_ne {a : Int} (h : rp a ≠ 0) : iv a ≠ 0 := by rw [iv_of h]; exact ex_ne_zero h _
theorem iv_uniq {a x : Int} (h : mu a x = 1) (h0 : 0 ≤ x) (h1 : x < 2305843009213691579) : x = iv a := by
  have ha : rp a ≠ 0 := fun h' => by rw [(mu_zero_iff a x).2 (.inl h')] at h; exact absurd h (by decide)
  have : mu (iv a) (mu a x) = mu (mu (iv a) a) x := (mu_assoc _ _ _).symm
  rw [h, mu_comm (iv a) a, mu_iv ha, mu_one, one_mu, rp_of h0 h1, rp_of (iv_bd a).1 (iv_bd a).2] at this
  exact this.symm

/-! Exponents that are ints. -/
theorem er_nonneg {e : Int} (h : 0 ≤ e) : er e = e.toNat := by unfold er; rw [if_neg (by omega)]
theorem er_mod (e : Int) : ((er e % 1152921504606845789 : Nat) : Int) = rq e := by
  unfold er rq; split <;> omega
theorem xe_rp (a e : Int) : xe (rp a) e = xe a e := ex_rp _ _
theorem xe_bd (a e : Int) : 0 ≤ xe a e ∧ xe a e < 2305843009213691579 := ex_bd _ _
theorem xe_zero (a : Int) : xe a 0 = 1 := ex_zero a
theorem xe_one (a : Int) : xe a 1 = rp a := ex_one a
theorem xe_two (a : Int) : xe a 2 = mu a a := ex_two a
theorem xe_q (a : Int) : xe a 1152921504606845789 = ex a 1152921504606845789 := rfl
/-- In the group a power depends on the residue of the exponent only. -/
theorem xe_congr {a d e : Int} (h : ex a 1152921504606845789 = 1) (hd : rq d = rq e) : xe a d = xe a e := by
  unfold xe
  rw [per h (er d), per h (er e)]
  have h1 := er_mod d
  have h2 := er_mod e
  congr 1
  omega
theorem xe_rq {a e : Int} (h : ex a 1152921504606845789 = 1) : xe a (rq e) = xe a e := xe_congr h (rq_rq e)
theorem xe_add {a d e : Int} (h : ex a 1152921504606845789 = 1) : mu (xe a d) (xe a e) = xe a (rq (d + e)) := by
  unfold xe
  rw [← ex_add, per h, per h (er (rq (d + e)))]
  have h1 := er_mod d
  have h2 := er_mod e
  have h3 := er_mod (rq (d + e))
  congr 1
  unfold rq at *
  omega
theorem xe_mul {a d e : Int} (h : ex a 1152921504606845789 = 1) : xe (xe a d) e = xe a (rq (d * e)) := by
  unfold xe
  rw [ex_ex, per h, per h (er (rq (d * e)))]
  congr 1
  have h1 := er_mod d
  have h2 := er_mod e
  have h3 := er_mod (rq (d * e))
  rw [rq_rq] at h3
  have h4 : rq (d * e) = rq (((er d * er e : Nat) : Int)) := by
    rw [Int.natCast_mul]; unfold rq at *
    rw [Int.mul_emod, ← h1, ← h2, Int.mul_emod (er d : Int)]; rfl
  generalize er (rq (d * e)) = y at h3 ⊢
  rw [h4] at h3
  generalize er d * er e = z at h3 ⊢
  unfold rq at h3
  omega
theorem xe_pow_one {a : Int} (h : ex a 1152921504606845789 = 1) (e : Int) : ex (xe a e) 1152921504606845789 = 1 := by
  unfold xe; rw [ex_ex, Nat.mul_comm, ← ex_ex, h, ex_at_one]
theorem in_ne {a : Int} (h : ex a 1152921504606845789 = 1) : rp a ≠ 0 := by
  intro h0
  rw [← ex_rp, h0, show (1152921504606845789 : Nat) = 1152921504606845788 + 1 from rfl, ex_succ] at h
  unfold mu at h
  rw [Int.mul_zero] at h
  exact absurd h (by decide)
theorem xe_inv {a d : Int} (h : ex a 1152921504606845789 = 1) : iv (xe a d) = xe a (rq (0 - d)) := by
  symm
  refine iv_uniq ?_ (xe_bd _ _).1 (xe_bd _ _).2
  rw [xe_add h, show rq (d + rq (0 - d)) = 0 by unfold rq; omega]
  exact xe_zero a
theorem xe_one_iff {x d : Int} (h : ex x 1152921504606845789 = 1) (hx : rp x ≠ 1) : xe x d = 1 ↔ rq d = 0 := by
  unfold xe
  rw [order h hx]
  have := er_mod d
  omega
theorem xe_eq_iff {x d e : Int} (h : ex x 1152921504606845789 = 1) (hx : rp x ≠ 1) : xe x d = xe x e ↔ rq (d - e) = 0 := by
  constructor
  · intro hh
    have h1 : xe x (rq (d + rq (0 - e))) = 1 := by
      rw [← xe_add h, hh, xe_add h, show rq (e + rq (0 - e)) = 0 by unfold rq; omega]
      exact xe_zero x
    have h2 := (xe_one_iff h hx).1 h1
    unfold rq at h2 ⊢
    omega
  · intro hh
    refine xe_congr h ?_
    unfold rq at hh ⊢
    omega
/-- Squares are in the group. -/
theorem sq_in {y : Int} (h : rp y ≠ 0) : ex (mu y y) 1152921504606845789 = 1 := by
  rw [← ex_two, ex_ex]; exact fermat y h
theorem inB_of {y : Int} (h0 : 0 < y) (h1 : y < 2305843009213691579) : inB y = (ex y 1152921504606845789 == 1) := by
  unfold inB
  rw [decide_eq_true h0, decide_eq_true h1]; rfl
theorem inB_true {y : Int} (h0 : 0 < y) (h1 : y < 2305843009213691579) (h : ex y 1152921504606845789 = 1) : inB y = true := by
  rw [inB_of h0 h1, h]; rfl
theorem inB_out {y : Int} (h : y ≤ 0 ∨ 2305843009213691579 ≤ y) : inB y = false := by
  unfold inB
  rcases h with h | h
  · rw [decide_eq_false (by omega : ¬ 0 < y)]; rfl
  · rw [decide_eq_false (by omega : ¬ y < 2305843009213691579), Bool.and_false]; rfl
theorem of_inB {y : Int} (h : inB y = true) : 0 < y ∧ y < 2305843009213691579 ∧ ex y 1152921504606845789 = 1 := by
  unfold inB at h
  simp only [Bool.and_eq_true, decide_eq_true_eq, beq_iff_eq] at h
  exact ⟨h.1.1, h.1.2, h.2⟩
end Go.Proofs.YtfmjankmfddefaaDoor.Gp.Grp
