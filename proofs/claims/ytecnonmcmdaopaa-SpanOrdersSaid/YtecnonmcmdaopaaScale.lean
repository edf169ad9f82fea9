/- exact.Scale returns the quotient and the remainder of a * num by den, exactly, if all are in range. Conditions: none (every three ints). -/
import Derived.Test.YtecnonmcmdaopaaDiv
namespace Go.Proofs.Ytecnonmcmdaopaa
set_option linter.unusedVariables false
open Go.RowKit

def volB (n : Int) : Bool := decide (0 ≤ n ∧ n ≤ 1125899906842624)
theorem volB_yes {n : Int} (h0 : 0 ≤ n) (h1 : n ≤ 1125899906842624) : volB n = true := decide_eq_true ⟨h0, h1⟩
theorem volB_no {n : Int} (h : n < 0 ∨ 1125899906842624 < n) : volB n = false := decide_eq_false (by omega)
theorem of_volB {n : Int} (h : volB n = true) : 0 ≤ n ∧ n ≤ 1125899906842624 := of_decide_eq_true h
theorem not_volB {n : Int} (h : volB n = false) : n < 0 ∨ 1125899906842624 < n := by have := of_decide_eq_false h; omega

theorem ret_b {a b : Bool} (h : a = b) : Ending.returned (.bool a) = .returned (.bool b) := by rw [h]
theorem ret_iib {a b c d : Int} {x y : Bool} (h : a = c) (h' : b = d) (hx : x = y) : Ending.returned (.tuple #[.int .i64 a, .int .i64 b, .bool x]) = .returned (.tuple #[.int .i64 c, .int .i64 d, .bool y]) := by rw [h, h', hx]

theorem isVol_any (n : Int) (w : World) : Calls Try.prog 35 #[.int .i64 n] w fun e w' => e = .returned (.bool (volB n)) ∧ w = w' := by
  by_cases h0 : 0 ≤ n
  · by_cases h1 : n ≤ 1125899906842624
    · have hv := volB_yes h0 h1
      have HV := Lib.hid hv
      clear hv
      have d0 : decide (0 ≤ n) = true := decide_eq_true h0
      have d1 : decide (n ≤ 1125899906842624) = true := decide_eq_true h1
      go_enter Try.func35, Try.ntmps35
      go_wp2
      go_ret
      exact ⟨by rw [HV.out]; rfl, rfl⟩
    · have hv : volB n = false := volB_no (by omega)
      have HV := Lib.hid hv
      clear hv
      have d0 : decide (0 ≤ n) = true := decide_eq_true h0
      have d1 : decide (n ≤ 1125899906842624) = false := decide_eq_false h1
      clear h1
      go_enter Try.func35, Try.ntmps35
      go_wp2
      go_ret
      exact ⟨by rw [HV.out]; rfl, rfl⟩
  · have hv : volB n = false := volB_no (by omega)
    have HV := Lib.hid hv
    clear hv
    have d0 : decide (0 ≤ n) = false := decide_eq_false h0
    clear h0
    go_enter Try.func35, Try.ntmps35
    go_wp2
    go_ret
    exact ⟨by rw [HV.out]; rfl, rfl⟩

def scB (a n d : Int) : Bool := volB a && volB n && volB d && decide (d ≠ 0) && decide (a * n / d ≤ 1125899906842624)
def scQ (a n d : Int) : Int := if scB a n d then a * n / d else 0
def scR (a n d : Int) : Int := if scB a n d then a * n % d else 0

theorem sc_no {a n d : Int} (h : scB a n d = false) : scQ a n d = 0 ∧ scR a n d = 0 := by simp [scQ, scR, h]
theorem sc_yes {a n d : Int} (h : scB a n d = true) : scQ a n d = a * n / d ∧ scR a n d = a * n % d := by simp [scQ, scR, h]

theorem wrap_i64n (a : Nat) (ha : a < 9223372036854775808) : IntKind.i64.wrap (a : Int) = (a : Int) := by rw [IntKind.wrap_i64]; omega

theorem scale_bad (a n d : Int) (h : volB a = false ∨ volB n = false ∨ volB d = false ∨ d = 0) (w : World) :
    Calls Try.prog 31 #[.int .i64 a, .int .i64 n, .int .i64 d] w fun e w' => e = .returned (.tuple #[.int .i64 0, .int .i64 0, .bool false]) ∧ w = w' := by
  cases ha : volB a with
  | false =>
    go_enter Try.func31, Try.ntmps31
    go_wp2_with (go_at_call 35; refine (isVol_any _ _).mono ?_; rintro e w' ⟨rfl, rfl⟩)
    go_ret3
    exact ⟨rfl, rfl⟩
  | true =>
    cases hn : volB n with
    | false =>
      go_enter Try.func31, Try.ntmps31
      go_wp2_with (go_at_call 35; refine (isVol_any _ _).mono ?_; rintro e w' ⟨rfl, rfl⟩)
      go_ret3
      exact ⟨rfl, rfl⟩
    | true =>
      cases hd : volB d with
      | false =>
        go_enter Try.func31, Try.ntmps31
        go_wp2_with (go_at_call 35; refine (isVol_any _ _).mono ?_; rintro e w' ⟨rfl, rfl⟩)
        go_ret3
        exact ⟨rfl, rfl⟩
      | true =>
        have hz : d = 0 := by simpa [ha, hn, hd] using h
        subst hz
        clear h
        go_enter Try.func31, Try.ntmps31
        go_wp2_with (go_at_call 35; refine (isVol_any _ _).mono ?_; rintro e w' ⟨rfl, rfl⟩)
        go_ret3
        exact ⟨rfl, rfl⟩

theorem hi_lt (a n d : Nat) (h : a * n / 18446744073709551616 < d) : (a * n / 18446744073709551616) * 18446744073709551616 + a * n % 18446744073709551616 = a * n := by
  rw [Nat.mul_comm]; exact Nat.div_add_mod _ _
theorem hi_ge (a n d : Nat) (h : d ≤ a * n / 18446744073709551616) (hd : 0 < d) : 18446744073709551616 ≤ a * n / d := by
  rw [Nat.le_div_iff_mul_le hd]
  have h1 := Nat.div_mul_le_self (a * n) 18446744073709551616
  have h2 := Nat.mul_le_mul_right 18446744073709551616 h
  omega

/-- The quotient exceeds 64 bits. -/
theorem scale_over (a n d : Nat) (ha : a ≤ 1125899906842624) (hn : n ≤ 1125899906842624) (hd : d ≤ 1125899906842624) (hd0 : 0 < d) (h : d ≤ a * n / 18446744073709551616) (w : World) :
    Calls Try.prog 31 #[.int .i64 a, .int .i64 n, .int .i64 d] w fun e w' => e = .returned (.tuple #[.int .i64 0, .int .i64 0, .bool false]) ∧ w = w' := by
  have va : volB (a : Int) = true := volB_yes (by omega) (by omega)
  have vn : volB (n : Int) = true := volB_yes (by omega) (by omega)
  have vd : volB (d : Int) = true := volB_yes (by omega) (by omega)
  have dz : ((d : Int) == 0) = false := beq_eq_false_iff_ne.2 (by omega)
  have lt1 : a * n / 18446744073709551616 < 18446744073709551616 := by
    have := Nat.mul_le_mul ha hn
    omega
  have mc := fun W => Try.bits_Mul64 a n (by omega) (by omega) W
  generalize a * n / 18446744073709551616 = p at *
  generalize a * n % 18446744073709551616 = l at *
  have dh : decide (d ≤ p) = true := decide_eq_true (by omega)
  have MC := Lib.hid mc
  clear mc
  go_enter Try.func31, Try.ntmps31
  go_wp2_with (first | (go_at_call 35; refine (isVol_any _ _).mono ?_; rintro e w' ⟨rfl, rfl⟩) | (go_at_call 36; refine (MC.out _).mono ?_; rintro e w' ⟨rfl, rfl⟩))
  go_ret3
  exact ⟨rfl, rfl⟩

theorem scale_div (a n d : Nat) (ha : a ≤ 1125899906842624) (hn : n ≤ 1125899906842624) (hd : d ≤ 1125899906842624) (hd0 : 0 < d) (h : a * n / 18446744073709551616 < d) (w : World) :
    Calls Try.prog 31 #[.int .i64 a, .int .i64 n, .int .i64 d] w fun e w' => (e = if a * n / d ≤ 1125899906842624 then .returned (.tuple #[.int .i64 ((a * n / d : Nat) : Int), .int .i64 ((a * n % d : Nat) : Int), .bool true]) else .returned (.tuple #[.int .i64 0, .int .i64 0, .bool false])) ∧ ∃ k, w' = w.drewN k := by
  have va : volB (a : Int) = true := volB_yes (by omega) (by omega)
  have vn : volB (n : Int) = true := volB_yes (by omega) (by omega)
  have vd : volB (d : Int) = true := volB_yes (by omega) (by omega)
  have dz : ((d : Int) == 0) = false := beq_eq_false_iff_ne.2 (by omega)
  have lt1 : a * n / 18446744073709551616 < 18446744073709551616 := by omega
  have mc := fun W => Try.bits_Mul64 a n (by omega) (by omega) W
  have dc := fun W => div_any (a * n / 18446744073709551616) (a * n % 18446744073709551616) d (by omega) (by omega) h W
  rw [hi_lt a n d h] at dc
  have rl : a * n % d < d := Nat.mod_lt _ hd0
  generalize a * n / 18446744073709551616 = p at *
  generalize a * n % 18446744073709551616 = l at *
  generalize a * n / d = q at *
  generalize a * n % d = r at *
  have dh : decide (d ≤ p) = false := decide_eq_false (by omega)
  have MC := Lib.hid mc
  have DC := Lib.hid dc
  clear mc dc h lt1
  by_cases hq : q ≤ 1125899906842624
  · have dq : decide ((1125899906842624 : Int) < (q : Int)) = false := decide_eq_false (by omega)
    rw [if_pos hq]
    go_enter Try.func31, Try.ntmps31
    go_wp2_with (first | (go_at_call 35; refine (isVol_any _ _).mono ?_; rintro e w' ⟨rfl, rfl⟩) | (go_at_call 36; refine (MC.out _).mono ?_; rintro e w' ⟨rfl, rfl⟩) | (go_at_call 37; refine (DC.out _).mono ?_; rintro e w' ⟨rfl, k, rfl⟩))
    go_ret3
    exact ⟨rfl, _, rfl⟩
  · have dq : decide ((1125899906842624 : Int) < (q : Int)) = true := decide_eq_true (by omega)
    rw [if_neg hq]
    clear hq
    go_enter Try.func31, Try.ntmps31
    go_wp2_with (first | (go_at_call 35; refine (isVol_any _ _).mono ?_; rintro e w' ⟨rfl, rfl⟩) | (go_at_call 36; refine (MC.out _).mono ?_; rintro e w' ⟨rfl, rfl⟩) | (go_at_call 37; refine (DC.out _).mono ?_; rintro e w' ⟨rfl, k, rfl⟩))
    go_ret3
    exact ⟨rfl, _, rfl⟩

/-- exact.Scale at every three ints. -/
theorem scale_any (a n d : Int) (w : World) :
    Calls Try.prog 31 #[.int .i64 a, .int .i64 n, .int .i64 d] w fun e w' => e = .returned (.tuple #[.int .i64 (scQ a n d), .int .i64 (scR a n d), .bool (scB a n d)]) ∧ ∃ k, w' = w.drewN k := by
  by_cases hb : volB a = false ∨ volB n = false ∨ volB d = false ∨ d = 0
  · have hs : scB a n d = false := by
      unfold scB
      rcases hb with h | h | h | h <;> simp [h]
    obtain ⟨e1, e2⟩ := sc_no hs
    refine (scale_bad a n d hb w).mono ?_
    rintro e w' ⟨rfl, rfl⟩
    exact ⟨by rw [hs, e1, e2], 0, rfl⟩
  · simp only [not_or, Bool.not_eq_false] at hb
    obtain ⟨b1, b2, b3, b4⟩ := hb
    have c1 := of_volB b1
    have c2 := of_volB b2
    have c3 := of_volB b3
    obtain ⟨x, rfl⟩ := Int.eq_ofNat_of_zero_le c1.1
    obtain ⟨y, rfl⟩ := Int.eq_ofNat_of_zero_le c2.1
    obtain ⟨z, rfl⟩ := Int.eq_ofNat_of_zero_le c3.1
    have hs : scB x y z = decide (x * y / z ≤ 1125899906842624) := by
      unfold scB
      rw [b1, b2, b3, ← Int.natCast_mul, ← Int.natCast_ediv]
      simp only [Bool.and_true, Bool.true_and]
      rw [decide_eq_true (by omega : ((z : Int) ≠ 0)), Bool.true_and]
      exact decide_eq_decide.2 (by omega)
    by_cases hq : x * y / z ≤ 1125899906842624
    · have hs' : scB x y z = true := by rw [hs]; exact decide_eq_true hq
      obtain ⟨e1, e2⟩ := sc_yes hs'
      have hp : x * y / 18446744073709551616 < z := by
        apply Decidable.byContradiction
        intro hh
        have := hi_ge x y z (by omega) (by omega)
        omega
      refine (scale_div x y z (by omega) (by omega) (by omega) (by omega) hp w).mono ?_
      rintro e w' ⟨rfl, hw⟩
      refine ⟨?_, hw⟩
      rw [if_pos hq, hs', e1, e2, Int.natCast_ediv, Int.natCast_emod, Int.natCast_mul]
    · have hs' : scB x y z = false := by rw [hs]; exact decide_eq_false hq
      obtain ⟨e1, e2⟩ := sc_no hs'
      by_cases hp : x * y / 18446744073709551616 < z
      · refine (scale_div x y z (by omega) (by omega) (by omega) (by omega) hp w).mono ?_
        rintro e w' ⟨rfl, hw⟩
        refine ⟨?_, hw⟩
        rw [if_neg hq, hs', e1, e2]
      · refine (scale_over x y z (by omega) (by omega) (by omega) (by omega) (by omega) w).mono ?_
        rintro e w' ⟨rfl, rfl⟩
        exact ⟨by rw [hs', e1, e2], 0, rfl⟩
end Go.Proofs.Ytecnonmcmdaopaa
