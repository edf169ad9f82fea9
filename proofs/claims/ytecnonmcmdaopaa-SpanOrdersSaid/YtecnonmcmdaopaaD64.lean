/- The mathematics of the division of 128 bits by 64 bits (Knuth's algorithm D for two digits), on natural numbers. Conditions: none beyond those of each lemma. -/
import Derived.KernelRfl
namespace Go.Proofs.Ytecnonmcmdaopaa.D64
set_option linter.unusedVariables false

theorem digit_lt (u n Y : Nat) (hn : n < 4294967296) (hu : u < Y) : (u * 4294967296 + n) / Y < 4294967296 := by
  apply Nat.div_lt_of_lt_mul
  have : (u + 1) * 4294967296 ≤ Y * 4294967296 := Nat.mul_le_mul_right _ hu
  omega

theorem est_le (y1 y0 u : Nat) (h1 : 2147483648 ≤ y1) (hy0 : y0 < 4294967296) (hu : u < y1 * 4294967296 + y0) : u / y1 ≤ 4294967297 := by
  apply Decidable.byContradiction
  intro h
  have h2 : 4294967298 ≤ u / y1 := by omega
  have h3 := (Nat.le_div_iff_mul_le (by omega : 0 < y1)).1 h2
  omega

theorem est_ge (y1 y0 u n : Nat) (h1 : 2147483648 ≤ y1) (hn : n < 4294967296) : (u * 4294967296 + n) / (y1 * 4294967296 + y0) ≤ u / y1 := by
  rw [Nat.le_div_iff_mul_le (by omega)]
  have hd := Nat.div_mul_le_self (u * 4294967296 + n) (y1 * 4294967296 + y0)
  generalize (u * 4294967296 + n) / (y1 * 4294967296 + y0) = t at hd ⊢
  rw [Nat.mul_add, ← Nat.mul_assoc] at hd
  omega

theorem step (y1 y0 u n q r : Nat) (hY : 0 < y1 * 4294967296 + y0) (hn : n < 4294967296) (hu : u < y1 * 4294967296 + y0) (he : u = q * y1 + r)
    (ht : (u * 4294967296 + n) / (y1 * 4294967296 + y0) ≤ q) (hc : 4294967296 ≤ q ∨ r * 4294967296 + n < q * y0) :
    1 ≤ q ∧ u = (q - 1) * y1 + (r + y1) ∧ (u * 4294967296 + n) / (y1 * 4294967296 + y0) ≤ q - 1 := by
  have hlt := digit_lt u n _ hn hu
  have hd := Nat.div_mul_le_self (u * 4294967296 + n) (y1 * 4294967296 + y0)
  generalize (u * 4294967296 + n) / (y1 * 4294967296 + y0) = t at hd ht hlt ⊢
  have hne : t ≠ q := by
    intro hq
    rcases hc with hc | hc
    · omega
    · rw [hq, Nat.mul_add, ← Nat.mul_assoc] at hd
      have : u * 4294967296 = q * y1 * 4294967296 + r * 4294967296 := by rw [he, Nat.add_mul]
      omega
  have h1 : 1 ≤ q := by omega
  refine ⟨h1, ?_, by omega⟩
  obtain ⟨p, rfl⟩ : ∃ p, q = p + 1 := ⟨q - 1, by omega⟩
  simp only [Nat.add_sub_cancel]
  rw [he, Nat.add_mul]
  omega

theorem exit_at (y1 y0 u n q r : Nat) (hY : 0 < y1 * 4294967296 + y0) (he : u = q * y1 + r)
    (ht : (u * 4294967296 + n) / (y1 * 4294967296 + y0) ≤ q) (hc : q * y0 ≤ r * 4294967296 + n) :
    q = (u * 4294967296 + n) / (y1 * 4294967296 + y0) := by
  apply Nat.le_antisymm _ ht
  rw [Nat.le_div_iff_mul_le hY, Nat.mul_add, ← Nat.mul_assoc]
  have : u * 4294967296 = q * y1 * 4294967296 + r * 4294967296 := by rw [he, Nat.add_mul]
  omega

theorem exit_big (y1 y0 u n q r : Nat) (hY : 0 < y1 * 4294967296 + y0) (hy0 : y0 < 4294967296) (he : u = q * y1 + r)
    (ht : (u * 4294967296 + n) / (y1 * 4294967296 + y0) ≤ q) (hq : q ≤ 4294967296) (hr : 4294967296 ≤ r) :
    q = (u * 4294967296 + n) / (y1 * 4294967296 + y0) := by
  refine exit_at y1 y0 u n q r hY he ht ?_
  have := Nat.mul_le_mul_right y0 hq
  omega

/-- What is left: the remainder, as the code reckons it, modulo 2^64. -/
theorem left_mod (u n Y q : Nat) (hY0 : 0 < Y) (hY : Y < 18446744073709551616) (hq : q = (u * 4294967296 + n) / Y) :
    ((u * 4294967296 + n : Nat) : Int) % 18446744073709551616 - ((q * Y : Nat) : Int) % 18446744073709551616 - (((u * 4294967296 + n) % Y : Nat) : Int) = 18446744073709551616 * ((((u * 4294967296 + n : Nat) : Int) % 18446744073709551616 - ((q * Y : Nat) : Int) % 18446744073709551616 - (((u * 4294967296 + n) % Y : Nat) : Int)) / 18446744073709551616) ∧ q * Y + (u * 4294967296 + n) % Y = u * 4294967296 + n := by
  have h := Nat.div_add_mod (u * 4294967296 + n) Y
  rw [← hq, Nat.mul_comm] at h
  refine ⟨?_, h⟩
  omega

theorem two (u n1 n0 Y t1 r1 : Nat) (hY : 0 < Y) (ht : t1 = (u * 4294967296 + n1) / Y) (hr : r1 = (u * 4294967296 + n1) % Y) :
    ((u * 4294967296 + n1) * 4294967296 + n0) / Y = t1 * 4294967296 + (r1 * 4294967296 + n0) / Y ∧ ((u * 4294967296 + n1) * 4294967296 + n0) % Y = (r1 * 4294967296 + n0) % Y := by
  have h := Nat.div_add_mod (u * 4294967296 + n1) Y
  rw [← ht, ← hr] at h
  have e : (u * 4294967296 + n1) * 4294967296 + n0 = (r1 * 4294967296 + n0) + Y * (t1 * 4294967296) := by
    rw [← h, ← Nat.mul_assoc]; omega
  rw [e, Nat.add_mul_div_left _ _ hY, Nat.add_mul_mod_self_left]
  omega

end Go.Proofs.Ytecnonmcmdaopaa.D64
