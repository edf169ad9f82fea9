/- The numbers Q and P = 2 Q + 1 of the document are prime: a chain of primes, each a factor of what precedes the next one. Plain mathematics, without the program. Conditions: none. -/
import Derived.Test.YtfmjankmfddefaaDoorQNum
namespace Go.Proofs.YtfmjankmfddefaaDoor.Gp.Num
set_option linter.unusedVariables false

/-- What a step of the chain asks, in numbers that can be reckoned. -/
theorem chain {N q k a c : Nat} (hq : Pr q) (h : (decide (1 ≤ k) && decide (N = q * k + 1) && decide (N < (q + 1) * (q + 1)) && decide (q * k < 2 ^ 64) && decide (k < 2 ^ 64) && decide (pm N 64 a (q * k) % N = 1) && decide (pm N 64 a k % N = c) && decide (1 ≤ c) && decide (Nat.gcd (c - 1) N = 1)) = true) : Pr N := by
  simp only [Bool.and_eq_true, decide_eq_true_eq] at h
  obtain ⟨⟨⟨⟨⟨⟨⟨⟨h1, h2⟩, h3⟩, h4⟩, h5⟩, h6⟩, h7⟩, h8⟩, h9⟩ := h
  have hN : 2 ≤ N := by
    have : 0 < q * k := Nat.mul_pos hq.pos h1
    omega
  rw [pm_eq N hN 64 _ _ h4] at h6
  rw [pm_eq N hN 64 _ _ h5] at h7
  exact pock hq h1 h2 h3 h6 h7 h8 h9

theorem prS : Pr 2835870689 := pr_of_noDiv (f := 16) (by decide) (by decide) (by decide +kernel)
theorem prT : Pr 5671741379 := chain (q := 2835870689) (k := 2) (a := 2) (c := 4) prS (by decide +kernel)
theorem prR : Pr 288230376151711447 := chain (q := 5671741379) (k := 50818674) (a := 2) (c := 269194018563725675) prT (by decide +kernel)
theorem prQ : Pr 1152921504606845789 := chain (q := 288230376151711447) (k := 4) (a := 2) (c := 16) prR (by decide +kernel)
theorem prP : Pr 2305843009213691579 := chain (q := 1152921504606845789) (k := 2) (a := 2) (c := 4) prQ (by decide +kernel)
end Go.Proofs.YtfmjankmfddefaaDoor.Gp.Num
