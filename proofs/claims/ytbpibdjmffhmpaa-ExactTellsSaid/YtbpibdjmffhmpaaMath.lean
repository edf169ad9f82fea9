/- Sums of lists of integers, the 128 bits in which the code adds them, and the order of the remainders of a division. Plain mathematics, without the program. -/
import Derived.KernelRfl
namespace Go.Proofs.Ytbpibdjmffhmpaa.Mth

def tot : List Int → Int
  | [] => 0
  | x :: l => x + tot l
theorem tot_append (a b : List Int) : tot (a ++ b) = tot a + tot b := by
  induction a with
  | nil => simp [tot]
  | cons x a ih => simp only [List.cons_append, tot, ih]; omega
theorem take_snoc (l : List Int) (k : Nat) (h : k < l.length) : l.take (k + 1) = l.take k ++ [l.getD k 0] := by
  rw [List.take_add_one, List.getElem?_eq_getElem h, List.getD_eq_getElem?_getD, List.getElem?_eq_getElem h]; rfl
theorem tot_snoc (l : List Int) (k : Nat) (h : k < l.length) : tot (l.take (k + 1)) = tot (l.take k) + l.getD k 0 := by
  rw [take_snoc l k h, tot_append]; simp [tot]
theorem tot_reverse (l : List Int) : tot l.reverse = tot l := by
  induction l with
  | nil => rfl
  | cons x l ih => rw [List.reverse_cons, tot_append, ih]; simp [tot]; omega
theorem tot_neg (l : List Int) : tot (l.map fun x => -x) = - tot l := by
  induction l with
  | nil => rfl
  | cons x l ih => simp only [List.map_cons, tot, ih]; omega
/-- every element fits in 64 bits -/
def Fits (l : List Int) : Prop := ∀ x ∈ l, -9223372036854775808 ≤ x ∧ x ≤ 9223372036854775807
theorem Fits.getD {l : List Int} (h : Fits l) (k : Nat) : -9223372036854775808 ≤ l.getD k 0 ∧ l.getD k 0 ≤ 9223372036854775807 := by
  rw [List.getD_eq_getElem?_getD]
  by_cases hk : k < l.length
  · rw [List.getElem?_eq_getElem hk]; exact h _ (List.getElem_mem hk)
  · rw [List.getElem?_eq_none (by omega)]; simp
theorem Fits.take {l : List Int} (h : Fits l) (k : Nat) : Fits (l.take k) := fun x hx => h x (List.mem_of_mem_take hx)
theorem Fits.drop {l : List Int} (h : Fits l) (k : Nat) : Fits (l.drop k) := fun x hx => h x (List.mem_of_mem_drop hx)
theorem tot_bound {l : List Int} (h : Fits l) : -9223372036854775808 * (l.length : Int) ≤ tot l ∧ tot l ≤ 9223372036854775807 * (l.length : Int) := by
  induction l with
  | nil => simp [tot]
  | cons x l ih =>
    have h1 := h x (by simp)
    have h2 := ih (fun y hy => h y (by simp [hy]))
    simp only [tot, List.length_cons]
    omega

/-- The 128 bits of a sum: the lower and the upper half. -/
def lo (s : Int) : Int := s % 18446744073709551616
def hi (s : Int) : Int := s / 18446744073709551616 % 18446744073709551616
theorem lo_bd (s : Int) : 0 ≤ lo s ∧ lo s < 18446744073709551616 := by unfold lo; omega
theorem hi_bd (s : Int) : 0 ≤ hi s ∧ hi s < 18446744073709551616 := by unfold hi; omega
theorem lo_step (s n : Int) : (lo s + n % 18446744073709551616) % 18446744073709551616 = lo (s + n) := by unfold lo; omega
theorem hi_step (s n : Int) (h0 : -9223372036854775808 ≤ n) (h1 : n ≤ 9223372036854775807) :
    (hi s + (n / 9223372036854775808 % 18446744073709551616 + (lo s + n % 18446744073709551616) / 18446744073709551616) % 18446744073709551616) % 18446744073709551616 = hi (s + n) := by
  have e1 : n / 9223372036854775808 = n / 18446744073709551616 := by omega
  have e2 : (s + n) / 18446744073709551616 = s / 18446744073709551616 + n / 18446744073709551616 + (s % 18446744073709551616 + n % 18446744073709551616) / 18446744073709551616 := by omega
  unfold hi lo
  rw [e1, e2]
  generalize s / 18446744073709551616 = a
  generalize n / 18446744073709551616 = b
  generalize (s % 18446744073709551616 + n % 18446744073709551616) / 18446744073709551616 = c
  omega
def fits (s : Int) : Bool := decide (-9223372036854775808 ≤ s ∧ s ≤ 9223372036854775807)
/-- the lower half as an int -/
def low (s : Int) : Int := (lo s + 9223372036854775808) % 18446744073709551616 - 9223372036854775808
theorem low_eq {s : Int} (h : fits s = true) : low s = s := by
  have := of_decide_eq_true h
  unfold low lo; omega
theorem end_yes {s : Int} (h : fits s = true) : hi s = low s / 9223372036854775808 % 18446744073709551616 := by
  have h' := of_decide_eq_true h
  rw [low_eq h]
  unfold hi; omega
theorem end_no {s : Int} (h : fits s = false) (h0 : -9223372036854775808 * 17592186044416 ≤ s) (h1 : s ≤ 9223372036854775808 * 17592186044416) : hi s ≠ low s / 9223372036854775808 % 18446744073709551616 := by
  have h' := of_decide_eq_false h
  have l1 : -9223372036854775808 ≤ low s ∧ low s ≤ 9223372036854775807 := by unfold low; omega
  have l2 : low s / 9223372036854775808 = -1 ∧ low s < 0 ∨ low s / 9223372036854775808 = 0 ∧ 0 ≤ low s := by omega
  have l3 : (s - low s) % 18446744073709551616 = 0 := by unfold low lo; omega
  generalize low s = n at *
  have l4 : -17592186044416 ≤ s / 18446744073709551616 ∧ s / 18446744073709551616 ≤ 17592186044416 := by omega
  unfold hi
  rcases l2 with ⟨l2, l5⟩ | ⟨l2, l5⟩
  · rw [l2]
    omega
  · rw [l2]
    omega
end Go.Proofs.Ytbpibdjmffhmpaa.Mth
