/- The proportional division, as plain mathematics: quotients, remainders, and the rank of each index in the order of the remainders. -/
import Derived.Test.YtbpibdjmffhmpaaOr
namespace Go.Proofs.Ytbpibdjmffhmpaa
open Mth

def sumF (f : Nat → Int) : Nat → Int
  | 0 => 0
  | n + 1 => sumF f n + f n
theorem sumF_tot (l : List Int) (k : Nat) (hk : k ≤ l.length) : sumF (fun i => l.getD i 0) k = tot (l.take k) := by
  induction k with
  | zero => simp [sumF, tot]
  | succ k ih => rw [sumF, tot_snoc l k (by omega), ih (by omega)]
theorem sumF_all (l : List Int) : sumF (fun i => l.getD i 0) l.length = tot l := by rw [sumF_tot l _ (Nat.le_refl _), List.take_length]
theorem sumF_congr {f g : Nat → Int} {n : Nat} (h : ∀ i, i < n → f i = g i) : sumF f n = sumF g n := by
  induction n with
  | zero => rfl
  | succ n ih => rw [sumF, sumF, ih (fun i hi => h i (by omega)), h n (by omega)]
theorem sumF_add (f g : Nat → Int) (n : Nat) : sumF (fun i => f i + g i) n = sumF f n + sumF g n := by
  induction n with
  | zero => rfl
  | succ n ih => simp only [sumF, ih]; omega
theorem sumF_nonneg {f : Nat → Int} {n : Nat} (h : ∀ i, i < n → 0 ≤ f i) : 0 ≤ sumF f n := by
  induction n with
  | zero => simp [sumF]
  | succ n ih => have := ih (fun i hi => h i (by omega)); have := h n (by omega); simp only [sumF]; omega
theorem sumF_mono {f : Nat → Int} {n k : Nat} (h : ∀ i, i < n → 0 ≤ f i) (hk : k ≤ n) : sumF f k ≤ sumF f n := by
  induction n with
  | zero => obtain rfl : k = 0 := by omega
            exact Int.le_refl _
  | succ n ih =>
    by_cases hkn : k = n + 1
    · rw [hkn]; exact Int.le_refl _
    · have := ih (fun i hi => h i (by omega)) (by omega); have := h n (by omega); simp only [sumF]; omega

/-- the order -/
theorem bef_irrefl (f : Nat → Int) (x : Nat) : bef f x x = false := by simp [bef]
theorem bef_total (f : Nat → Int) (x y : Nat) (h1 : bef f x y = false) (h2 : bef f y x = false) : x = y := by
  have a := of_decide_eq_false h1
  have b := of_decide_eq_false h2
  omega
theorem bef_asymm (f : Nat → Int) (x y : Nat) (h1 : bef f x y = true) : bef f y x = false := by
  have a := of_decide_eq_true h1
  exact decide_eq_false (by omega)

def rank (f : Nat → Int) (n i : Nat) : Nat := (List.range n).countP (fun j => bef f j i)

theorem rank_at (f : Nat → Int) (n : Nat) (L : List Nat) (hp : L.Perm (List.range n)) (hs : L.Pairwise (fun x y => bef f y x = false)) (k : Nat) (hk : k < L.length) : rank f n L[k] = k := by
  unfold rank
  rw [← hp.countP_eq]
  have hnd : L.Nodup := hp.nodup_iff.2 List.nodup_range
  generalize hx : L[k] = x
  have hL : L = L.take k ++ x :: L.drop (k + 1) := by
    rw [← hx]; simp
  have hpw := hs
  rw [hL] at hpw hnd
  rw [List.pairwise_append] at hpw
  rw [List.nodup_append] at hnd
  obtain ⟨_, h2, h3⟩ := hpw
  obtain ⟨_, n2, n3⟩ := hnd
  rw [hL, List.countP_append, List.countP_cons, bef_irrefl]
  have c1 : List.countP (fun j => bef f j x) (L.take k) = (L.take k).length := by
    rw [List.countP_eq_length]
    intro a ha
    have := h3 a ha x (by simp)
    cases hb : bef f a x with
    | true => rfl
    | false => exact absurd (bef_total f a x hb this) (n3 a ha x (by simp))
  have c2 : List.countP (fun j => bef f j x) (L.drop (k + 1)) = 0 := by
    rw [List.countP_eq_zero]
    intro a ha
    have := (List.pairwise_cons.1 h2).1 a ha
    simp [this]
  rw [c1, c2, List.length_take]
  simp
  omega

theorem mem_take_rank (f : Nat → Int) (n : Nat) (L : List Nat) (hp : L.Perm (List.range n)) (hs : L.Pairwise (fun x y => bef f y x = false)) (m i : Nat) (hi : i < n) : i ∈ L.take m ↔ rank f n i < m := by
  constructor
  · intro h
    obtain ⟨k, hk, rfl⟩ := List.mem_iff_getElem.1 h
    rw [List.length_take] at hk
    rw [List.getElem_take, rank_at f n L hp hs k (by omega)]
    omega
  · intro h
    have hm : i ∈ L := hp.mem_iff.2 (List.mem_range.2 hi)
    obtain ⟨k, hk, rfl⟩ := List.mem_iff_getElem.1 hm
    rw [rank_at f n L hp hs k hk] at h
    exact List.mem_iff_getElem.2 ⟨k, by rw [List.length_take]; omega, by rw [List.getElem_take]⟩

/-! the division of t among the weights z i, i < n, with the sum W -/
section
variable (t W : Int) (z : Nat → Int)
def quo (i : Nat) : Int := t * z i / W
def rem (i : Nat) : Int := t * z i % W
def over (n : Nat) : Int := t - sumF (quo t W z) n
def part (n i : Nat) : Int := quo t W z i + if (rank (rem t W z) n i : Int) < over t W z n then 1 else 0
end
section
variable {t W : Int} {z : Nat → Int} {n : Nat}

theorem sum_eq (n : Nat) : W * sumF (quo t W z) n + sumF (rem t W z) n = t * sumF z n := by
  induction n with
  | zero => simp [sumF]
  | succ n ih =>
    simp only [sumF, Int.mul_add]
    have := Int.mul_ediv_add_emod (t * z n) W
    unfold quo rem at *
    omega
theorem rem_bd (hW : 0 < W) (i : Nat) : 0 ≤ rem t W z i ∧ rem t W z i < W := ⟨Int.emod_nonneg _ (by omega), Int.emod_lt_of_pos _ hW⟩
theorem quo_nonneg (hW : 0 < W) (ht : 0 ≤ t) {i : Nat} (hz : 0 ≤ z i) : 0 ≤ quo t W z i := Int.ediv_nonneg (Int.mul_nonneg ht hz) (by omega)
theorem quo_le (hW : 0 < W) (htW : t ≤ W) {i : Nat} (hz : 0 ≤ z i) : quo t W z i ≤ z i := by
  unfold quo
  refine Int.ediv_le_of_le_mul hW ?_
  rw [Int.mul_comm (z i) W]
  exact Int.mul_le_mul_of_nonneg_right htW hz
theorem sumRem_le (hW : 0 < W) (n : Nat) : 0 ≤ sumF (rem t W z) n ∧ sumF (rem t W z) n ≤ (n : Int) * (W - 1) := by
  induction n with
  | zero => simp [sumF]
  | succ n ih =>
    have := rem_bd (t := t) (z := z) hW n
    simp only [sumF, Int.natCast_add, Int.add_mul]
    omega
theorem over_mul (hs : sumF z n = W) : W * over t W z n = sumF (rem t W z) n := by
  have := sum_eq (t := t) (W := W) (z := z) n
  rw [hs, Int.mul_comm t W] at this
  unfold over
  rw [Int.mul_sub]
  omega
theorem over_bd (hW : 0 < W) (hs : sumF z n = W) : 0 ≤ over t W z n ∧ over t W z n ≤ n := by
  have h1 := over_mul (t := t) hs
  have h2 := sumRem_le (t := t) (z := z) hW n
  constructor
  · refine Int.le_of_mul_le_mul_left (a := W) ?_ hW
    rw [Int.mul_zero, h1]; exact h2.1
  · refine Int.le_of_mul_le_mul_left (a := W) ?_ hW
    rw [h1]
    have : (n : Int) * (W - 1) = W * n - n := by rw [Int.mul_sub, Int.mul_comm]; omega
    omega
end
end Go.Proofs.Ytbpibdjmffhmpaa
