/- Plain mathematics of a log file: records, the valid part, what is found of records that are torn or cut off. Conditions: those of each lemma. -/
import Derived.Test.YtdjchpejhfkknaaGMath
import Derived.Test.YtdjchpejhfkknaaKMath
namespace Go.Proofs.Ytdjchpejhfkknaa
namespace Lm
open Dg.Gm (crc crc_lt)
abbrev Bs := List UInt8

/-- A length as three bytes, a checksum as two. -/
def be3 (n : Nat) : Bs := [UInt8.ofNat (n / 65536), UInt8.ofNat (n / 256), UInt8.ofNat n]
def be2 (n : Nat) : Bs := [UInt8.ofNat (n / 256), UInt8.ofNat n]
def bodyB (b : Bs) : Bs := be3 b.length ++ b
def recB (b : Bs) : Bs := 87 :: (bodyB b ++ be2 (crc (bodyB b)) ++ [233])
def recs (l : List Bs) : Bs := l.flatMap recB
def Small (l : List Bs) : Prop := ∀ b ∈ l, b.length ≤ 1048576
theorem recB_length (b : Bs) : (recB b).length = b.length + 7 := by simp [recB, bodyB, be3, be2]
theorem recs_nil : recs [] = [] := rfl
theorem recs_cons (b : Bs) (l : List Bs) : recs (b :: l) = recB b ++ recs l := rfl
theorem recs_append (l m : List Bs) : recs (l ++ m) = recs l ++ recs m := by simp [recs]
theorem recs_one (b : Bs) : recs [b] = recB b := by simp [recs]
theorem recB_at0 (b : Bs) (y : Bs) : (recB b ++ y).getD 0 0 = 87 := rfl
theorem recB_at1 (b : Bs) (y : Bs) : (recB b ++ y).getD 1 0 = UInt8.ofNat (b.length / 65536) := rfl
theorem recB_at2 (b : Bs) (y : Bs) : (recB b ++ y).getD 2 0 = UInt8.ofNat (b.length / 256) := rfl
theorem recB_at3 (b : Bs) (y : Bs) : (recB b ++ y).getD 3 0 = UInt8.ofNat b.length := rfl
theorem recB_last (b : Bs) (y : Bs) : (recB b ++ y).getD (b.length + 6) 0 = 233 := by
  have e : recB b ++ y = (87 :: (be3 b.length ++ b ++ be2 (crc (bodyB b)))) ++ (233 :: y) := by simp [recB, bodyB]
  have hl : (87 :: (be3 b.length ++ b ++ be2 (crc (bodyB b))) : Bs).length = b.length + 6 := by simp [be3, be2]
  rw [e, List.getD_eq_getElem?_getD, List.getElem?_append_right (by omega), hl]
  simp
theorem recB_row (b y : Bs) : ((recB b ++ y).drop 4).take b.length = b := by
  have e : recB b ++ y = [87, UInt8.ofNat (b.length / 65536), UInt8.ofNat (b.length / 256), UInt8.ofNat b.length] ++ (b ++ (be2 (crc (bodyB b)) ++ 233 :: y)) := by simp [recB, bodyB, be3]
  have e4 : ∀ (a b c d : UInt8) (z : Bs), ([a, b, c, d] ++ z).drop 4 = z := fun _ _ _ _ _ => rfl
  rw [e, e4, List.take_left' rfl]
/-- The size that the head of a record gives. -/
def hdr (x : Bs) : Nat := (x.getD 1 0).toNat * 65536 + (x.getD 2 0).toNat * 256 + (x.getD 3 0).toNat
theorem toNat_of (n : Nat) : (UInt8.ofNat n).toNat = n % 256 := by simp
theorem hdr_rec (b y : Bs) (h : b.length ≤ 1048576) : hdr (recB b ++ y) = b.length := by
  unfold hdr
  rw [recB_at1, recB_at2, recB_at3, toNat_of, toNat_of, toNat_of]
  omega
theorem hdr_lt (x : Bs) : hdr x < 16777216 := by
  unfold hdr
  have h1 := (x.getD 1 0).toNat_lt
  have h2 := (x.getD 2 0).toNat_lt
  have h3 := (x.getD 3 0).toNat_lt
  omega
/-- The row whose record a file begins with. -/
def first (x : Bs) : Option Bs :=
  if x.length < 7 then none
  else if 1048576 < hdr x ∨ x.length < 7 + hdr x then none
  else if recB ((x.drop 4).take (hdr x)) <+: x then some ((x.drop 4).take (hdr x)) else none
theorem first_rec (b y : Bs) (h : b.length ≤ 1048576) : first (recB b ++ y) = some b := by
  unfold first
  have hl : (recB b ++ y).length = b.length + 7 + y.length := by rw [List.length_append, recB_length]
  rw [hdr_rec b y h, recB_row, if_neg (by omega), if_neg (by omega), if_pos (List.prefix_append _ _)]
theorem first_some {x b : Bs} (h : first x = some b) : b.length ≤ 1048576 ∧ ∃ y, x = recB b ++ y := by
  unfold first at h
  split at h
  · cases h
  · next h1 =>
    split at h
    · cases h
    · next h2 =>
      split at h
      · next h3 =>
        injection h with h
        obtain ⟨y, hy⟩ := h3
        rw [h] at hy
        refine ⟨?_, y, hy.symm⟩
        rw [← h, List.length_take]
        omega
      · cases h
theorem first_nil : first [] = none := rfl
/-- The rows of the valid part. -/
def vals : Nat → Bs → List Bs
  | 0, _ => []
  | k + 1, x => match first x with
    | none => []
    | some b => b :: vals k (x.drop (b.length + 7))
def val (x : Bs) : List Bs := vals x.length x
theorem first_len {x b : Bs} (h : first x = some b) : b.length + 7 ≤ x.length := by
  obtain ⟨_, y, rfl⟩ := first_some h
  rw [List.length_append, recB_length]
  omega
theorem vals_more (k : Nat) : ∀ x : Bs, x.length ≤ k → vals k x = vals x.length x := by
  induction k using Nat.strongRecOn with
  | _ k ih =>
    intro x hx
    cases k with
    | zero => rw [show x.length = 0 by omega]
    | succ k =>
      cases hl : x.length with
      | zero =>
        have : x = [] := List.eq_nil_of_length_eq_zero hl
        subst this
        rfl
      | succ m =>
        simp only [vals]
        cases hf : first x with
        | none => rfl
        | some b =>
          have hb := first_len hf
          have hd : (x.drop (b.length + 7)).length = x.length - (b.length + 7) := List.length_drop
          simp only
          rw [ih k (by omega) _ (by omega)]
          by_cases hm : m = k
          · subst hm; rw [ih m (by omega) _ (by omega)]
          · rw [ih m (by omega) _ (by omega)]
theorem val_none {x : Bs} (h : first x = none) : val x = [] := by
  unfold val
  cases x.length with
  | zero => rfl
  | succ m => simp only [vals, h]
theorem val_some {x b : Bs} (h : first x = some b) : val x = b :: val (x.drop (b.length + 7)) := by
  have hb := first_len h
  have hd : (x.drop (b.length + 7)).length = x.length - (b.length + 7) := List.length_drop
  unfold val
  obtain ⟨m, hm⟩ : ∃ m, x.length = m + 1 := ⟨x.length - 1, by omega⟩
  rw [hm]
  simp only [vals, h]
  rw [vals_more m _ (by omega)]
theorem drop_rec (b y : Bs) : (recB b ++ y).drop (b.length + 7) = y := List.drop_left' (recB_length b)
theorem val_rec (b y : Bs) (h : b.length ≤ 1048576) : val (recB b ++ y) = b :: val y := by
  rw [val_some (first_rec b y h), drop_rec]
theorem val_recs (l : List Bs) (y : Bs) (h : Small l) : val (recs l ++ y) = l ++ val y := by
  induction l with
  | nil => rfl
  | cons b t ih =>
    rw [recs_cons, List.append_assoc, val_rec _ _ (h b (by simp)), ih (fun c hc => h c (by simp [hc]))]
    rfl
theorem val_nil : val [] = [] := rfl
theorem val_whole (l : List Bs) (h : Small l) : val (recs l) = l := by
  have := val_recs l [] h
  simpa [val_nil] using this
theorem val_stop (l : List Bs) (y : Bs) (h : Small l) (hy : first y = none) : val (recs l ++ y) = l := by
  rw [val_recs l y h, val_none hy, List.append_nil]
theorem val_split (n : Nat) : ∀ x : Bs, x.length ≤ n → ∃ y, x = recs (val x) ++ y ∧ first y = none ∧ Small (val x) := by
  induction n with
  | zero =>
    intro x hx
    have : x = [] := List.eq_nil_of_length_eq_zero (by omega)
    subst this
    exact ⟨[], rfl, rfl, fun b hb => by cases hb⟩
  | succ n ih =>
    intro x hx
    cases hf : first x with
    | none =>
      rw [val_none hf]
      exact ⟨x, rfl, hf, fun b hb => by cases hb⟩
    | some b =>
      obtain ⟨hb, y, rfl⟩ := first_some hf
      rw [val_rec _ _ hb]
      have hl : (recB b ++ y).length = b.length + 7 + y.length := by rw [List.length_append, recB_length]
      obtain ⟨z, hz, h1, h2⟩ := ih y (by omega)
      refine ⟨z, ?_, h1, ?_⟩
      · rw [recs_cons, List.append_assoc, ← hz]
      · intro c hc
        rcases List.mem_cons.1 hc with rfl | hc
        · exact hb
        · exact h2 c hc
theorem val_small (x : Bs) : Small (val x) := (val_split x.length x (Nat.le_refl _)).choose_spec.2.2
/-- The length of the valid part. -/
def vlen (x : Bs) : Nat := (recs (val x)).length
theorem vlen_le (x : Bs) : vlen x ≤ x.length := by
  obtain ⟨y, h, _⟩ := val_split x.length x (Nat.le_refl _)
  have := congrArg List.length h
  rw [List.length_append] at this
  unfold vlen
  omega
theorem take_vlen (x : Bs) : x.take (vlen x) = recs (val x) := by
  obtain ⟨y, h, _⟩ := val_split x.length x (Nat.le_refl _)
  unfold vlen
  generalize val x = l at *
  rw [h]
  exact List.take_left
theorem vlen_recs (l : List Bs) (h : Small l) : vlen (recs l) = (recs l).length := by unfold vlen; rw [val_whole l h]
theorem recs_length (l : List Bs) : (recs l).length = (l.map fun b => b.length + 7).sum := by
  induction l with
  | nil => rfl
  | cons b t ih => rw [recs_cons, List.length_append, recB_length, ih]; simp
/-- A record that has been torn, with bytes 0 or the end of the file behind it, is none. -/
theorem first_torn {b y : Bs} {k : Nat} (hb : b.length ≤ 1048576) (hk : k < b.length + 7) (hy : ∀ i, i < b.length + 7 → i < y.length → y.getD i 0 = if i < k then (recB b).getD i 0 else 0) : first y = none := by
  cases hf : first y with
  | none => rfl
  | some c =>
    exfalso
    obtain ⟨hc, z, rfl⟩ := first_some hf
    have hl : (recB c ++ z).length = c.length + 7 + z.length := by rw [List.length_append, recB_length]
    have r : ∀ i, (recB b).getD i 0 = (recB b ++ []).getD i 0 := fun i => by rw [List.append_nil]
    have h0 := hy 0 (by omega) (by omega)
    have h1 := hy 1 (by omega) (by omega)
    have h2 := hy 2 (by omega) (by omega)
    have h3 := hy 3 (by omega) (by omega)
    have hlast := hy (c.length + 6)
    rw [r] at h0 h1 h2 h3
    rw [recB_at0, recB_at0] at h0
    rw [recB_at1, recB_at1] at h1
    rw [recB_at2, recB_at2] at h2
    rw [recB_at3, recB_at3] at h3
    rw [recB_last] at hlast
    have hk0 : 0 < k := by
      rcases Nat.eq_zero_or_pos k with h | h
      · subst h; rw [if_neg (by omega)] at h0; exact absurd h0 (by decide)
      · exact h
    have n1 : c.length / 65536 % 256 = if 1 < k then b.length / 65536 % 256 else 0 := by
      have := congrArg UInt8.toNat h1
      rw [toNat_of] at this
      split at this
      · next h => rw [if_pos h, this, toNat_of]
      · next h => rw [if_neg h, this]; rfl
    have n2 : c.length / 256 % 256 = if 2 < k then b.length / 256 % 256 else 0 := by
      have := congrArg UInt8.toNat h2
      rw [toNat_of] at this
      split at this
      · next h => rw [if_pos h, this, toNat_of]
      · next h => rw [if_neg h, this]; rfl
    have n3 : c.length % 256 = if 3 < k then b.length % 256 else 0 := by
      have := congrArg UInt8.toNat h3
      rw [toNat_of] at this
      split at this
      · next h => rw [if_pos h, this, toNat_of]
      · next h => rw [if_neg h, this]; rfl
    have hcb : c.length ≤ b.length ∧ (3 < k → c.length = b.length) := by
      by_cases k1 : 1 < k <;> by_cases k2 : 2 < k <;> by_cases k3 : 3 < k <;> simp only [k1, k2, k3, if_true, if_false] at n1 n2 n3 <;> constructor <;> omega
    have hz := hlast (by omega) (by omega)
    by_cases hkl : c.length + 6 < k
    · have := hcb.2 (by omega)
      omega
    · rw [if_neg hkl] at hz
      exact absurd hz (by decide)

/-- Of a prefix of a file of records, the rows whose records are complete are found. -/
theorem take_recs (l : List Bs) (h : Small l) : ∀ cut, ∃ m, m ≤ l.length ∧ val ((recs l).take cut) = l.take m ∧ (recs (l.take m)).length ≤ cut ∧ (m < l.length → cut < (recs (l.take (m + 1))).length) := by
  induction l with
  | nil =>
    intro cut
    exact ⟨0, Nat.le_refl _, by simp [recs_nil, val_nil], by simp [recs_nil], fun h => absurd h (by simp)⟩
  | cons b t ih =>
    intro cut
    have hb := h b (by simp)
    by_cases hc : cut < b.length + 7
    · refine ⟨0, Nat.zero_le _, ?_, by simp [recs_nil], fun _ => ?_⟩
      · rw [List.take_zero]
        refine val_none (first_torn (k := cut) hb hc fun i hi hil => ?_)
        have hic : i < cut := by rw [List.length_take] at hil; omega
        rw [if_pos hic, recs_cons, List.getD_eq_getElem?_getD, List.getElem?_take_of_lt hic, List.getElem?_append_left (by rw [recB_length]; omega), List.getD_eq_getElem?_getD]
      · rw [Nat.zero_add, List.take_succ_cons, List.take_zero, recs_one, recB_length]
        omega
    · obtain ⟨m, h1, h2, h3, h4⟩ := ih (fun c hc => h c (by simp [hc])) (cut - (b.length + 7))
      refine ⟨m + 1, by simpa using h1, ?_, ?_, fun hm => ?_⟩
      · rw [recs_cons, List.take_append, recB_length, List.take_of_length_le (by rw [recB_length]; omega), val_rec _ _ hb, h2]
        rfl
      · rw [List.take_succ_cons, recs_cons, List.length_append, recB_length]
        omega
      · have := h4 (by simpa using hm)
        rw [List.take_succ_cons, recs_cons, List.length_append, recB_length]
        omega
theorem recs_take_mono (l : List Bs) {m n : Nat} (h : m ≤ n) : (recs (l.take m)).length ≤ (recs (l.take n)).length := by
  have e : l.take n = l.take m ++ (l.take n).drop m := by
    have h1 := (List.take_append_drop m (l.take n)).symm
    rw [List.take_take, Nat.min_eq_left h] at h1
    exact h1
  rw [e, recs_append, List.length_append]
  omega
theorem take_more (l : List Bs) (h : Small l) (cut : Nat) : val ((recs l).take cut) <+: val ((recs l).take (cut + 1)) := by
  obtain ⟨m, h1, h2, h3, h4⟩ := take_recs l h cut
  obtain ⟨n, k1, k2, k3, k4⟩ := take_recs l h (cut + 1)
  rw [h2, k2]
  have hmn : m ≤ n := by
    rcases Nat.lt_or_ge n m with hlt | hge
    · exfalso
      have := k4 (by omega)
      have := recs_take_mono l (show n + 1 ≤ m by omega)
      omega
    · exact hge
  exact List.take_prefix_take_left hmn
end Lm
end Go.Proofs.Ytdjchpejhfkknaa
