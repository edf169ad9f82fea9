/- What the library's Replace, Count and Cut make of texts in which each byte 0 is followed by a byte 255: the plain mathematics. Conditions: those of each lemma. -/
import Derived.Test.YtfmjankmfddefaaDoorWWords
import Derived.Lib.Replace
import Derived.Lib.CutLaws
namespace Go.Proofs.YtfmjankmfddefaaDoor.Wr
open Go.Lib Wm
namespace Wl

theorem idx_hit {b : UInt8} {l sub : Bs} (h : sub.isPrefixOf (b :: l) = true) : index (b :: l) sub = 0 := by rw [index, if_pos h]
theorem idx_miss {b : UInt8} {l sub : Bs} (h : sub.isPrefixOf (b :: l) = false) : index (b :: l) sub = if index l sub = -1 then -1 else index l sub + 1 := by
  rw [index, h]
  by_cases e : index l sub = -1 <;> simp [e]
theorem pre_other {b c : UInt8} {l sub : Bs} (h : c ≠ b) : (c :: sub).isPrefixOf (b :: l) = false := by
  simp [List.isPrefixOf, h]
theorem idx_pre {a : Bs} (ha : ∀ b ∈ a, b ≠ 0) (s sub : Bs) : index (a ++ s) (0 :: sub) = if index s (0 :: sub) = -1 then -1 else a.length + index s (0 :: sub) := by
  induction a with
  | nil =>
    have := index_ge s (0 :: sub)
    by_cases e : index s (0 :: sub) = -1 <;> simp [e]
  | cons b a ih =>
    have hb : b ≠ 0 := ha b (by simp)
    rw [List.cons_append, idx_miss (pre_other hb.symm), ih fun c hc => ha c (by simp [hc])]
    have := index_ge s (0 :: sub)
    by_cases e : index s (0 :: sub) = -1
    · simp [e]
    · rw [if_neg e, if_neg e, if_neg (by omega)]
      simp only [List.length_cons]
      omega
theorem idx_nil (c : UInt8) (sub : Bs) : index [] (c :: sub) = -1 := by simp [index]
theorem idx_none {a : Bs} (ha : ∀ b ∈ a, b ≠ 0) (sub : Bs) : index a (0 :: sub) = -1 := by
  have := idx_pre ha [] sub
  rw [List.append_nil, idx_nil] at this
  simpa using this
theorem split0 (s : Bs) : (∀ b ∈ s, b ≠ 0) ∨ ∃ a r, s = a ++ 0 :: r ∧ ∀ b ∈ a, b ≠ 0 := by
  induction s with
  | nil => left; simp
  | cons b s ih =>
    by_cases hb : b = 0
    · right; subst hb; exact ⟨[], s, rfl, by simp⟩
    · rcases ih with h | ⟨a, r, rfl, ha⟩
      · left; intro c hc
        rcases List.mem_cons.1 hc with rfl | hc
        · exact hb
        · exact h c hc
      · right
        refine ⟨b :: a, r, rfl, ?_⟩
        intro c hc
        rcases List.mem_cons.1 hc with rfl | hc
        · exact hb
        · exact ha c hc
theorem esc_plain {a : Bs} (ha : ∀ b ∈ a, b ≠ 0) : esc a = a := by
  induction a with
  | nil => rfl
  | cons b a ih => rw [esc_other (ha b (by simp)), ih fun c hc => ha c (by simp [hc])]
theorem idx_at0 {a : Bs} (ha : ∀ b ∈ a, b ≠ 0) (sub r : Bs) : index (a ++ 0 :: (sub ++ r)) (0 :: sub) = a.length := by
  rw [idx_pre ha, idx_hit (by simp [List.isPrefixOf])]
  simp
theorem drop_at (a r : Bs) (c : UInt8) (k : Nat) : (a ++ c :: r).drop (a.length + (k + 1)) = r.drop k := by
  rw [List.drop_append]
  simp

theorem replaceK_esc (n : Nat) : ∀ s : Bs, s.length < n → replaceK [0] [0, 255] (count s [0]) s = esc s := by
  induction n with
  | zero => intro s h; omega
  | succ n ih =>
    intro s hs
    rcases split0 s with h | ⟨a, r, rfl, ha⟩
    · rw [count_miss (idx_none h []), replaceK, esc_plain h]
    · have hi := idx_at0 ha [] r
      simp only [List.nil_append] at hi
      have hd : (a ++ 0 :: r).drop (a.length + [(0 : UInt8)].length) = r := drop_at a r 0 0
      rw [count_hit (by simp) hi, Nat.add_comm 1, replaceK_hit _ _ _ _ _ hi, hd, ih r (by simp at hs; omega), List.take_left, esc_append, esc_zero, esc_plain ha]
      simp
theorem replaceAll_esc (s : Bs) : replaceAll s [0] [0, 255] = esc s := by
  unfold replaceAll replace replaceNum
  rw [if_neg (by decide), if_pos (by left; decide)]
  exact replaceK_esc _ s (Nat.lt_succ_self _)
theorem replaceK_back (n : Nat) : ∀ x : Bs, x.length < n → replaceK [0, 255] [0] (count (esc x) [0, 255]) (esc x) = x := by
  induction n with
  | zero => intro s h; omega
  | succ n ih =>
    intro x hx
    rcases split0 x with h | ⟨a, r, rfl, ha⟩
    · rw [esc_plain h, count_miss (idx_none h [255]), replaceK]
    · have he : esc (a ++ 0 :: r) = a ++ 0 :: ([255] ++ esc r) := by rw [esc_append, esc_zero, esc_plain ha]; rfl
      have hi := idx_at0 ha [255] (esc r)
      have hd : (a ++ 0 :: ([255] ++ esc r)).drop (a.length + [(0 : UInt8), 255].length) = esc r := drop_at a _ 0 1
      rw [he, count_hit (by simp) hi, Nat.add_comm 1, replaceK_hit _ _ _ _ _ hi, hd, ih r (by simp at hx; omega), List.take_left]
      simp
theorem replaceAll_back (x : Bs) : replaceAll (esc x) [0, 255] [0] = x := by
  unfold replaceAll replace replaceNum
  rw [if_neg (by decide), if_pos (by left; decide)]
  exact replaceK_back _ x (Nat.lt_succ_self _)
theorem index_split (s sub : Bs) : index s sub = -1 ∨ ∃ a r, s = a ++ (sub ++ r) ∧ index s sub = a.length := by
  induction s with
  | nil =>
    cases sub with
    | nil => right; exact ⟨[], [], rfl, rfl⟩
    | cons c sub => left; exact idx_nil c sub
  | cons b l ih =>
    cases hp : sub.isPrefixOf (b :: l) with
    | true =>
      right
      obtain ⟨r, hr⟩ := List.isPrefixOf_iff_prefix.1 hp
      exact ⟨[], r, by simp [hr], idx_hit hp⟩
    | false =>
      rw [idx_miss hp]
      rcases ih with h | ⟨a, r, rfl, h⟩
      · left; rw [if_pos h]
      · right
        refine ⟨b :: a, r, rfl, ?_⟩
        rw [h, if_neg (by omega)]
        simp
/-- Each byte 0 is followed by a byte 255 exactly if there are as many of the one as of the other. -/
theorem count_le_zeros (n : Nat) : ∀ s : Bs, s.length < n → count s [0, 255] ≤ countByte s 0 ∧ (count s [0, 255] = countByte s 0 → ∃ x, s = esc x) := by
  induction n with
  | zero => intro s h; omega
  | succ n ih =>
    intro s hs
    rcases index_split s [0, 255] with h | ⟨a, r, rfl, h⟩
    · rw [count_miss h]
      refine ⟨Nat.zero_le _, fun e => ⟨s, (esc_plain fun b hb e0 => ?_).symm⟩⟩
      subst e0
      have := List.count_pos_iff.2 hb
      unfold countByte at e
      omega
    · have hd : (a ++ ([0, 255] ++ r)).drop (a.length + [(0 : UInt8), 255].length) = r := drop_at a _ 0 1
      rw [count_hit (by simp) h, hd]
      obtain ⟨h1, h2⟩ := ih r (by simp at hs; omega)
      have hc : countByte (a ++ ([0, 255] ++ r)) 0 = countByte a 0 + 1 + countByte r 0 := by
        unfold countByte
        rw [List.count_append, List.count_append, show List.count (0 : UInt8) [0, 255] = 1 by decide]
        omega
      rw [hc]
      refine ⟨by omega, fun e => ?_⟩
      obtain ⟨x, rfl⟩ := h2 (by omega)
      have ha : ∀ b ∈ a, b ≠ 0 := fun b hb e0 => by
        subst e0
        have := List.count_pos_iff.2 hb
        have h3 : countByte a 0 = List.count 0 a := rfl
        omega
      exact ⟨a ++ 0 :: x, by rw [esc_append, esc_zero, esc_plain ha]; rfl⟩
theorem count_esc (n : Nat) : ∀ x : Bs, x.length < n → count (esc x) [0, 255] = countByte (esc x) 0 := by
  induction n with
  | zero => intro s h; omega
  | succ n ih =>
    intro x hx
    rcases split0 x with h | ⟨a, r, rfl, ha⟩
    · rw [esc_plain h, count_miss (idx_none h [255])]
      unfold countByte
      exact (List.count_eq_zero.2 fun hm => h 0 hm rfl).symm
    · have he : esc (a ++ 0 :: r) = a ++ 0 :: ([255] ++ esc r) := by rw [esc_append, esc_zero, esc_plain ha]; rfl
      have hi := idx_at0 ha [255] (esc r)
      have hd : (a ++ 0 :: ([255] ++ esc r)).drop (a.length + [(0 : UInt8), 255].length) = esc r := drop_at a _ 0 1
      rw [he, count_hit (by simp) hi, hd, ih r (by simp at hx; omega)]
      unfold countByte
      rw [List.count_append, List.count_cons_self, List.count_append, List.count_eq_zero.2 fun hm => ha 0 hm rfl, show List.count (0 : UInt8) [255] = 0 by decide]
      omega
theorem idx_end : ∀ (x t : Bs), index (esc x ++ 0 :: 1 :: t) [0, 1] = (esc x).length
  | [], t => by simpa [esc] using idx_hit (b := 0) (l := 1 :: t) (sub := [0, 1]) (by simp [List.isPrefixOf])
  | b :: x, t => by
    have ih := idx_end x t
    by_cases hb : b = 0
    · subst hb
      rw [esc_zero]
      show index (0 :: 255 :: (esc x ++ 0 :: 1 :: t)) [0, 1] = _
      rw [idx_miss (by simp [List.isPrefixOf]), idx_miss (pre_other (by decide)), ih, if_neg (by omega), if_neg (by omega)]
      simp
    · rw [esc_other hb]
      show index (b :: (esc x ++ 0 :: 1 :: t)) [0, 1] = _
      rw [idx_miss (pre_other (Ne.symm hb)), ih, if_neg (by omega)]
      simp
theorem cut_yes (x t : Bs) : cut (encT x ++ t) [0, 1] = (esc x, t, true) := by
  have h : encT x ++ t = esc x ++ 0 :: 1 :: t := by simp [encT]
  have hi := idx_end x t
  unfold cut
  rw [h, hi, if_pos (by omega)]
  simp only [Int.toNat_natCast, List.take_left, List.length_cons, List.length_nil]
  rw [drop_at]
  rfl
/-- Where no text is written: nothing is found, or what is found is no such text. -/
theorem cut_no {s : Bs} (h : decT s = none) : (cut s [0, 1]).2.2 = false ∨ ((cut s [0, 1]).2.2 = true ∧ countByte (cut s [0, 1]).1 0 ≠ count (cut s [0, 1]).1 [0, 255]) := by
  rcases index_split s [0, 1] with hm | ⟨a, r, rfl, hi⟩
  · left
    unfold cut
    rw [hm, if_neg (by omega)]
  · right
    have e : cut (a ++ ([0, 1] ++ r)) [0, 1] = (a, r, true) := by
      unfold cut
      rw [hi, if_pos (by omega)]
      simp only [Int.toNat_natCast, List.take_left, List.length_cons, List.length_nil]
      exact congrArg (fun z => (a, z, true)) (drop_at a (1 :: r) 0 1)
    rw [e]
    refine ⟨rfl, fun hc => ?_⟩
    obtain ⟨x, rfl⟩ := (count_le_zeros _ a (Nat.lt_succ_self _)).2 hc.symm
    have := decT_enc x r
    rw [show encT x ++ r = esc x ++ ([0, 1] ++ r) by simp [encT], h] at this
    cases this
theorem cut_le (s : Bs) : (cut s [0, 1]).1.length ≤ s.length := by
  unfold cut
  split
  · exact List.length_take_le' _ _
  · exact Nat.le_refl _
theorem count_bound (s sub : Bs) : count s sub ≤ s.length + 1 := count_le s sub
end Wl
end Go.Proofs.YtfmjankmfddefaaDoor.Wr
