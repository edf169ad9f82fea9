/- Plain mathematics of the texts of hours: two digits, their order, what a numeral of them is. Conditions: those of each lemma. -/
import Derived.Test.YtanjkjendppigaaDoorDRhour
import Derived.Lib.Atoi
namespace Go.Proofs.YtanjkjendppigaaDoor.Dy
open Go.RowKit Cal
set_option linter.unusedVariables false

def dg (k : Nat) : UInt8 := UInt8.ofNat (48 + k)
def d2 (n : Nat) : Bs := [dg (n / 10), dg (n % 10)]
def txt (D : Dt) : Bs := d2 (D.y / 100) ++ (d2 (D.y % 100) ++ (45 :: (d2 D.m ++ (45 :: (d2 D.d ++ (32 :: (d2 D.h ++ [104])))))))
def text (t : Nat) : Bs := txt (dateOf t)
theorem dg_toNat {k : Nat} (h : k < 10) : (dg k).toNat = 48 + k := by unfold dg; simp; omega
theorem dg_inj {a b : Nat} (ha : a < 10) (hb : b < 10) (h : dg a = dg b) : a = b := by
  have := congrArg UInt8.toNat h
  rw [dg_toNat ha, dg_toNat hb] at this
  omega
theorem dg_of {c : UInt8} (h1 : 48 ≤ c.toNat) (h2 : c.toNat ≤ 57) : c = dg (c.toNat - 48) := by
  apply UInt8.toNat_inj.1
  rw [dg_toNat (by omega)]
  omega
theorem txt_length (D : Dt) : (txt D).length = 14 := by simp [txt, d2]
theorem digit_dg {k : Nat} (h : k < 10) : Lib.digitVal (dg k) = some k := by
  unfold Lib.digitVal
  rw [dg_toNat h, if_pos (by omega)]
  congr 1; omega
theorem atoi_two {a b : Nat} (ha : a < 10) (hb : b < 10) : Lib.atoi [dg a, dg b] = some ((10 * a + b : Nat) : Int) := by
  have h1 : (dg a == 45) = false := by
    apply beq_eq_false_iff_ne.2
    intro h
    have := congrArg UInt8.toNat h
    rw [dg_toNat ha] at this
    simp at this
    omega
  have h2 : (dg a == 43) = false := by
    apply beq_eq_false_iff_ne.2
    intro h
    have := congrArg UInt8.toNat h
    rw [dg_toNat ha] at this
    simp at this
    omega
  have e : Lib.decNat [dg a, dg b] = some (a * 10 + b) := by simp [Lib.decNat, Lib.decFrom, digit_dg ha, digit_dg hb]
  simp only [Lib.atoi, h1, h2, Bool.false_eq_true, if_false, e, Option.map_some]
  congr 1; omega
theorem atoi_four {a b c d : Nat} (ha : a < 10) (hb : b < 10) (hc : c < 10) (hd : d < 10) : Lib.atoi [dg a, dg b, dg c, dg d] = some ((1000 * a + 100 * b + 10 * c + d : Nat) : Int) := by
  have h1 : (dg a == 45) = false := by
    apply beq_eq_false_iff_ne.2
    intro h
    have := congrArg UInt8.toNat h
    rw [dg_toNat ha] at this
    simp at this
    omega
  have h2 : (dg a == 43) = false := by
    apply beq_eq_false_iff_ne.2
    intro h
    have := congrArg UInt8.toNat h
    rw [dg_toNat ha] at this
    simp at this
    omega
  have e : Lib.decNat [dg a, dg b, dg c, dg d] = some (((a * 10 + b) * 10 + c) * 10 + d) := by simp [Lib.decNat, Lib.decFrom, digit_dg ha, digit_dg hb, digit_dg hc, digit_dg hd]
  simp only [Lib.atoi, h1, h2, Bool.false_eq_true, if_false, e, Option.map_some]
  congr 1; omega
theorem dec_two {x : Nat} (h1 : 10 ≤ x) (h2 : x < 100) : Lib.decDigits x = d2 x := by
  rw [Lib.decDigits_two (by omega) h2]; rfl
theorem dec_one {x : Nat} (h2 : x < 10) : [dg 0] ++ Lib.decDigits x = d2 x := by
  rw [Lib.decDigits_one h2]
  unfold d2 dg
  rw [Nat.div_eq_of_lt h2, Nat.mod_eq_of_lt h2]
  rfl
theorem dec_four {y : Nat} (h1 : 1000 ≤ y) (h2 : y < 10000) : Lib.decDigits y = d2 (y / 100) ++ d2 (y % 100) := by
  rw [Lib.decDigits, dif_neg (by omega), Lib.decDigits, dif_neg (by omega), Lib.decDigits_two (by omega) (by omega)]
  unfold d2 dg
  rw [show y / 10 / 10 / 10 = y / 100 / 10 by omega, show y / 10 / 10 % 10 = y / 100 % 10 by omega, show y / 10 % 10 = y % 100 / 10 by omega, show y % 10 = y % 100 % 10 by omega]
  rfl
theorem less_dg {a b : Nat} (ha : a < 10) (hb : b < 10) (h : a < b) : (decide (dg a < dg b)) = true := by
  apply decide_eq_true
  rw [UInt8.lt_iff_toNat_lt, dg_toNat ha, dg_toNat hb]
  omega
theorem less_same (p x y : Bs) : Op.bytesLess (p ++ x) (p ++ y) = Op.bytesLess x y := by
  induction p with
  | nil => rfl
  | cons a t ih => simp [Op.bytesLess, ih]
theorem less_d2 {a b : Nat} (ha : a < 100) (hb : b < 100) (h : a < b) (x y : Bs) : Op.bytesLess (d2 a ++ x) (d2 b ++ y) = true := by
  unfold d2
  by_cases h1 : a / 10 < b / 10
  · have := less_dg (by omega) (by omega) h1
    simp only [List.cons_append, Op.bytesLess, this, Bool.true_or]
  · have h2 : a / 10 = b / 10 := by omega
    have := less_dg (a := a % 10) (b := b % 10) (by omega) (by omega) (by omega)
    rw [h2]
    simp [Op.bytesLess, this]
structure Small (D : Dt) : Prop where
  y : D.y < 10000
  m : D.m < 100
  d : D.d < 100
  h : D.h < 100
theorem txt_less {a b : Dt} (ha : Small a) (hb : Small b) (h : lexD a b) : Op.bytesLess (txt a) (txt b) = true := by
  obtain ⟨a1, a2, a3, a4⟩ := ha
  obtain ⟨b1, b2, b3, b4⟩ := hb
  unfold txt
  rcases h with h | ⟨e, h⟩
  · by_cases h1 : a.y / 100 < b.y / 100
    · exact less_d2 (by omega) (by omega) h1 _ _
    · rw [show a.y / 100 = b.y / 100 by omega, less_same]
      exact less_d2 (by omega) (by omega) (by omega) _ _
  · rw [e, less_same, less_same]
    rw [show ∀ z : Bs, (45 : UInt8) :: z = [45] ++ z from fun _ => rfl, show ∀ z : Bs, (45 : UInt8) :: (d2 b.m ++ z) = [45] ++ (d2 b.m ++ z) from fun _ => rfl, less_same]
    rcases h with h | ⟨e, h⟩
    · exact less_d2 a2 b2 h _ _
    · rw [e, less_same]
      rw [show ∀ z : Bs, (45 : UInt8) :: (d2 a.d ++ z) = [45] ++ (d2 a.d ++ z) from fun _ => rfl, show ∀ z : Bs, (45 : UInt8) :: (d2 b.d ++ z) = [45] ++ (d2 b.d ++ z) from fun _ => rfl, less_same]
      rcases h with h | ⟨e, h⟩
      · exact less_d2 a3 b3 h _ _
      · rw [e, less_same]
        rw [show ∀ z : Bs, (32 : UInt8) :: (d2 a.h ++ z) = [32] ++ (d2 a.h ++ z) from fun _ => rfl, show ∀ z : Bs, (32 : UInt8) :: (d2 b.h ++ z) = [32] ++ (d2 b.h ++ z) from fun _ => rfl, less_same]
        exact less_d2 a4 b4 h _ _
theorem less_irr (x : Bs) : Op.bytesLess x x = false := by
  induction x with
  | nil => rfl
  | cons a t ih => simp [Op.bytesLess, ih]
theorem dateOf_small {t : Nat} (h : t ≤ 16777216) : Small (dateOf t) := by
  have h1 := dateOf_ok t
  have h2 := dateOf_year h
  have h3 := len_le (dateOf t).y (dateOf t).m
  exact ⟨by omega, by have := h1.m2; omega, by have := h1.d2; omega, by have := h1.h0; omega⟩
theorem text_less {a b : Nat} (h : a < b) (hb : b ≤ 16777216) : Op.bytesLess (text a) (text b) = true := txt_less (dateOf_small (by omega)) (dateOf_small hb) (date_lt h)
theorem text_inj {a b : Nat} (ha : a ≤ 16777216) (hb : b ≤ 16777216) (h : text a = text b) : a = b := by
  rcases Nat.lt_trichotomy a b with h1 | h1 | h1
  · have := text_less h1 hb; rw [h, less_irr] at this; cases this
  · exact h1
  · have := text_less h1 ha; rw [h, less_irr] at this; cases this
/-- The numbers that stand in a text. -/
theorem d2_num {n : Nat} (h : n < 100) : ∃ a b, a < 10 ∧ b < 10 ∧ d2 n = [dg a, dg b] ∧ n = 10 * a + b := ⟨n / 10, n % 10, by omega, by omega, rfl, by omega⟩
end Go.Proofs.YtanjkjendppigaaDoor.Dy
