/- The small functions of the laws of wire: comparisons of ints and strings, prefixes, equality of lists. Conditions: those of each. -/
import Derived.Test.YtocbodjmdgoaiaaDoorWReadL
namespace Go.Proofs.YtocbodjmdgoaiaaDoor
open Go.RowKit Wm
set_option linter.unusedVariables false

/-- -1, 0 or 1. -/
def cmpI (a b : Int) : Int := if a < b then -1 else if b < a then 1 else 0
theorem number_any (a b : Int) (w : World) : Calls Tryd.prog 55 #[.int .i64 a, .int .i64 b] w fun e w' => e = .returned (.int .i64 (cmpI a b)) ∧ w = w' := by
  by_cases h1 : a < b
  · have d1 : decide (a < b) = true := decide_eq_true h1
    have hc : cmpI a b = -1 := by unfold cmpI; rw [if_pos h1]
    have HC := Lib.hid hc
    clear hc
    go_enter Tryd.func55, Tryd.ntmps55
    go_wp2
    go_ret
    exact ⟨ret_i HC.out.symm, rfl⟩
  · have d1 : decide (a < b) = false := decide_eq_false h1
    by_cases h2 : b < a
    · have d2 : decide (b < a) = true := decide_eq_true h2
      have hc : cmpI a b = 1 := by unfold cmpI; rw [if_neg h1, if_pos h2]
      have HC := Lib.hid hc
      clear hc
      go_enter Tryd.func55, Tryd.ntmps55
      go_wp2
      go_ret
      exact ⟨ret_i HC.out.symm, rfl⟩
    · have d2 : decide (b < a) = false := decide_eq_false h2
      have hc : cmpI a b = 0 := by unfold cmpI; rw [if_neg h1, if_neg h2]
      have HC := Lib.hid hc
      clear hc
      go_enter Tryd.func55, Tryd.ntmps55
      go_wp2
      go_ret
      exact ⟨ret_i HC.out.symm, rfl⟩

theorem lss_lx : ∀ (a b : Bs), Lx a b → Op.bytesLess a b = true ∧ Op.bytesLess b a = false ∧ (a == b) = false
  | [], [], h => by
    rcases h with ⟨p, x, y, u, v, h1, h2, _⟩ | ⟨x, u, h⟩
    · cases p <;> simp at h1
    · simp at h
  | [], b :: ys, _ => by simp [Op.bytesLess]
  | a :: xs, [], h => by
    rcases h with ⟨p, x, y, u, v, h1, h2, _⟩ | ⟨x, u, h⟩
    · cases p <;> simp at h2
    · simp at h
  | a :: xs, b :: ys, h => by
    have hh : a.toNat < b.toNat ∨ (a = b ∧ Lx xs ys) := by
      rcases h with ⟨p, x, y, u, v, h1, h2, hxy⟩ | ⟨x, u, h⟩
      · cases p with
        | nil =>
          simp only [List.nil_append, List.cons.injEq] at h1 h2
          obtain ⟨rfl, rfl⟩ := h1
          obtain ⟨rfl, rfl⟩ := h2
          exact .inl hxy
        | cons z p =>
          simp only [List.cons_append, List.cons.injEq] at h1 h2
          obtain ⟨rfl, rfl⟩ := h1
          obtain ⟨rfl, rfl⟩ := h2
          exact .inr ⟨rfl, .inl ⟨p, x, y, u, v, rfl, rfl, hxy⟩⟩
      · simp only [List.cons_append, List.cons.injEq] at h
        obtain ⟨rfl, rfl⟩ := h
        exact .inr ⟨rfl, .inr ⟨x, u, rfl⟩⟩
    rcases hh with hlt | ⟨rfl, hl⟩
    · have h1 : a < b := UInt8.lt_iff_toNat_lt.2 hlt
      have h2 : ¬ b < a := fun e => by have := UInt8.lt_iff_toNat_lt.1 e; omega
      have h3 : a ≠ b := fun e => by subst e; omega
      simp [Op.bytesLess, h1, h2, h3, Ne.symm h3]
    · obtain ⟨i1, i2, i3⟩ := lss_lx xs ys hl
      have h2 : ¬ a < a := fun e => by have := UInt8.lt_iff_toNat_lt.1 e; omega
      simp [Op.bytesLess, h2, i1, i2]
      simpa using i3
theorem lss_self : ∀ a : Bs, Op.bytesLess a a = false
  | [] => rfl
  | a :: xs => by
    have h2 : ¬ a < a := fun e => by have := UInt8.lt_iff_toNat_lt.1 e; omega
    simp [Op.bytesLess, h2, lss_self xs]

/-- -1, 0 or 1. -/
def cmpT (a b : Bs) : Int := if Op.bytesLess a b then -1 else if a == b then 0 else 1
theorem cmpT_lt {a b : Bs} (h : Lx a b) : cmpT a b = -1 := by unfold cmpT; rw [(lss_lx a b h).1]; rfl
theorem cmpT_gt {a b : Bs} (h : Lx b a) : cmpT a b = 1 := by
  obtain ⟨_, h2, h3⟩ := lss_lx b a h
  have h4 : (a == b) = false := by rw [beq_eq_false_iff_ne] at h3 ⊢; exact fun e => h3 e.symm
  unfold cmpT; rw [h2, h4]; rfl
theorem cmpT_eq (a : Bs) : cmpT a a = 0 := by unfold cmpT; rw [lss_self]; simp
theorem text_cmp (a b : Bs) (w : World) : Calls Tryd.prog 40 #[.string (sv a), .string (sv b)] w fun e w' => e = .returned (.int .i64 (cmpT a b)) ∧ w = w' := by
  have hA : (sv a).toList = a := sv_toList a
  have hB : (sv b).toList = b := sv_toList b
  cases h1 : Op.bytesLess a b with
  | true =>
    have hc : cmpT a b = -1 := by unfold cmpT; rw [h1]; rfl
    have HC := Lib.hid hc
    rw [← hA, ← hB] at h1
    clear hc hA hB
    generalize sv a = A at *
    generalize sv b = B at *
    go_enter Tryd.func40, Tryd.ntmps40
    go_wp2
    go_ret
    exact ⟨ret_i HC.out.symm, rfl⟩
  | false =>
    cases h2 : a == b with
    | true =>
      have hc : cmpT a b = 0 := by unfold cmpT; rw [h1, h2]; rfl
      have HC := Lib.hid hc
      rw [← hA, ← hB] at h1 h2
      have h3 : (!(sv a).toList == (sv b).toList) = false := by rw [h2]; rfl
      clear hc hA hB
      generalize sv a = A at *
      generalize sv b = B at *
      go_enter Tryd.func40, Tryd.ntmps40
      go_wp2
      go_ret
      exact ⟨ret_i HC.out.symm, rfl⟩
    | false =>
      have hc : cmpT a b = 1 := by unfold cmpT; rw [h1, h2]; rfl
      have HC := Lib.hid hc
      rw [← hA, ← hB] at h1 h2
      have h3 : (!(sv a).toList == (sv b).toList) = true := by rw [h2]; rfl
      clear hc hA hB
      generalize sv a = A at *
      generalize sv b = B at *
      go_enter Tryd.func40, Tryd.ntmps40
      go_wp2
      go_ret
      exact ⟨ret_i HC.out.symm, rfl⟩

/-- Does a begin with b? -/
def begB (a b : Bs) : Bool := b.isPrefixOf a
theorem beg_yes {a b : Bs} (h : b <+: a) : begB a b = true := List.isPrefixOf_iff_prefix.2 h
theorem beg_no {a b : Bs} (h : ¬ b <+: a) : begB a b = false := by
  cases hh : begB a b with
  | true => exact absurd (List.isPrefixOf_iff_prefix.1 hh) h
  | false => rfl
theorem beg_len {a b : Bs} (h : begB a b = true) : b.length ≤ a.length := (List.isPrefixOf_iff_prefix.1 h).length_le
theorem begins_any (a b : Bs) (ha : a.length ≤ 4000000) (hb : b.length ≤ 4000000) (w : World) : Calls Tryd.prog 41 #[.string (sv a), .string (sv b)] w fun e w' => e = .returned (.bool (begB a b)) ∧ w = w' := by
  have hza : (sv a).size = a.length := rfl
  have hzb : (sv b).size = b.length := rfl
  by_cases h : (sv b).size ≤ (sv a).size
  · have hc : (((sv a).extract 0 (sv b).size).toList == (sv b).toList) = begB a b := by
      have h0 := Lib.hasPrefix_raw (sv a) (sv b)
      rw [decide_eq_true h, Bool.true_and, sv_list, sv_list] at h0
      exact h0
    have HC := Lib.hid hc
    have d : decide ((sv b).size ≤ (sv a).size) = true := decide_eq_true h
    rw [← hza] at ha
    rw [← hzb] at hb
    clear hc hza hzb
    generalize sv a = A at *
    generalize sv b = B at *
    go_enter Tryd.func41, Tryd.ntmps41
    go_wp2
    go_ret
    exact ⟨ret_b HC.out, rfl⟩
  · have hc : begB a b = false := beg_no fun hp => by have := hp.length_le; omega
    have HC := Lib.hid hc
    have d : decide ((sv b).size ≤ (sv a).size) = false := decide_eq_false h
    rw [← hza] at ha
    rw [← hzb] at hb
    clear hc hza hzb
    generalize sv a = A at *
    generalize sv b = B at *
    go_enter Tryd.func41, Tryd.ntmps41
    go_wp2
    go_ret
    exact ⟨ret_b HC.out.symm, rfl⟩
end Go.Proofs.YtocbodjmdgoaiaaDoor
