/- The comparison of two values of one kind, and what it says of their encodings. Conditions: those of each. -/
import Derived.Test.YtocbodjmdgoaiaaDoorWBack
namespace Go.Proofs.YtocbodjmdgoaiaaDoor
open Go.RowKit Wm
set_option linter.unusedVariables false

def cmpL {α : Type} [DecidableEq α] (cmp : α → α → Int) : List α → List α → Int
  | x :: l, y :: m => if x = y then cmpL cmp l m else cmp x y
  | [], m => cmpI 0 m.length
  | x :: l, [] => cmpI (l.length + 1) 0
theorem cmpL_at {α : Type} [DecidableEq α] (cmp : α → α → Int) (p : List α) (x y : α) (l m : List α) (h : x ≠ y) : cmpL cmp (p ++ x :: l) (p ++ y :: m) = cmp x y := by
  induction p with
  | nil => show (if x = y then _ else _) = _; rw [if_neg h]
  | cons z p ih => show (if z = z then _ else _) = _; rw [if_pos rfl]; exact ih
theorem cmpI_shift (a b : Int) (k : Int) : cmpI (a + k) (b + k) = cmpI a b := by unfold cmpI; (repeat' split) <;> omega
theorem cmpL_end {α : Type} [DecidableEq α] (cmp : α → α → Int) (p l m : List α) (h : l = [] ∨ m = []) : cmpL cmp (p ++ l) (p ++ m) = cmpI (p ++ l).length (p ++ m).length := by
  induction p with
  | nil =>
    rcases h with rfl | rfl
    · rfl
    · cases l with
      | nil => rfl
      | cons x l => show cmpI (l.length + 1) 0 = cmpI _ _; simp
  | cons z p ih =>
    show (if z = z then _ else _) = _
    rw [if_pos rfl]
    refine ih.trans ?_
    have := cmpI_shift ((p ++ l).length : Int) ((p ++ m).length : Int) 1
    simp only [List.cons_append, List.length_cons, Int.natCast_add]
    exact this.symm
theorem cmpI_cases (a b : Int) : (a = b ∧ cmpI a b = 0) ∨ (a < b ∧ cmpI a b = -1) ∨ (b < a ∧ cmpI a b = 1) := by unfold cmpI; (repeat' split) <;> omega
/-- Two lists part somewhere, or one is the beginning of the other. -/
theorem parts {α : Type} [DecidableEq α] (l m : List α) : (∃ p x y l' m', l = p ++ x :: l' ∧ m = p ++ y :: m' ∧ x ≠ y) ∨ (∃ u, m = l ++ u) ∨ ∃ b u, l = m ++ b :: u := by
  induction l generalizing m with
  | nil => exact .inr (.inl ⟨m, rfl⟩)
  | cons x l ih =>
    cases m with
    | nil => exact .inr (.inr ⟨x, l, rfl⟩)
    | cons y m =>
      by_cases h : x = y
      · subst h
        rcases ih m with ⟨p, a, b, l', m', rfl, rfl, hab⟩ | ⟨u, rfl⟩ | ⟨b, u, rfl⟩
        · exact .inl ⟨x :: p, a, b, l', m', rfl, rfl, hab⟩
        · exact .inr (.inl ⟨u, rfl⟩)
        · exact .inr (.inr ⟨b, u, rfl⟩)
      · exact .inl ⟨[], x, y, l, m, rfl, rfl, h⟩
/-- What a comparison says: the encodings are the same, or in order. -/
def Says (c : Int) (e f : Bs) : Prop := (c = 0 ∧ e = f) ∨ (c = -1 ∧ D e f) ∨ (c = 1 ∧ D f e)
theorem says_int {a b : Int} (ha : J64 a) (hb : J64 b) : Says (cmpI a b) (encI a) (encI b) := by
  rcases cmpI_cases a b with ⟨rfl, h⟩ | ⟨hl, h⟩ | ⟨hl, h⟩
  · exact .inl ⟨h, rfl⟩
  · exact .inr (.inl ⟨h, encI_lt ha hb hl⟩)
  · exact .inr (.inr ⟨h, encI_lt hb ha hl⟩)
theorem says_text (a b : Bs) : Says (cmpT a b) (encT a) (encT b) := by
  rcases Lx_total a b with rfl | h | h
  · exact .inl ⟨cmpT_eq a, rfl⟩
  · exact .inr (.inl ⟨cmpT_lt h, encT_lt h⟩)
  · exact .inr (.inr ⟨cmpT_gt h, encT_lt h⟩)
theorem says_list {α : Type} [DecidableEq α] {cmp : α → α → Int} {enc : α → Bs} (good : α → Prop) (hs : ∀ a b, good a → good b → Says (cmp a b) (enc a) (enc b)) (hz : ∀ a b, cmp a b = 0 → a = b) (l m : List α) (hl : ∀ x ∈ l, good x) (hm : ∀ x ∈ m, good x) :
    Says (cmpL cmp l m) (encL enc l) (encL enc m) := by
  rcases parts l m with ⟨p, x, y, l', m', rfl, rfl, hxy⟩ | ⟨u, rfl⟩ | ⟨b, u, rfl⟩
  · rw [cmpL_at cmp p x y l' m' hxy]
    have hd : ∀ {e f : Bs}, D e f → D (e ++ (pre enc l' ++ [0])) (f ++ (pre enc m' ++ [0])) := fun h => h.app _ _
    have he : ∀ z (r : List α), encL enc (p ++ z :: r) = pre enc p ++ ([1] ++ (enc z ++ (pre enc r ++ [0]))) := fun z r => by simp [encL, pre_append, pre]
    rcases hs x y (hl x (by simp)) (hm y (by simp)) with ⟨h0, _⟩ | ⟨h1, h2⟩ | ⟨h1, h2⟩
    · exact absurd (hz x y h0) hxy
    · exact .inr (.inl ⟨h1, by rw [he, he]; exact (D.pre ((h2.app _ _).pre [1]) _)⟩)
    · exact .inr (.inr ⟨h1, by rw [he, he]; exact (D.pre ((h2.app _ _).pre [1]) _)⟩)
  · have h := cmpL_end cmp l [] u (.inl rfl)
    rw [List.append_nil] at h
    rw [h]
    cases u with
    | nil => exact .inl ⟨by simp [cmpI], by simp⟩
    | cons b u =>
      refine .inr (.inl ⟨?_, encL_lt (lt := fun _ _ => False) (fun _ _ h => h.elim) (.inr ⟨b, u, rfl⟩)⟩)
      unfold cmpI
      rw [if_pos (by simp; omega)]
  · have h := cmpL_end cmp m (b :: u) [] (.inr rfl)
    rw [List.append_nil] at h
    rw [h]
    refine .inr (.inr ⟨?_, encL_lt (lt := fun _ _ => False) (fun _ _ h => h.elim) (.inr ⟨b, u, rfl⟩)⟩)
    unfold cmpI
    rw [if_neg (by simp; omega), if_pos (by simp; omega)]
theorem cmpI_zero (a b : Int) (h : cmpI a b = 0) : a = b := by
  rcases cmpI_cases a b with ⟨rfl, _⟩ | ⟨_, h'⟩ | ⟨_, h'⟩
  · rfl
  · rw [h] at h'; cases h'
  · rw [h] at h'; cases h'
theorem cmpT_zero (a b : Bs) (h : cmpT a b = 0) : a = b := by
  rcases Lx_total a b with rfl | h' | h'
  · rfl
  · rw [cmpT_lt h'] at h; cases h
  · rw [cmpT_gt h'] at h; cases h
def cmpV (q : Int) (v u : Va) : Int := if q = 0 then cmpI v.n u.n else if q = 1 then cmpT v.s u.s else if q = 2 then cmpL cmpI v.l u.l else cmpL cmpT v.t u.t
theorem says_value {w : World} {v u : Va} (hv : RdVa w v) (hu : RdVa w u) (hk : kd v.k = kd u.k) : Says (cmpV (kd v.k) v u) (encV v) (encV u) := by
  unfold encV cmpV
  rw [← hk]
  (repeat' split)
  · exact says_int hv.2.1 hu.2.1
  · exact says_text _ _
  · exact says_list (cmp := cmpI) (enc := encI) J64 (fun a b ha hb => says_int ha hb) cmpI_zero _ _ hv.2.2.2.2.2.1 hu.2.2.2.2.2.1
  · exact says_list (cmp := cmpT) (enc := encT) (fun _ => True) (fun a b _ _ => says_text a b) cmpT_zero _ _ (fun _ _ => trivial) (fun _ _ => trivial)
theorem says_len {c : Int} {e f : Bs} (h : Says c e f) : c = 0 ∨ c = -1 ∨ c = 1 := by rcases h with h | h | h <;> simp [h.1]
end Go.Proofs.YtocbodjmdgoaiaaDoor
