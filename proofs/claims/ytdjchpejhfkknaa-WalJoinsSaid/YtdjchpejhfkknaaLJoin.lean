/- append of a whole list of texts onto texts of one's own. Conditions: at most 10^5 texts. -/
import Derived.Test.YtdjchpejhfkknaaLFile
import Derived.Deep.Upon
namespace Go.Proofs.Ytdjchpejhfkknaa.Lw
open Go.RowKit Km Dk
open Lm hiding Bs
set_option linter.unusedVariables false
set_option maxRecDepth 100000

theorem run_app_texts {w : World} {v u : Value} {xs ys : List Bs} (ty : TypeId) (hown : w.ownsRow 0 9 1 v xs.length (sc xs)) (hu : Texts w u ys) (hl : xs.length + ys.length ≤ 100000) :
    ∃ v' w', (Builtin.append_ #[38, 38] ty #[v, u]).run Try.prog w = .ok v' w' ∧ w'.ownsRow 0 9 1 v' (xs ++ ys).length (sc (xs ++ ys)) ∧ w.grownBy w' v.ownBlock ∧
      (∀ g, v'.ownBlock = some g → (w.heap.size ≤ g ∧ g < w'.heap.size) ∨ v.ownBlock = some g) := by
  obtain ⟨i0, hi, hz0, hz1, hz2⟩ := info_parts infoStr
  obtain ⟨a, c, rfl, _, _, hc⟩ := hu
  cases ys with
  | nil =>
    have hsrc : Src Try.prog i0.size 38 (.slice a 0 c) 0 [] w := by
      cases a with
      | none => exact Src.ofNil _ Try.underlying38 c
      | some ad => exact Src.ofSlice _ Try.underlying38 ad 0 c [] (by simp) (fun j u h => by cases h) (fun u h => by cases h)
    have hle : ∃ b n k, v = .slice b n k ∧ n ≤ k := by
      rcases hown.2 with ⟨h1, _⟩ | ⟨g, cap, cur, h1, _, _, h2, _⟩
      · exact ⟨_, _, _, h1, Nat.le_refl _⟩
      · exact ⟨_, _, _, h1, h2⟩
    obtain ⟨b, n, k, rfl, hnk⟩ := hle
    refine ⟨_, w, run_append_nothing w 38 38 ty 9 i0 Try.underlying38 hi b n k hnk _ hsrc, by simpa using hown, ⟨rfl, rfl, rfl, Nat.le_refl _, fun _ _ _ => rfl⟩, fun g hg => .inr hg⟩
  | cons y t =>
    obtain ⟨b, o, rfl, _, hcell⟩ := hc (by simp)
    obtain ⟨v', w', h1, h2, h3, h4⟩ := run_append_src (P := Try.prog) w 38 38 ty 9 i0 (.string ⟨#[]⟩) 1 16 Try.underlying38 hi hz0 hz1 hz2 rfl (by decide) v xs.length (sc xs) hown
      (.slice (some ⟨b, o, none⟩) (y :: t).length c) (y :: t).length (by simp) (sc (y :: t)) (by
        refine Src.ofSlice _ Try.underlying38 ⟨b, o, none⟩ (y :: t).length c _ (by rw [sc_length, Nat.mul_one]) ?_ ?_
        · intro j u hj
          rw [Addr.add_lit]
          have hjl := (List.getElem?_eq_some_iff.1 hj).1
          rw [sc_length] at hjl
          have := hcell j _ (List.getElem?_eq_getElem hjl)
          rw [this]
          rw [sc_at (List.getElem?_eq_getElem hjl)] at hj
          exact hj
        · intro u hu
          obtain ⟨z, _, rfl⟩ := List.mem_map.1 hu
          rfl) (by unfold maxLen; omega) (by omega)
    exact ⟨v', w', h1, by rw [List.length_append, sc_append]; exact h2, h3, h4⟩
theorem wpList_app_texts {w : World} {ops : Array Oper} {rest : List Oper} {o : Oper} {a : Act} {Q : Exit → Act → World → Prop} (hw : Region.wanted o (yielded ops a.tmps) = true) (s x : Operand)
    (ho : o.op = .call { callee := .builtin .append, args := #[s, x], argTypes := #[38, 38] }) (v u : Value) (xs ys : List Bs) (hs : a.eval s = v) (hx : a.eval x = u)
    (hown : w.ownsRow 0 9 1 v xs.length (sc xs)) (hu : Texts w u ys) (hl : xs.length + ys.length ≤ 100000)
    (h : ∀ v' w', w'.ownsRow 0 9 1 v' (xs ++ ys).length (sc (xs ++ ys)) → w.grownBy w' v.ownBlock → (∀ g, v'.ownBlock = some g → (w.heap.size ≤ g ∧ g < w'.heap.size) ∨ v.ownBlock = some g) → wpList Try.prog ops Q rest (a.put o.dst v') w') : wpList Try.prog ops Q (o :: rest) a w :=
  BigFrame.wpList_want hw fun _ hK => by
    obtain ⟨v', w', hr, h2, h3, h4⟩ := run_app_texts (w := w) o.type hown hu hl
    unfold Oper.wp execOp
    simp only [ho, resolve, invoke, builtin, Sem.run_bind, Sem.run_pure, Result.andThen_ok, List.map_toArray, List.map_cons, List.map_nil, hs, hx, hr]
    exact hK _ _ (h v' w' h2 h3 h4)
/-- An empty list of texts of one's own. -/
theorem owns_empty (w : World) : (w.alloc (.cells #[] 9)).ownsRow 0 9 1 (.slice (some ⟨w.heap.size, 0, none⟩) 0 0) ([] : List Bs).length (sc []) :=
  ⟨rfl, .inr ⟨w.heap.size, 0, #[], rfl, Nat.zero_le _, heap_alloc_new w _, Nat.le_refl _, by unfold maxLen; omega, rfl, rfl⟩⟩
/-- What is appended to in blocks of one's own leaves what was there. -/
theorem below_app {a w w' : World} {row : Option Nat} (h : Below a.heap.size a w) (hg : w.grownBy w' row) (hr : ∀ k, row = some k → a.heap.size ≤ k) : Below a.heap.size a w' :=
  (((Fr.refl (fun b => a.heap.size ≤ b) a).below h).grown hg hr).to_below (Nat.le_refl _)
/-- A list with one text. -/
theorem texts_one (w : World) : Texts (w.alloc (.cells #[.string ⟨#[101, 110, 100]⟩] 9)) (.slice (some ⟨w.heap.size, 0, none⟩) 1 1) [[101, 110, 100]] :=
  texts_own (l := [[101, 110, 100]]) ⟨rfl, .inr ⟨w.heap.size, 1, #[.string ⟨#[101, 110, 100]⟩], rfl, Nat.zero_le _, heap_alloc_new w _, Nat.le_refl _, by unfold maxLen; omega, rfl, rfl⟩⟩ (by decide) (fun t ht => by rw [List.mem_singleton] at ht; subst ht; decide)
end Go.Proofs.Ytdjchpejhfkknaa.Lw
