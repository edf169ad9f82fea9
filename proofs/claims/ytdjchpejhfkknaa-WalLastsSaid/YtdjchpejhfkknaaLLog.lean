/- Words for a log in memory: its block, its rows, and the disk beside it. Conditions: those of each lemma. -/
import Derived.Test.YtdjchpejhfkknaaLFirst
import Derived.Test.YtdjchpejhfkknaaLCrash
import Derived.Test.YtdjchpejhfkknaaKOpenT
namespace Go.Proofs.Ytdjchpejhfkknaa.Lw
open Go.RowKit Km Dk
open Lm hiding Bs
set_option linter.unusedVariables false
set_option maxRecDepth 100000

/-- Rows as cells. -/
def sc (l : List Bs) : List Value := l.map fun b => .string (sv b)
theorem sc_length (l : List Bs) : (sc l).length = l.length := by simp [sc]
theorem sc_append (a b : List Bs) : sc (a ++ b) = sc a ++ sc b := by simp [sc]
theorem sc_at {l : List Bs} {i : Nat} {b : Bs} (h : l[i]? = some b) : (sc l)[i]? = some (.string (sv b)) := by simp [sc, h]
/-- A log: its block p, its disk's block r, its file, its rows; all its blocks are in M. -/
structure LogM (M : Nat → Prop) (p r f : Nat) (rows : List Bs) (w : World) : Prop where
  blk : ∃ v, Blk w p 87 #[.pointer (some ⟨r, 0, none⟩), .int .i64 ((f : Nat) : Int), v] ∧ w.ownsRow 0 9 1 v rows.length (sc rows) ∧ (∀ b, v.ownBlock = some b → M b ∧ b ≠ p ∧ b < w.heap.size)
  own : M p
/-- A disk with its blocks in D, and one log of it with its blocks in M; no block is in both. -/
structure LD (D M : Nat → Prop) (r p f : Nat) (s : St) (rows : List Bs) (w : World) : Prop where
  dsk : Dsk D r s w
  log : LogM M p r f rows w
  sep : ∀ b, M b → ¬ D b
section
variable {D M : Nat → Prop} {p r f : Nat} {s : St} {rows : List Bs} {w w' : World}
theorem LogM.stay (h : LogM M p r f rows w) (hs : w.heap.size ≤ w'.heap.size) (hb : ∀ b, b < w.heap.size → M b → w'.heap[b]? = w.heap[b]?) : LogM M p r f rows w' := by
  obtain ⟨⟨v, h1, h2, h3⟩, h4⟩ := h
  refine ⟨⟨v, (hb p h1.lt h4).trans h1, owns_block h2 fun b e => hb b (h3 b e).2.2 (h3 b e).1, fun b e => ?_⟩, h4⟩
  obtain ⟨a1, a2, a3⟩ := h3 b e
  exact ⟨a1, a2, by omega⟩
theorem LogM.fr {A : Nat → Prop} (h : LogM M p r f rows w) (hf : Fr A w w') (hA : ∀ b, M b → ¬ A b) : LogM M p r f rows w' := h.stay hf.size fun b hl hm => hf.block b hl (hA b hm)
theorem LogM.below (h : LogM M p r f rows w) (hb : Below w.heap.size w w') : LogM M p r f rows w' := h.stay hb.size fun b hl _ => hb.block b hl
theorem LogM.lt (h : LogM M p r f rows w) : p < w.heap.size := h.blk.choose_spec.1.lt
theorem LogM.c0 (h : LogM M p r f rows w) : w.cell? ⟨p, 0, none⟩ = some (.pointer (some ⟨r, 0, none⟩)) := h.blk.choose_spec.1.cell 0
theorem LogM.c1 (h : LogM M p r f rows w) : w.cell? ⟨p, 1, none⟩ = some (.int .i64 ((f : Nat) : Int)) := h.blk.choose_spec.1.cell 1
theorem LogM.mono {M' : Nat → Prop} (h : LogM M p r f rows w) (hm : ∀ b, M b → M' b) : LogM M' p r f rows w := by
  obtain ⟨⟨v, h1, h2, h3⟩, h4⟩ := h
  exact ⟨⟨v, h1, h2, fun b e => ⟨hm b (h3 b e).1, (h3 b e).2⟩⟩, hm p h4⟩
end
end Go.Proofs.Ytdjchpejhfkknaa.Lw
