/- Blocks of integers that a call has made: what they hold, as a function of the index. Conditions: those of each lemma. -/
import Derived.Test.YtbpibdjmffhmpaaOr
import Derived.Sort.Grow
namespace Go.Proofs.Ytbpibdjmffhmpaa
open Go.RowKit Mth

def valsA (n : Nat) (f : Nat → Int) : Array Value := (Array.range n).map fun i => Value.int .i64 (f i)
def mkO (n : Nat) (f : Nat → Int) : Obj := .cells (valsA n f) 3 (0, 0)
def Own (w : World) (g n : Nat) (f : Nat → Int) : Prop := w.heap[g]? = some (mkO n f)
def upd (f : Nat → Int) (k : Nat) (v : Int) : Nat → Int := fun i => if i = k then v else f i

theorem Own.lt {w : World} {g n : Nat} {f : Nat → Int} (h : Own w g n f) : g < w.heap.size := (Array.getElem?_eq_some_iff.1 h).1
theorem Own.congr {w : World} {g n : Nat} {f f' : Nat → Int} (h : Own w g n f) (he : ∀ i, i < n → f i = f' i) : Own w g n f' := by
  unfold Own mkO at *
  rw [h]
  have : valsA n f = valsA n f' := by
    apply Array.ext
    · simp [valsA]
    · intro i h1 h2
      simp only [valsA, Array.size_map, Array.size_range] at h1
      simp [valsA, he i h1]
  rw [this]
theorem Own.cell {w : World} {g n : Nat} {f : Nat → Int} (h : Own w g n f) {j : Nat} (hj : j < n) : w.cell? ⟨g, j, none⟩ = some (.int .i64 (f j)) := by
  rw [cell_of_row w g j _ _ (0, 0) h]
  simp [valsA, hj]
theorem Own.free {w : World} {g n : Nat} {f : Nat → Int} (h : Own w g n f) (j : Nat) : w.frozen? ⟨g, j, none⟩ = false := frozen_of_row w g j _ _ h
theorem Own.alloc {w : World} {g n : Nat} {f : Nat → Int} (h : Own w g n f) (o : Obj) : Own (w.alloc o) g n f := by
  unfold Own at *
  rw [heap_alloc_old w o (Own.lt h)]
  exact h
theorem Own.new (w : World) (n : Nat) (f : Nat → Int) : Own (w.alloc (mkO n f)) w.heap.size n f := heap_alloc_new w _
theorem Own.drewN {w : World} {g n : Nat} {f : Nat → Int} (h : Own w g n f) (k : Nat) : Own (w.drewN k) g n f := h
theorem Own.other {w : World} {g n : Nat} {f : Nat → Int} (h : Own w g n f) {a : Addr} (ha : a.block ≠ g) (u : Value) : Own (w.setCell a u) g n f := by
  unfold Own at *
  rw [heap_setCell_other w a g u (fun e => ha e.symm)]
  exact h
theorem Own.set {w : World} {g n : Nat} {f : Nat → Int} (h : Own w g n f) (j : Nat) (v : Int) : Own (w.setCell ⟨g, j, none⟩ (.int .i64 v)) g n (upd f j v) := by
  have h' := heap_setCell_same w g j _ _ (.int .i64 v) h
  unfold Own
  rw [h']
  unfold mkO
  have : (valsA n f).setIfInBounds j (.int .i64 v) = valsA n (upd f j v) := by
    apply Array.ext
    · simp [valsA]
    · intro i h1 h2
      simp only [valsA, Array.size_map, Array.size_range] at h2
      rw [Array.getElem_setIfInBounds]
      · unfold upd
        by_cases hij : j = i
        · subst hij; simp [valsA]
        · have hij' : ¬ i = j := fun h => hij h.symm
          simp [valsA, hij, hij']
      · simpa [valsA] using h2
  rw [this]
theorem made_eq (n : Nat) : Obj.cells (madeCells #[Value.int .i64 0] n) 3 (0, 0) = mkO n (fun _ => 0) := by
  unfold mkO
  have : madeCells #[Value.int .i64 0] n = valsA n (fun _ => 0) := by
    apply Array.ext
    · simp [valsA, madeCells]
    · intro i h1 h2
      simp [valsA, madeCells, Nat.mod_one]
  rw [this]
theorem Below.drewN {B : Nat} {a w : World} (h : Below B a w) (k : Nat) : Below B a (w.drewN k) := ⟨h.os, h.tape, h.output, h.size, h.block⟩

/-- What a block holds is not turned by the sort of another block. -/
theorem Own.sorted {α : Type} [Inhabited α] {enc : α → Value} {w : World} {g n blk : Nat} {f : Nat → Int} (h : Own w g n f) (hg : g ≠ blk) (off m : Nat) (dk : Array α) (os : Array Obj) : Own (Go.Proofs.sortWorld enc w blk off m dk os) g n f := by
  have hl := Own.lt h
  unfold Own at *
  unfold Go.Proofs.sortWorld Go.Sort.grow Go.Sort.putRow Go.Sort.mapBlock Go.Sort.ahead
  simp only
  rw [Array.getElem?_append_left (by simpa using hl), Array.getElem?_modify, if_neg (fun e => hg e.symm)]
  exact h
theorem sorted_cell {α : Type} [Inhabited α] {enc : α → Value} {w : World} {blk : Nat} {a : Addr} (ha : a.block < w.heap.size) (hg : a.block ≠ blk) (off m : Nat) (dk : Array α) (os : Array Obj) : (Go.Proofs.sortWorld enc w blk off m dk os).cell? a = w.cell? a := by
  apply World.cell?_of_block
  unfold Go.Proofs.sortWorld Go.Sort.grow Go.Sort.putRow Go.Sort.mapBlock Go.Sort.ahead
  simp only
  rw [Array.getElem?_append_left (by simpa using ha), Array.getElem?_modify, if_neg (fun e => hg e.symm)]
theorem sorted_below {α : Type} [Inhabited α] {enc : α → Value} {w W : World} {B blk : Nat} (h : Below B W w) (hB : B ≤ blk) (hBw : B ≤ w.heap.size) (off m : Nat) (dk : Array α) (os : Array Obj) : Below B W (Go.Proofs.sortWorld enc w blk off m dk os) := by
  refine ⟨h.os, h.tape, h.output, ?_, ?_⟩
  · have := h.size
    unfold Go.Proofs.sortWorld Go.Sort.grow Go.Sort.putRow Go.Sort.mapBlock Go.Sort.ahead
    simp only [Array.size_append, Array.size_modify]
    omega
  · intro k hk
    rw [← h.block k hk]
    unfold Go.Proofs.sortWorld Go.Sort.grow Go.Sort.putRow Go.Sort.mapBlock Go.Sort.ahead
    simp only
    rw [Array.getElem?_append_left (by simp; omega), Array.getElem?_modify, if_neg (by omega)]
end Go.Proofs.Ytbpibdjmffhmpaa
