/- Words that the walks of date share: texts as values, what a call leaves as it was, what the listed variables hold. Conditions: those of each lemma. -/
import Derived.Test.YtanjkjendppigaaDoorDMath
import Derived.Test.YtanjkjendppigaaDoorProg
import Derived.WalkKit
import Derived.Lib.Hide
import Derived.Below
import Derived.Laws.OwnMore
import Derived.Laws.Rows
import Derived.Deep.AppendLies
import Derived.Deep.Draws
import Derived.Maps.AppendAt
import Derived.RegionTactic
import Derived.OwnWalk
import Derived.IntWalk
import Derived.Deep.CutBlock
import Derived.Deep.DeepCutAuto
import Derived.Deep.QuietTactic
import Derived.BigQuiet
import Derived.WalkLawsBesides
import Derived.WalkSpells
import Derived.Lib.Strings
import Derived.Lib.LaidTab
import Derived.Lib.ItoaNum
import Derived.Laws.ResultCell
namespace Go.Proofs.YtanjkjendppigaaDoor.Dy
open Go.RowKit Cal
set_option linter.unusedVariables false

abbrev Bs := List UInt8
theorem ret_s {a b : ByteArray} (h : a = b) : Ending.returned (.string a) = .returned (.string b) := by rw [h]
theorem ret_i {k : IntKind} {a b : Int} (h : a = b) : Ending.returned (.int k a) = .returned (.int k b) := by rw [h]
theorem ret_b {a b : Bool} (h : a = b) : Ending.returned (.bool a) = .returned (.bool b) := by rw [h]
/-- A text as a value. -/
def sv (l : Bs) : ByteArray := ⟨l.toArray⟩
theorem sv_size (l : Bs) : (sv l).size = l.length := rfl
theorem sv_list (l : Bs) : (sv l).data.toList = l := by simp [sv]
theorem sv_toList (l : Bs) : (sv l).toList = l := by rw [Lib.toList_data, sv_list]
theorem sv_of (s : ByteArray) : sv s.data.toList = s := Lib.mk_data s
theorem sv_ext {s t : ByteArray} (h : s.data.toList = t.data.toList) : s = t := by rw [← sv_of s, ← sv_of t, h]
theorem sv_append (a b : Bs) : sv a ++ sv b = sv (a ++ b) := by apply sv_ext; simp [sv]
theorem sv_inj {a b : Bs} (h : sv a = sv b) : a = b := by rw [← sv_list a, h, sv_list]
theorem below_self (w : World) : Below w.heap.size w w := Below.refl _ _
theorem below_trans {w w' w'' : World} (h : Below w.heap.size w w') (h' : Below w'.heap.size w' w'') : Below w.heap.size w w'' := h.trans (h'.mono h.size)
theorem below_alloc (w : World) (o : Obj) : Below w.heap.size w (w.alloc o) := (Below.refl _ _).alloc (Nat.le_refl _) _

/-- The block g is just these cells. -/
def Blk (w : World) (g : Nat) (t : TypeId) (cs : Array Value) : Prop := w.heap[g]? = some (.cells cs t (0, 0))
section
variable {w w' : World} {g : Nat} {t : TypeId} {cs : Array Value}
theorem Blk.lt (h : Blk w g t cs) : g < w.heap.size := (Array.getElem?_eq_some_iff.1 h).1
theorem Blk.cell (h : Blk w g t cs) (i : Nat) : w.cell? ⟨g, i, none⟩ = cs[i]? := cell_of_row w g i cs t (0, 0) h
theorem Blk.frozen (h : Blk w g t cs) (i : Nat) : w.frozen? ⟨g, i, none⟩ = false := frozen_of_row w g i _ _ h
theorem Blk.new (w : World) (t : TypeId) (cs : Array Value) : Blk (w.alloc (.cells cs t)) w.heap.size t cs := heap_alloc_new w _
theorem Blk.below (h : Blk w g t cs) {B : Nat} (hb : Below B w w') (hB : w.heap.size ≤ B) : Blk w' g t cs := (hb.block g (by have := h.lt; omega)).trans h
end
theorem infoDate : (Tryd.prog.info? 23).map (·.size) = some 4 := by kernel_rfl
theorem ret_date {fn : Func} {p u : Tmp} (hf : fn.results = #[.cell p 23, .tmp u]) {a : Act} {w W : World} {g : Nat} {cs : Array Value} {b v : Value} (hp : a.tmps.getD p undef = .pointer (some ⟨g, 0, none⟩)) (hu : a.tmps.getD u undef = b) (hd : a.defers = [])
    (hc : cs.size = 4) (hg : Blk W g 23 cs) (hv : v = .tuple #[.agg cs, b]) (hb : Below w.heap.size w W) : bodyPost Tryd.prog fn (fun e w' => e = .returned v ∧ Below w.heap.size w w') .ret a W := by
  subst hv hu
  refine bodyPost_ret ?_ hd ⟨rfl, hb⟩
  rw [results_cell_tmp hf, hp]
  simp [asAddr, run_loadVar_row W g _ _ cs (0, 0) _ hg Tryd.underlying23 rfl (by rw [infoDate, hc])]
def lens : List Int := [31, 29, 31, 30, 31, 30, 31, 31, 30, 31, 30, 31]
/-- What the listed variables hold. -/
structure Wd (w : World) : Prop where
  len : ∀ j v, lens[j]? = some v → w.cell? ⟨0, j, none⟩ = some (.int .i64 v)
  pow : Lib.TabIs Tryd.prog w "internal/strconv.uint64pow10" .u64 Lib.pow10Tab
  err : ∃ te pe, w.cell? ⟨1, 0, none⟩ = some (.iface te pe)
theorem cell_lt {w : World} {a : Addr} {v : Value} (h : w.cell? a = some v) : a.block < w.heap.size := by
  rcases Nat.lt_or_ge a.block w.heap.size with h' | h'
  · exact h'
  · simp [World.cell?, Array.getElem?_eq_none h'] at h
theorem cell_below {w w' : World} (hb : Below w.heap.size w w') {a : Addr} {v : Value} (h : w.cell? a = some v) : w'.cell? a = some v := (hb.cell (cell_lt h)).trans h
theorem nPow : Tryd.prog.globalNamed "internal/strconv.uint64pow10" = some 3 := by kernel_rfl
theorem Wd.below {w w' : World} (h : Wd w) (hb : Below w.heap.size w w') : Wd w' := by
  refine ⟨fun j v hv => cell_below hb (h.len j v hv), ?_, ?_⟩
  · have h1 := h.pow
    unfold Lib.TabIs World.var? at h1 ⊢
    rw [nPow] at h1 ⊢
    simp only [Option.bind_some] at h1 ⊢
    have hlt : 3 < w.heap.size := by
      rcases Nat.lt_or_ge 3 w.heap.size with h' | h'
      · exact h'
      · rw [Array.getElem?_eq_none h'] at h1; cases h1
    rw [hb.block _ hlt]
    exact h1
  · obtain ⟨te, pe, he⟩ := h.err
    exact ⟨te, pe, cell_below hb he⟩
end Go.Proofs.YtanjkjendppigaaDoor.Dy
