/- Bytes as cells of a slice. Conditions: those of each lemma. -/
import Derived.Test.YtfmjankmfddefaaDoorGCrc
namespace Go.Proofs.YtfmjankmfddefaaDoor.Dg
open Go.RowKit Gm
set_option linter.unusedVariables false

theorem infoByte : (Tryd.prog.info? 5).map (fun i => (i.zero, i.size, i.bytes)) = some (some (.int .u8 0), 1, 1) := by kernel_rfl
/-- The bytes of a text, as cells. -/
def bc (l : Bs) : List Value := l.map fun b => .int .u8 (b.toNat : Int)
theorem bc_append (a b : Bs) : bc (a ++ b) = bc a ++ bc b := by simp [bc]
theorem bc_length (a : Bs) : (bc a).length = a.length := by simp [bc]
theorem bc_one (a : Bs) : ∀ u ∈ bc a, u.oneCell' = true := by
  intro u hu
  obtain ⟨b, _, rfl⟩ := List.mem_map.1 hu
  rfl
/-- New cells in a new block, to be appended. -/
theorem row_cell {w : World} {vs : List Value} {u : Value} {g : Nat} {t : TypeId} (hg : w.heap.size = g) (j : Nat) (h : vs[j]? = some u) : (w.alloc (.cells vs.toArray t)).cell? ((⟨g, 0, none⟩ : Addr).add j) = some u := by
  subst hg
  have e : (⟨w.heap.size, 0, none⟩ : Addr).add j = ⟨w.heap.size, j, none⟩ := by unfold Addr.add; split <;> simp_all
  rw [e, (Blk.new w t vs.toArray).cell j]
  simpa using h

def bcs (l : Bs) : Array Value := (bc l).toArray
theorem bcs_at (l : Bs) (i : Nat) (h : i < l.length) : (bcs l)[i]? = some (.int .u8 ((l.getD i 0).toNat : Int)) := by
  simp [bcs, bc, List.getD_eq_getElem?_getD, h]
theorem bcs_set (l : Bs) (i : Nat) (b : UInt8) : (bcs l).setIfInBounds i (.int .u8 (b.toNat : Int)) = bcs (l.set i b) := by
  simp [bcs, bc, List.map_set]
theorem mk_bytes (n : Nat) : madeCells #[Value.int .u8 0] n = bcs (List.replicate n 0) := by
  apply Array.ext
  · simp [madeCells, bcs, bc]
  · intro i h1 h2
    simp [madeCells, bcs, bc, Nat.mod_one]
theorem run_mkb (n : Nat) (hn : n ≤ 140737488351232) (w : World) : (Instr.makeSlice 56 (.int .i64 n) (.int .i64 n)).run Tryd.prog w = .ok (.slice (some ⟨w.heap.size, 0, none⟩) n n) (w.alloc (.cells (bcs (List.replicate n 0)) 5 (0, 0))) := by
  obtain ⟨i0, hi, hz0, hz1, hz2⟩ := info_parts infoByte
  rw [run_make w 56 5 i0 (.int .u8 0) Tryd.underlying56 hi hz0 .i64 .i64 n n (by omega) (by omega) (by rw [hz2]; omega) (by omega)]
  rw [Int.toNat_natCast, hz1, Nat.mul_one, ← mk_bytes]
  rfl
/-- A block of bytes becomes a string. -/
theorem back_bytes {w : World} {g : Nat} {l : Bs} (h : Blk w g 5 (bcs l)) (cap : Nat) : (convert 56 9 (.slice (some ⟨g, 0, none⟩) l.length cap)).run Tryd.prog w = .ok (.string (sv l)) w :=
  run_convert_bytes_back (P := Tryd.prog) w 56 9 5 ⟨g, 0, none⟩ cap l Tryd.underlying56 Tryd.underlying5 Tryd.underlying9 (fun i hi => by
    have e : (⟨g, 0, none⟩ : Addr).add i = ⟨g, i, none⟩ := by unfold Addr.add; split <;> simp_all
    rw [e, h.cell i, bcs_at l i hi]
    congr 2
    rw [List.getD_eq_getElem?_getD, List.getElem?_eq_getElem hi]; rfl)
end Go.Proofs.YtfmjankmfddefaaDoor.Dg
