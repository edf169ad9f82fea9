/- The bytes of a text in a slice of the call's own. Conditions: those of each lemma. -/
import Derived.Test.YtfmjankmfddefaaDoorGBytes
import Derived.Deep.RegionHeld
namespace Go.Proofs.YtfmjankmfddefaaDoor.Dg
open Go.RowKit Gm
set_option linter.unusedVariables false

/-- The block g begins with these bytes, which may be written. -/
def Bf (W : World) (g : Nat) (l : Bs) : Prop := (∀ j, j < l.length → W.cell? ⟨g, j, none⟩ = some (.int .u8 ((l.getD j 0).toNat : Int))) ∧ (∀ j, j < l.length → W.frozen? ⟨g, j, none⟩ = false) ∧ g < W.heap.size
theorem Bf.set {W : World} {g : Nat} {l : Bs} (h : Bf W g l) (k : Nat) (hk : k < l.length) (b : UInt8) : Bf (W.setCell ⟨g, k, none⟩ (.int .u8 (b.toNat : Int))) g (l.set k b) := by
  obtain ⟨h1, h2, h3⟩ := h
  refine ⟨fun j hj => ?_, fun j hj => ?_, by simpa [World.setCell] using h3⟩
  · rw [List.length_set] at hj
    by_cases e : k = j
    · subst e
      rw [World.cell?_setCell_same _ _ _ (h1 k hk)]
      simp [List.getD_eq_getElem?_getD, hk]
    · rw [World.cell?_setCell_other _ _ _ _ (by intro e'; injection e' with _ e''; exact e e''), h1 j hj]
      rw [List.getD_eq_getElem?_getD, List.getD_eq_getElem?_getD, List.getElem?_set_ne e]
  · rw [List.length_set] at hj
    rw [World.frozen?_setCell]; exact h2 j hj
theorem Bf.below {W W' : World} {g B : Nat} {l : Bs} (h : Bf W g l) (hb : Below B W W') (hg : g < B) : Bf W' g l :=
  ⟨fun j hj => (hb.cell (p := ⟨g, j, none⟩) hg).trans (h.1 j hj), fun j hj => (hb.frozen (p := ⟨g, j, none⟩) hg).trans (h.2.1 j hj), Nat.lt_of_lt_of_le h.2.2 hb.size⟩
theorem Bf.back {W : World} {g : Nat} {l : Bs} (h : Bf W g l) (cap : Nat) : (convert 56 9 (.slice (some ⟨g, 0, none⟩) l.length cap)).run Tryd.prog W = .ok (.string (sv l)) W :=
  run_convert_bytes_back (P := Tryd.prog) W 56 9 5 ⟨g, 0, none⟩ cap l Tryd.underlying56 Tryd.underlying5 Tryd.underlying9 (fun i hi => by
    have e : (⟨g, 0, none⟩ : Addr).add i = ⟨g, i, none⟩ := by unfold Addr.add; split <;> simp_all
    rw [e, h.1 i hi]
    congr 2
    rw [List.getD_eq_getElem?_getD, List.getElem?_eq_getElem hi]; rfl)
/-- A string becomes bytes. -/
theorem to_bytes (T : Bs) (W : World) : ∃ cap W', (convert 9 56 (.string (sv T))).run Tryd.prog W = .ok (.slice (some ⟨W.heap.size, 0, none⟩) T.length cap) W' ∧ Bf W' W.heap.size T ∧ Below W.heap.size W W' := by
  have hr := run_bytes_of_string (P := Tryd.prog) W 9 56 5 (sv T) Tryd.underlying9 Tryd.underlying56 Tryd.underlying5
  generalize hcap : grownCap W (sv T).size 0 5 = cap at hr
  generalize hrow : bytesRow (sv T) cap = row at hr
  have hsz : T.length ≤ row.size := by rw [← hrow]; simp [bytesRow, sv]
  refine ⟨_, _, hr, ⟨fun j hj => ?_, fun j hj => ?_, ?_⟩, ?_⟩
  · have hc := cell_of_row (W.drew.alloc (.cells row 5 (row.size, row.size + 1))) W.heap.size j row 5 (row.size, row.size + 1) (heap_alloc_new W.drew _)
    rw [hc, ← hrow, bytesRow_at (sv T) cap j hj]
    have e : (sv T).data[j] = T.getD j 0 := by
      show (T.toArray)[j] = _
      rw [List.getElem_toArray, List.getD_eq_getElem?_getD, List.getElem?_eq_getElem hj]; rfl
    rw [e]
  · have := World.frozen?_alloc_mark W.drew row 5 row.size (row.size + 1) j
    refine this.trans ?_
    have : ¬ row.size ≤ j := by omega
    simp [this]
  · show W.heap.size < (W.heap.push _).size
    simp
  · exact (below_drewN W 1).alloc (Nat.le_refl _) _
end Go.Proofs.YtfmjankmfddefaaDoor.Dg
