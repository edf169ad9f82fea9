/- How the arguments of disk's laws are read: lists of ints and of texts, lists of acts. Conditions: those of the row's own form. -/
import Derived.Test.YtdjchpejhfkknaaKAt
import Derived.Test.YtdjchpejhfkknaaRows
import Derived.ProofKit
import Derived.OpenShut
import Derived.SizedLaws
import Derived.ChangeSlices
import Derived.SliceStrings
import Derived.ChangeSame
import Derived.Deep.Slices
import Derived.Deep.Fields
namespace Go.Proofs.Ytdjchpejhfkknaa.Dk
open Go.ChangeShapes Go.WideShapes Go.ChangeAt Go.RowKit Go.Deep Km
set_option linter.unusedVariables false
set_option maxRecDepth 100000

theorem own : ownKnob Try.prog.godebug = none := by kernel_rfl
theorem laidOut : laidOutB Try.prog = true := by kernel_rfl
theorem oneInt : Try.prog.cellsOf 3 = 1 := by kernel_rfl
theorem oneStr : Try.prog.cellsOf 9 = 1 := by kernel_rfl
theorem reach_le {n : Nat} (h : n ≤ reachBytes) : n ≤ 140737488355328 := by have := reachBytes_lt; omega
theorem j64_of_wf {z : Int} (h : (Lit.int .i64 z).wf = true) : J64 z := by
  simp only [Lit.wf, Bool.and_eq_true] at h
  exact ⟨of_decide_eq_true (p := -9223372036854775808 ≤ z) h.1, of_decide_eq_true (p := z ≤ 9223372036854775807) h.2⟩
theorem cell_lt {w : World} {a : Addr} {v : Value} (h : w.cell? a = some v) : a.block < w.heap.size := by
  rcases Nat.lt_or_ge a.block w.heap.size with hl | hl
  · exact hl
  · simp [World.cell?, Array.getElem?_eq_none hl] at h
theorem getD_at {zs : List Int} {j : Nat} {x : Int} (h : zs[j]? = some x) : zs.getD j 0 = x := by simp [List.getD_eq_getElem?_getD, h]
/-- The places that hold a slice's block are in memory. -/
def Lies (w : World) (v : Value) : Prop := ∀ b, vblock v = some b → b < w.heap.size
section
variable {H : Type} {enc : TypeId × Value → H} {W : World} {held : Bool}
/-- A list of ints that has come in. -/
theorem ints_of {n : Nat} {v : Value} {y : DataW H × List MemPlace} (h : DataW.trod enc Try.prog W 0 (fun _ => true) held n 39 [v] = some y) :
    ∃ A len c zs, v = .slice A len c ∧ zs.length = len ∧ len ≤ c ∧ len ≤ 9223372036854775807 ∧ (∀ z ∈ zs, J64 z) ∧ Ints W v zs ∧ Lies W v := by
  rcases open_ints Try.underlying39 Try.underlying3 oneInt h with ⟨hcs, _⟩ | ⟨a, len, cap, zs, hcs, _, hl, hm, hz, _, hcell, hwz⟩
  · injection hcs with hcs
    subst hcs
    exact ⟨none, 0, 0, [], rfl, rfl, Nat.le_refl _, by omega, by simp, ⟨none, 0, rfl, fun h => by simp at h⟩, fun b hb => by cases hb⟩
  · injection hcs with hcs
    subst hcs
    simp only [if_true] at hz
    have hlen : (zs.take len).length = len := by rw [List.length_take]; omega
    refine ⟨some a, len, cap, zs.take len, rfl, hlen, hl, by unfold maxLen at hm; omega, fun z hzm => j64_of_wf (hwz z (List.mem_of_mem_take hzm)), ⟨some a, cap, by rw [hlen], fun h0 => ?_⟩, fun b hb => ?_⟩
    · rw [hlen] at h0
      obtain ⟨b, off, spot⟩ := a
      have hspot : spot = none := by simpa [Addr.add] using World.cell?_spot (hcell 0 (by omega))
      subst hspot
      refine ⟨b, off, rfl, ?_, fun j z hj => ?_⟩
      · have := cell_lt (hcell 0 (by omega))
        simpa [Addr.add] using this
      · have hjl := (List.getElem?_eq_some_iff.1 hj).1
        rw [hlen] at hjl
        rw [List.getElem?_take_of_lt hjl] at hj
        have := hcell j (by omega)
        rw [getD_at hj, Addr.add_lit] at this
        exact this
    · simp [vblock] at hb
      obtain ⟨h0, hb⟩ := hb
      have := cell_lt (hcell 0 (by omega))
      have e : (a.add 0).block = a.block := by unfold Addr.add; split <;> rfl
      rw [e, hb] at this
      exact this
end
end Go.Proofs.Ytdjchpejhfkknaa.Dk
