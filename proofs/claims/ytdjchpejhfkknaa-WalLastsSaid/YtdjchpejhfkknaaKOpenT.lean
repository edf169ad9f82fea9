/- How a list of texts that has come in is read: each of its texts is within the reach. Conditions: those of the row's own form. -/
import Derived.Test.YtdjchpejhfkknaaKOpen
namespace Go.Proofs.Ytdjchpejhfkknaa.Dk
open Go.ChangeShapes Go.WideShapes Go.ChangeAt Go.RowKit Go.Deep Km
set_option linter.unusedVariables false
set_option maxRecDepth 100000

def Texts (w : World) (v : Value) (ts : List Bs) : Prop := ∃ a c, v = .slice a ts.length c ∧ ts.length ≤ 9223372036854775807 ∧ (∀ t ∈ ts, t.length ≤ 140737488355328) ∧ (0 < ts.length → ∃ b o, a = some ⟨b, o, none⟩ ∧ b < w.heap.size ∧ ∀ j t, ts[j]? = some t → w.cell? ⟨b, o + j, none⟩ = some (.string (sv t)))
theorem wAll_mem {H : Type} {P : Program} {e : TypeId} : ∀ {l : List (DataW H)} {d : DataW H}, d ∈ l → ∀ n ∈ d.weights P e, n ∈ DataW.weightsAll P e l
  | d' :: r, d, hd, n, hn => by
    simp only [DataW.weightsAll, List.mem_append]
    rcases List.mem_cons.1 hd with rfl | h
    · exact Or.inl hn
    · exact Or.inr (wAll_mem h n hn)
section
variable {H : Type} {enc : TypeId × Value → H} {W : World} {held : Bool}
theorem texts_of {b : Option Addr} {len cap : Nat} {d : DataW H} {p : List MemPlace} (h : DataW.Trod enc Try.prog W 0 (fun _ => true) held 38 (.slice b len cap) d p)
    (hw : ∀ x ∈ d.weights Try.prog 38, x ≤ reachBytes) : ∃ ts, Texts W (.slice b len cap) ts := by
  obtain ⟨fuel, hf⟩ := h
  rcases open_strings Try.underlying38 Try.underlying9 oneStr hf with ⟨hcs, _⟩ | ⟨a, len', cap', ss, hcs, _, hl, hm, hz, hx, hcell, hwz⟩
  · simp [Value.cells] at hcs
    obtain ⟨rfl, rfl, rfl⟩ := hcs
    exact ⟨[], none, 0, rfl, by simp, by simp, fun h => by simp at h⟩
  · simp [Value.cells] at hcs
    obtain ⟨rfl, rfl, rfl⟩ := hcs
    simp only [if_true] at hz
    have hlen : ((ss.take len).map fun s => s.data.toList).length = len := by rw [List.length_map, List.length_take]; omega
    simp only [Prod.mk.injEq] at hx
    refine ⟨(ss.take len).map fun s => s.data.toList, some a, cap, by rw [hlen], by rw [hlen]; unfold maxLen at hm; omega, fun t ht => ?_, fun h0 => ?_⟩
    · obtain ⟨s, hs, rfl⟩ := List.mem_map.1 ht
      refine reach_le (hw _ ?_)
      rw [hx.1]
      simp only [DataW.weights, Try.underlying38, List.mem_cons, List.mem_append]
      refine .inr (.inl (wAll_mem (d := .lit (.string s.data.toList)) ?_ _ (by simp [DataW.weights])))
      exact List.mem_map.2 ⟨s, hs, rfl⟩
    · rw [hlen] at h0
      obtain ⟨b, off, spot⟩ := a
      have hspot : spot = none := by simpa [Addr.add] using World.cell?_spot (hcell 0 (by omega))
      subst hspot
      refine ⟨b, off, rfl, ?_, fun j t hj => ?_⟩
      · have := cell_lt (hcell 0 (by omega))
        simpa [Addr.add] using this
      · have hjl := (List.getElem?_eq_some_iff.1 hj).1
        rw [hlen] at hjl
        rw [List.getElem?_map, List.getElem?_take_of_lt hjl] at hj
        obtain ⟨s, hs, rfl⟩ := Option.map_eq_some_iff.1 hj
        have := hcell j (by omega)
        rw [Addr.add_lit, List.getD_eq_getElem?_getD, hs] at this
        rw [this, sv_of]
        rfl
end
theorem Texts.fr {A : Nat → Prop} {w w' : World} {v : Value} {ts : List Bs} (h : Texts w v ts) (hf : Fr A w w') (hA : ∀ b, b < w.heap.size → ¬ A b) : Texts w' v ts := by
  obtain ⟨a, c, rfl, h1, h2, hc⟩ := h
  refine ⟨a, c, rfl, h1, h2, fun h0 => ?_⟩
  obtain ⟨b, o, rfl, h3, h4⟩ := hc h0
  exact ⟨b, o, rfl, Nat.lt_of_lt_of_le h3 hf.size, fun j t ht => hf.cell (p := ⟨b, o + j, none⟩) (h4 j t ht) (hA b h3)⟩
end Go.Proofs.Ytdjchpejhfkknaa.Dk
