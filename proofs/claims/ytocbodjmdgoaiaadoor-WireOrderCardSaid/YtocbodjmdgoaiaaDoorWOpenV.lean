/- How an argument that is a list of values is read. Conditions: those of the row's own form. -/
import Derived.Test.YtocbodjmdgoaiaaDoorWCard
import Derived.Deep.Slices
import Derived.Deep.Fields
import Derived.ChangeSame
namespace Go.Proofs.YtocbodjmdgoaiaaDoor
open Go.ChangeShapes Go.WideShapes Go.ChangeAt Go.RowKit Go.Deep Wm
set_option linter.unusedVariables false

section
variable {H : Type} {enc : TypeId × Value → H} {P : Program} {w : World} {base : Nat} {spare : Nat → Bool} {held : Bool}
theorem open_slice_fields {t e : TypeId} {fs : Array Field} {fuel : Nat} {cs : List Value} {x : DataW H × List MemPlace} (ht : P.underlying t = some (.slice e)) (he : P.underlying e = some (.struct fs))
    (hone : oneCellFields P fs = true) (hC : P.cellsOf e = fs.size) (h : DataW.trod enc P w base spare held fuel t cs = some x) :
    (cs = [.slice none 0 0] ∧ x = (.nil, [])) ∨
    ∃ (a : Addr) (len cap m : Nat) (D : Nat → DataW H) (Pl : Nat → List MemPlace), cs = [.slice (some a) len cap] ∧ base ≤ a.block ∧ len ≤ cap ∧ cap ≤ maxLen ∧ m = (if spare a.block then cap else len) ∧
      x = (.slice ((List.range len).map D) ((List.range (m - len)).map fun j => D (len + j)), MemPlace.row a (m * fs.size) ++ (List.range m).flatMap Pl) ∧
      ∀ i, i < m → ∃ (ys : List (DataW H × List MemPlace)) (n : Nat), D i = .agg (ys.map (·.1)) ∧ Pl i = ys.flatMap (·.2) ∧ ys.length = fs.size ∧
        ∀ (j : Nat) (f : Field), fs[j]? = some f → ∃ (v : Value) (y : DataW H × List MemPlace), w.cell? (a.add (i * fs.size + j)) = some v ∧ ys[j]? = some y ∧ DataW.trod enc P w base spare held n f.type [v] = some y := by
  rcases open_slice ht h with h0 | ⟨a, len, cap, m, n, D, Pl, hcs, hb, hl, hm, hmm, hx, hi⟩
  · exact .inl h0
  · refine .inr ⟨a, len, cap, m, D, Pl, hcs, hb, hl, hm, hmm, by rw [hC] at hx; exact hx, fun i him => ?_⟩
    obtain ⟨cs', hc, ht'⟩ := hi i him
    rw [hC] at hc
    obtain ⟨ys, n', hn', hy, hlen, hyl, hf⟩ := DataW.trod_struct he ht'
    obtain ⟨_, hcl, hat⟩ := World.cells?_some hc
    simp only [Prod.mk.injEq] at hy
    refine ⟨ys, n', hy.1, hy.2, hyl, fun j f hj => ?_⟩
    obtain ⟨ho, hk⟩ := hone_of hone j f hj
    have hjl : j < fs.size := (Array.getElem?_eq_some_iff.1 hj).1
    have hcell := hat j hjl
    have hv : cs'[j]? = some (cs'[j]'(by omega)) := List.getElem?_eq_getElem (by omega)
    have h1 := hf j f hj
    rw [ho, hk] at h1
    have hone' : (cs'.drop j).take 1 = [cs'[j]'(by omega)] := by
      rw [List.drop_eq_getElem_cons (by omega)]
      rfl
    rw [hone'] at h1
    have hys : ys[j]? = some (ys[j]'(by omega)) := List.getElem?_eq_getElem (by omega)
    refine ⟨_, _, ?_, hys, h1.trans hys⟩
    rw [← Go.Deep.add_add, hcell, hv]
end

theorem cell_lt {w : World} {a : Addr} {v : Value} (h : w.cell? a = some v) : a.block < w.heap.size := by
  rcases Nat.lt_or_ge a.block w.heap.size with hl | hl
  · exact hl
  · simp [World.cell?, Array.getElem?_eq_none hl] at h
theorem rd_texts {W : World} {a : Addr} {len cap : Nat} {ss : List ByteArray} (hl : len ≤ cap) (hz : ss.length = cap) (hcell : ∀ i, i < ss.length → W.cell? (a.add i) = some (.string (ss.getD i ByteArray.empty))) :
    Rd W (some a) len (tv ((ss.take len).map fun s => s.data.toList)) := by
  refine ⟨by simp [tv]; omega, fun h => ⟨a, rfl, by have := cell_lt (hcell 0 (by omega)); rwa [block_of_add] at this, fun j u hu => ?_⟩⟩
  rw [tv, List.map_map, List.getElem?_map] at hu
  obtain ⟨x, hx, rfl⟩ := Option.map_eq_some_iff.1 hu
  have hj := (List.getElem?_eq_some_iff.1 hx).1
  rw [List.length_take] at hj
  rw [List.getElem?_take_of_lt (by omega)] at hx
  rw [hcell j (by omega)]
  simp only [Function.comp]
  rw [sv_of, List.getD_eq_getElem?_getD, hx]
  rfl

section
variable {H : Type} {enc : TypeId × Value → H} {W : World} {held : Bool}
theorem oneInt : Tryd.prog.cellsOf 3 = 1 := by kernel_rfl
theorem oneStr : Tryd.prog.cellsOf 9 = 1 := by kernel_rfl
theorem rd_of_ints {n : Nat} {v : Value} {y : DataW H × List MemPlace} (h : DataW.trod enc Tryd.prog W 0 (fun _ => true) held n 25 [v] = some y) :
    ∃ A len c zs, v = .slice A len c ∧ len ≤ 9223372036854775807 ∧ (∀ z ∈ zs, J64 z) ∧ Rd W A len (iv zs) := by
  rcases open_ints Tryd.underlying25 Tryd.underlying3 oneInt h with ⟨hcs, _⟩ | ⟨a, len, cap, zs, hcs, _, hl, hm, hz, _, hcell, hwz⟩
  · injection hcs with hcs
    exact ⟨none, 0, 0, [], hcs, by omega, by simp, rfl, fun h => by omega⟩
  · injection hcs with hcs
    simp only [if_true] at hz
    refine ⟨some a, len, cap, zs.take len, hcs, by unfold maxLen at hm; omega, fun z hzm => ?_, rd_ints hl hz hcell (fun h => by have := cell_lt (hcell 0 (by omega)); rwa [block_of_add] at this)⟩
    have := hwz z (List.mem_of_mem_take hzm)
    simp only [Lit.wf, Bool.and_eq_true] at this
    exact ⟨of_decide_eq_true (p := -9223372036854775808 ≤ z) this.1, of_decide_eq_true (p := z ≤ 9223372036854775807) this.2⟩
theorem rd_of_texts {n : Nat} {v : Value} {y : DataW H × List MemPlace} (h : DataW.trod enc Tryd.prog W 0 (fun _ => true) held n 26 [v] = some y) :
    ∃ A len c ts, v = .slice A len c ∧ len ≤ 9223372036854775807 ∧ (∀ z ∈ ts, z.length ≤ 9223372036854775807) ∧ Rd W A len (tv ts) := by
  rcases open_strings Tryd.underlying26 Tryd.underlying9 oneStr h with ⟨hcs, _⟩ | ⟨a, len, cap, ss, hcs, _, hl, hm, hz, _, hcell, hwz⟩
  · injection hcs with hcs
    exact ⟨none, 0, 0, [], hcs, by omega, by simp, rfl, fun h => by omega⟩
  · injection hcs with hcs
    simp only [if_true] at hz
    refine ⟨some a, len, cap, (ss.take len).map fun s => s.data.toList, hcs, by unfold maxLen at hm; omega, fun z hzm => ?_, rd_texts hl hz hcell⟩
    obtain ⟨s, hs, rfl⟩ := List.mem_map.1 hzm
    have := hwz s (List.mem_of_mem_take hs)
    rw [Lib.size_eq] at this
    unfold maxLen at this
    exact this
theorem j64_of_wf {z : Int} (h : (Lit.int .i64 z).wf = true) : J64 z := by
  simp only [Lit.wf, Bool.and_eq_true] at h
  exact ⟨of_decide_eq_true (p := -9223372036854775808 ≤ z) h.1, of_decide_eq_true (p := z ≤ 9223372036854775807) h.2⟩
theorem valueFields : ∃ f0 f1 f2 f3 f4 : Field, Tryd.prog.underlying 28 = some (.struct #[f0, f1, f2, f3, f4]) ∧ f0.type = 3 ∧ f1.type = 3 ∧ f2.type = 9 ∧ f3.type = 25 ∧ f4.type = 26 ∧ oneCellFields Tryd.prog #[f0, f1, f2, f3, f4] = true ∧ Tryd.prog.cellsOf 28 = 5 :=
  ⟨_, _, _, _, _, Tryd.underlying28, rfl, rfl, rfl, rfl, rfl, by kernel_rfl, by kernel_rfl⟩
/-- A list of values that has come in. -/
theorem rdV_of {v : Value} {d : DataW H} {p : List MemPlace} (h : DataW.Trod enc Tryd.prog W 0 (fun _ => true) held 22 v d p) {A : Option Addr} {len cap : Nat} (hv : v = .slice A len cap) : ∃ vs, RdV W A len vs ∧ len ≤ 9223372036854775807 := by
  subst hv
  obtain ⟨fuel, hf⟩ := h
  obtain ⟨f0, f1, f2, f3, f4, hs, t0, t1, t2, t3, t4, hone, hC⟩ := valueFields
  rcases open_slice_fields Tryd.underlying22 hs hone hC hf with ⟨hcs, _⟩ | ⟨a, len', cap', m, D, Pl, hcs, _, hl, hm, hmm, _, hi⟩
  · simp [Value.cells] at hcs
    obtain ⟨rfl, rfl, rfl⟩ := hcs
    exact ⟨[], ⟨rfl, by simp, fun h => by omega⟩, by omega⟩
  · simp [Value.cells] at hcs
    obtain ⟨rfl, rfl, rfl⟩ := hcs
    simp only [if_true] at hmm
    by_cases h0 : len = 0
    · subst h0
      exact ⟨[], ⟨rfl, by simp, fun h => by omega⟩, by omega⟩
    obtain ⟨b, off, spot⟩ := a
    have hspot : spot = none := by
      obtain ⟨ys, n, _, _, _, hfl⟩ := hi 0 (by omega)
      obtain ⟨x, y, hc, _, _⟩ := hfl 0 f0 rfl
      simpa [Addr.add] using World.cell?_spot hc
    subst hspot
    have hcellb : ∀ i, (⟨b, off, none⟩ : Addr).add i = ⟨b, off + i, none⟩ := fun i => by unfold Addr.add; split <;> simp_all
    have hblt : b < W.heap.size := by
      obtain ⟨ys, n, _, _, _, hfl⟩ := hi 0 (by omega)
      obtain ⟨x, y, hc, _, _⟩ := hfl 0 f0 rfl
      have := cell_lt hc
      rwa [block_of_add] at this
    have hex : ∀ i, ∃ v : Va, i < len → VaAt W b (off + i * 5) v ∧ RdVa W v := by
      intro i
      by_cases hlt : i < len
      · obtain ⟨ys, n, _, _, _, hfl⟩ := hi i (by omega)
        obtain ⟨x0, y0, c0, _, r0⟩ := hfl 0 f0 rfl
        obtain ⟨x1, y1, c1, _, r1⟩ := hfl 1 f1 rfl
        obtain ⟨x2, y2, c2, _, r2⟩ := hfl 2 f2 rfl
        obtain ⟨x3, y3, c3, _, r3⟩ := hfl 3 f3 rfl
        obtain ⟨x4, y4, c4, _, r4⟩ := hfl 4 f4 rfl
        rw [t0] at r0
        rw [t1] at r1
        rw [t2] at r2
        rw [t3] at r3
        rw [t4] at r4
        obtain ⟨z0, e0, _, w0⟩ := DataW.trod_int Tryd.underlying3 r0
        obtain ⟨z1, e1, _, w1⟩ := DataW.trod_int Tryd.underlying3 r1
        obtain ⟨s2, e2, _, w2⟩ := DataW.trod_string Tryd.underlying9 r2
        obtain ⟨A3, l3, k3, zs, e3, b3, j3, rd3⟩ := rd_of_ints r3
        obtain ⟨A4, l4, k4, ts, e4, b4, j4, rd4⟩ := rd_of_texts r4
        injection e0 with e0
        injection e1 with e1
        injection e2 with e2
        subst e0 e1 e2 e3 e4
        rw [hcellb] at c0 c1 c2 c3 c4
        refine ⟨⟨z0, z1, s2.data.toList, A3, l3, k3, zs, A4, l4, k4, ts⟩, fun _ => ⟨⟨?_, ?_, ?_, ?_, ?_⟩, j64_of_wf w0, j64_of_wf w1, ?_, b3, b4, j3, j4, rd3, rd4⟩⟩
        · exact c0
        · exact c1
        · simp only [sv_of]; exact c2
        · exact c3
        · exact c4
        · rw [Lib.size_eq] at w2; unfold maxLen at w2; exact w2
      · exact ⟨⟨0, 0, [], none, 0, 0, [], none, 0, 0, []⟩, fun h => absurd h hlt⟩
    obtain ⟨f, hf'⟩ := Classical.axiomOfChoice hex
    refine ⟨(List.range len).map f, ⟨by simp, ?_, fun _ => ⟨b, off, rfl, hblt, ?_⟩⟩, by unfold maxLen at hm; omega⟩
    · intro v hv
      obtain ⟨i, hi', rfl⟩ := List.mem_map.1 hv
      exact (hf' i (List.mem_range.1 hi')).2
    · intro j v hv
      rw [List.getElem?_map] at hv
      obtain ⟨i, hi', rfl⟩ := Option.map_eq_some_iff.1 hv
      have hj : j < len := by have := (List.getElem?_eq_some_iff.1 hi').1; simpa using this
      rw [List.getElem?_range hj] at hi'
      obtain rfl := Option.some.inj hi'
      exact (hf' j hj).1
end
end Go.Proofs.YtocbodjmdgoaiaaDoor
