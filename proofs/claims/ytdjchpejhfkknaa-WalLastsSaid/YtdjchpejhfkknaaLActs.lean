/- How a list of the acts of layer 7 that has come in is read. Conditions: those of the row's own form. -/
import Derived.Test.YtdjchpejhfkknaaLAt
namespace Go.Proofs.Ytdjchpejhfkknaa.Lw
open Go.ChangeShapes Go.WideShapes Go.ChangeAt Go.RowKit Go.Deep Km Dk
open Lm hiding Bs
set_option linter.unusedVariables false
set_option maxRecDepth 100000

/-- An act: what it does, its text, its list of texts, its number, what it keeps. -/
structure Ax where
  d : Int
  s : Km.Bs
  l : List Km.Bs
  n : Int
  k : List Int
/-- The cells of an act. -/
def axC (a : Ax) (lv kv : Value) : Array Value := #[.int .i64 a.d, .string (sv a.s), lv, .int .i64 a.n, kv]
/-- One act that reads. -/
def AxR (w : World) (p : Ax × Value × Value) : Prop := J64 p.1.d ∧ J64 p.1.n ∧ p.1.s.length ≤ 140737488355328 ∧ Texts w p.2.1 p.1.l ∧ p.1.k.length ≤ 17592186044416 ∧ (∀ z ∈ p.1.k, J64 z) ∧ Ints w p.2.2 p.1.k ∧ Lies w p.2.2
def Axs (w : World) (v : Value) (l : List (Ax × Value × Value)) : Prop := ∃ a c, v = .slice a l.length c ∧ l.length ≤ 9223372036854775807 ∧ (∀ p ∈ l, AxR w p) ∧
  (0 < l.length → ∃ b o, a = some ⟨b, o, none⟩ ∧ b < w.heap.size ∧ ∀ j p, l[j]? = some p → ∀ i, i < 5 → w.cell? ⟨b, o + j * 5 + i, none⟩ = (axC p.1 p.2.1 p.2.2)[i]?)
section
variable {H : Type} {enc : TypeId × Value → H} {P : Program} {w : World} {base : Nat} {spare : Nat → Bool} {held : Bool}
theorem open_slice_fields {t e : TypeId} {fs : Array Field} {fuel : Nat} {cs : List Value} {x : DataW H × List MemPlace} (ht : P.underlying t = some (.slice e)) (he : P.underlying e = some (.struct fs))
    (hone : oneCellFields P fs = true) (hC : P.cellsOf e = fs.size) (h : DataW.trod enc P w base spare held fuel t cs = some x) :
    (cs = [.slice none 0 0] ∧ x = (.nil, [])) ∨
    ∃ (a : Addr) (len cap m : Nat) (D : Nat → DataW H) (Pl : Nat → List MemPlace), cs = [.slice (some a) len cap] ∧ base ≤ a.block ∧ len ≤ cap ∧ cap ≤ maxLen ∧ m = (if spare a.block then cap else len) ∧
      x = (.slice ((List.range len).map D) ((List.range (m - len)).map fun j => D (len + j)), MemPlace.row a (m * fs.size) ++ (List.range m).flatMap Pl) ∧
      ∀ i, i < m → ∃ (ys : List (DataW H × List MemPlace)) (n : Nat), D i = .agg (ys.map (·.1)) ∧ Pl i = ys.flatMap (·.2) ∧ ys.length = fs.size ∧
        ∀ (j : Nat) (f : Field), fs[j]? = some f → ∃ (v : Value) (y : DataW H × List MemPlace), w.cell? (a.add (i * fs.size + j)) = some v ∧ ys[j]? = some y ∧ DataW.trod enc P w base spare held n f.type [v] = some y := by
  rcases open_slice ht h with h0 | ⟨a, len, cap, m, n, D, Pl, hcs, hb, hl, hm, hmm, hx, hi⟩
  · exact .inl h0
  · refine .inr ⟨a, len, cap, m, D, Pl, hcs, hb, hl, hm, hmm, by rw [hC] at hx; exact hx, fun i him => ?_⟩
    obtain ⟨cs', hc, ht'⟩ := hi i him
    rw [hC] at hc
    obtain ⟨ys, n', hn', hy, hlen, hyl, hf⟩ := DataW.trod_struct he ht'
    obtain ⟨_, hcl, hat⟩ := World.cells?_some hc
    simp only [Prod.mk.injEq] at hy
    refine ⟨ys, n', hy.1, hy.2, hyl, fun j f hj => ?_⟩
    obtain ⟨ho, hk⟩ := hone_of hone j f hj
    have hjl : j < fs.size := (Array.getElem?_eq_some_iff.1 hj).1
    have hcell := hat j hjl
    have hv : cs'[j]? = some (cs'[j]'(by omega)) := List.getElem?_eq_getElem (by omega)
    have h1 := hf j f hj
    rw [ho, hk] at h1
    have hone' : (cs'.drop j).take 1 = [cs'[j]'(by omega)] := by
      rw [List.drop_eq_getElem_cons (by omega)]
      rfl
    rw [hone'] at h1
    have hys : ys[j]? = some (ys[j]'(by omega)) := List.getElem?_eq_getElem (by omega)
    refine ⟨_, _, ?_, hys, h1.trans hys⟩
    rw [← Go.Deep.add_add, hcell, hv]
end
theorem wEach_mem {H : Type} {P : Program} : ∀ {ts : List TypeId} {ds : List (DataW H)} {j : Nat} {t : TypeId} {d : DataW H}, ts[j]? = some t → ds[j]? = some d → ∀ n ∈ d.weights P t, n ∈ DataW.weightsEach P ts ds :=
  fun ht hd n hn => DataW.weights_mem_each ht hd n hn
theorem axFields : ∃ f0 f1 f2 f3 f4 : Field, Try.prog.underlying 41 = some (.struct #[f0, f1, f2, f3, f4]) ∧ f0.type = 3 ∧ f1.type = 9 ∧ f2.type = 38 ∧ f3.type = 3 ∧ f4.type = 39 ∧ oneCellFields Try.prog #[f0, f1, f2, f3, f4] = true ∧ Try.prog.cellsOf 41 = 5 :=
  ⟨_, _, _, _, _, Try.underlying41, rfl, rfl, rfl, rfl, rfl, by kernel_rfl, by kernel_rfl⟩
theorem bytesInt : Try.prog.bytesOf 3 = 8 := by kernel_rfl
section
variable {H : Type} {enc : TypeId × Value → H} {W : World} {held : Bool}
/-- The list of ints of an act, and its size. -/
theorem keep_of {n : Nat} {v : Value} {y : DataW H × List MemPlace} (h : DataW.trod enc Try.prog W 0 (fun _ => true) held n 39 [v] = some y) (hw : ∀ x ∈ y.1.weights Try.prog 39, x ≤ reachBytes) :
    ∃ zs, Ints W v zs ∧ (∀ z ∈ zs, J64 z) ∧ Lies W v ∧ zs.length ≤ 17592186044416 := by
  have h0 := ints_of h
  obtain ⟨A, len, c, zs, hv, hz, hlc, hlm, hj, hI, hL⟩ := h0
  refine ⟨zs, hI, hj, hL, ?_⟩
  rcases open_ints Try.underlying39 Try.underlying3 oneInt h with ⟨hcs, _⟩ | ⟨a, len', cap', zs', hcs, _, hl, hm, hz', hx, _, _⟩
  · injection hcs with hcs
    rw [hv] at hcs
    injection hcs with e1 e2 e3
    omega
  · injection hcs with hcs
    rw [hv] at hcs
    injection hcs with e1 e2 e3
    simp only [if_true] at hz'
    have := hw (((lits .i64 (zs'.take len')).length + (lits (H := H) .i64 (zs'.drop len')).length) * 8) (by
      rw [hx]
      simp only [DataW.weights, Try.underlying39, bytesInt, List.mem_cons]
      exact .inl rfl)
    simp only [lits, List.length_map, List.length_take, List.length_drop] at this
    have hr := reach_le this
    omega
theorem list_of {n : Nat} {v : Value} {y : DataW H × List MemPlace} (h : DataW.trod enc Try.prog W 0 (fun _ => true) held n 38 [v] = some y) (hw : ∀ x ∈ y.1.weights Try.prog 38, x ≤ reachBytes) :
    ∃ ts, Texts W v ts := by
  obtain ⟨d, p⟩ := y
  rcases open_slice Try.underlying38 h with ⟨hcs, _⟩ | ⟨a, len, cap, _, _, _, _, hcs, _⟩
  · injection hcs with hcs
    subst hcs
    exact texts_of ⟨n, h⟩ hw
  · injection hcs with hcs
    subst hcs
    exact texts_of ⟨n, h⟩ hw
theorem acts_of7 {b : Option Addr} {len cap : Nat} {d : DataW H} {p : List MemPlace} (h : DataW.Trod enc Try.prog W 0 (fun _ => true) held 22 (.slice b len cap) d p)
    (hw : ∀ x ∈ d.weights Try.prog 22, x ≤ reachBytes) : ∃ l, Axs W (.slice b len cap) l := by
  obtain ⟨fuel, hf⟩ := h
  obtain ⟨f0, f1, f2, f3, f4, hs, t0, t1, t2, t3, t4, hone, hC⟩ := axFields
  rcases open_slice_fields Try.underlying22 hs hone hC hf with ⟨hcs, _⟩ | ⟨a, len', cap', m, D, Pl, hcs, _, hl, hm, hmm, hx, hi⟩
  · simp [Value.cells] at hcs
    obtain ⟨rfl, rfl, rfl⟩ := hcs
    exact ⟨[], none, 0, rfl, by simp, by simp, fun h => by simp at h⟩
  · simp [Value.cells] at hcs
    obtain ⟨rfl, rfl, rfl⟩ := hcs
    simp only [if_true] at hmm
    by_cases h0 : len = 0
    · subst h0
      exact ⟨[], _, _, rfl, by simp, by simp, fun h => by simp at h⟩
    obtain ⟨b, off, spot⟩ := a
    have hspot : spot = none := by
      obtain ⟨ys, n, _, _, _, hfl⟩ := hi 0 (by omega)
      obtain ⟨x, y, hc, _, _⟩ := hfl 0 f0 rfl
      simpa [Addr.add] using World.cell?_spot hc
    subst hspot
    have hcellb : ∀ i, (⟨b, off, none⟩ : Addr).add i = ⟨b, off + i, none⟩ := fun i => by unfold Addr.add; split <;> simp_all
    have hblt : b < W.heap.size := by
      obtain ⟨ys, n, _, _, _, hfl⟩ := hi 0 (by omega)
      obtain ⟨x, y, hc, _, _⟩ := hfl 0 f0 rfl
      have := cell_lt hc
      rwa [hcellb] at this
    simp only [Prod.mk.injEq] at hx
    have hex : ∀ i, i < len → ∃ q : Ax × Value × Value, AxR W q ∧ ∀ j, j < 5 → W.cell? ⟨b, off + i * 5 + j, none⟩ = (axC q.1 q.2.1 q.2.2)[j]? := by
      intro i hlt
      obtain ⟨ys, n, hD, _, hyl, hfl⟩ := hi i (by omega)
      have hwi : ∀ (j : Nat) (f : Field) (y : DataW H × List MemPlace), (#[f0, f1, f2, f3, f4] : Array Field)[j]? = some f → ys[j]? = some y → ∀ x ∈ y.1.weights Try.prog f.type, x ≤ reachBytes := by
        intro j f y hj hy x hxw
        refine hw x ?_
        rw [hx.1]
        simp only [DataW.weights, Try.underlying22, List.mem_cons, List.mem_append]
        refine .inr (.inl (wAll_mem (d := D i) (List.mem_map.2 ⟨i, List.mem_range.2 hlt, rfl⟩) x ?_))
        rw [hD]
        simp only [DataW.weights, hs]
        refine wEach_mem (j := j) (t := f.type) (d := y.1) ?_ ?_ x hxw
        · rw [List.getElem?_map]
          have : (#[f0, f1, f2, f3, f4] : Array Field).toList[j]? = some f := by rw [Array.getElem?_toList]; exact hj
          rw [this]; rfl
        · rw [List.getElem?_map, hy]; rfl
      obtain ⟨x0, y0, c0, _, r0⟩ := hfl 0 f0 rfl
      obtain ⟨x1, y1, c1, q1, r1⟩ := hfl 1 f1 rfl
      obtain ⟨x2, y2, c2, q2, r2⟩ := hfl 2 f2 rfl
      obtain ⟨x3, y3, c3, _, r3⟩ := hfl 3 f3 rfl
      obtain ⟨x4, y4, c4, q4, r4⟩ := hfl 4 f4 rfl
      have w1 := hwi 1 f1 y1 rfl q1
      have w2 := hwi 2 f2 y2 rfl q2
      have w4 := hwi 4 f4 y4 rfl q4
      rw [t0] at r0
      rw [t1] at r1 w1
      rw [t2] at r2 w2
      rw [t3] at r3
      rw [t4] at r4 w4
      obtain ⟨z0, e0, _, v0⟩ := DataW.trod_int Try.underlying3 r0
      obtain ⟨s1, e1, hy1, v1⟩ := DataW.trod_string Try.underlying9 r1
      obtain ⟨ts, kt⟩ := list_of r2 w2
      obtain ⟨z3, e3, _, v3⟩ := DataW.trod_int Try.underlying3 r3
      obtain ⟨zs, k1, k2, k3, k4⟩ := keep_of r4 w4
      injection e0 with e0
      injection e1 with e1
      injection e3 with e3
      subst e0 e1 e3
      rw [hcellb] at c0 c1 c2 c3 c4
      have hs1 : s1.data.toList.length ≤ 140737488355328 := reach_le (w1 _ (by rw [hy1]; simp [DataW.weights]))
      refine ⟨(⟨z0, s1.data.toList, ts, z3, zs⟩, x2, x4), ⟨j64_of_wf v0, j64_of_wf v3, hs1, kt, k4, k2, k1, k3⟩, fun j hj => ?_⟩
      have hc : j = 0 ∨ j = 1 ∨ j = 2 ∨ j = 3 ∨ j = 4 := by omega
      rcases hc with rfl | rfl | rfl | rfl | rfl
      · simpa [axC, Nat.add_assoc] using c0
      · simpa [axC, Nat.add_assoc, sv_of] using c1
      · simpa [axC, Nat.add_assoc] using c2
      · simpa [axC, Nat.add_assoc] using c3
      · simpa [axC, Nat.add_assoc] using c4
    have hall : ∀ n, n ≤ len → ∃ l : List (Ax × Value × Value), l.length = n ∧ ∀ i q, l[i]? = some q → AxR W q ∧ ∀ j, j < 5 → W.cell? ⟨b, off + i * 5 + j, none⟩ = (axC q.1 q.2.1 q.2.2)[j]? := by
      intro n
      induction n with
      | zero => exact fun _ => ⟨[], rfl, fun i q h => by simp at h⟩
      | succ n ih =>
        intro hn
        obtain ⟨l, h1, h2⟩ := ih (by omega)
        obtain ⟨q, hq⟩ := hex n (by omega)
        refine ⟨l ++ [q], by simp [h1], fun i q' hi' => ?_⟩
        rcases Nat.lt_or_ge i l.length with hlt | hge
        · rw [List.getElem?_append_left hlt] at hi'
          exact h2 i q' hi'
        · rw [List.getElem?_append_right hge] at hi'
          have hi0 : i - l.length = 0 := by
            rcases Nat.eq_zero_or_pos (i - l.length) with e | e
            · exact e
            · rw [List.getElem?_eq_none (by simp; omega)] at hi'; cases hi'
          rw [hi0] at hi'
          simp at hi'
          subst hi'
          have : i = n := by omega
          subst this
          exact hq
    obtain ⟨l, h1, h2⟩ := hall len (Nat.le_refl _)
    refine ⟨l, some ⟨b, off, none⟩, cap, by rw [h1], by rw [h1]; unfold maxLen at hm; omega, fun q hq => ?_, fun _ => ⟨b, off, rfl, hblt, fun j q hq i hi => (h2 j q hq).2 i hi⟩⟩
    obtain ⟨i, hi', rfl⟩ := List.mem_iff_getElem.1 hq
    exact (h2 i _ (List.getElem?_eq_getElem hi')).1
end
end Go.Proofs.Ytdjchpejhfkknaa.Lw
