/- What `after` holds in memory: the log, the boxed act, its result and its own hope; and how a result that lies behind a temporary is returned. Conditions: those of each lemma. -/
import Derived.Test.YtdjchpejhfkknaaLFound
import Derived.Test.YtdjchpejhfkknaaLActs
namespace Go.Proofs.Ytdjchpejhfkknaa.Lw
open Go.RowKit Km Dk
open Lm hiding Bs
set_option linter.unusedVariables false
set_option maxRecDepth 100000

theorem Dsk.stay {A : Nat → Prop} {r : Nat} {s : St} {w w' : World} (h : Dsk A r s w) (hs : w.heap.size ≤ w'.heap.size) (hb : ∀ b, b < w.heap.size → A b → w'.heap[b]? = w.heap[b]?) : Dsk A r s w' :=
  ⟨h.1, h.2.choose, h.2.choose_spec.stay hs hb⟩
theorem Lgd.stay {A : Nat → Prop} {r p f : Nat} {s : St} {rows : List Bs} {w w' : World} (h : Lgd A r p f s rows w) (hs : w.heap.size ≤ w'.heap.size) (hb : ∀ b, b < w.heap.size → A b → w'.heap[b]? = w.heap[b]?) : Lgd A r p f s rows w' := by
  obtain ⟨D, M, h1, h2, h3⟩ := h
  exact ⟨D, M, h1, h2, ⟨Dsk.stay h3.dsk hs fun b hl hD => hb b hl (h1 b hD), h3.log.stay hs fun b hl hM => hb b hl (h2 b hM), h3.sep⟩⟩
theorem Lgd.put {A : Nat → Prop} {r p f : Nat} {s : St} {rows : List Bs} {w : World} (h : Lgd A r p f s rows w) {a : Addr} (ha : ¬ A a.block) (v : Value) : Lgd A r p f s rows (w.setCell a v) :=
  h.stay (by simp [World.setCell]) fun b _ hA => heap_setCell_other w a b v (fun e => ha (by rw [← e]; exact hA))
theorem Texts.put {w : World} {v : Value} {l : List Bs} (h : Texts w v l) {a : Addr} (ha : ∀ b, vblock v = some b → b ≠ a.block) (u : Value) : Texts (w.setCell a u) v l :=
  Texts.stay h (by simp [World.setCell]) fun b hb => heap_setCell_other w a b u (ha b hb)

abbrev Act7 : TypeId := 41
abbrev Hope7 : TypeId := 50
abbrev hope0 : Array Value := #[.slice none 0 0, .slice none 0 0, .slice none 0 0, .bool false]
/-- What `after` holds behind its first calls: B bounds what the log's methods may turn. -/
structure Am (A B : Nat → Prop) (r p : Nat) (s : St) (rows : List Bs) (w W : World) (g h : Nat) (ac hc : Array Value) : Prop where
  lg : Lgd B r p 2 s rows W
  sub : ∀ b, B b → A b
  ba : Blk W g Act7 ac
  br : Blk W (g + 1) Hope7 hope0
  bh : Blk W h Hope7 hc
  na : ¬ B g
  nr : ¬ B (g + 1)
  nh : ¬ B h
  fr : Fr A w W
  lt : g + 1 < h
  ge : w.heap.size ≤ g
section
variable {A B : Nat → Prop} {r p : Nat} {s s' : St} {rows rows' : List Bs} {w W W' : World} {g h : Nat} {ac hc : Array Value}
theorem Am.call (m : Am A B r p s rows w W g h ac hc) (hl : Lgd B r p 2 s' rows' W') (hf : Fr B W W') : Am A B r p s' rows' w W' g h ac hc :=
  ⟨hl, m.sub, hf.blk m.ba m.na, hf.blk m.br m.nr, hf.blk m.bh m.nh, m.na, m.nr, m.nh, m.fr.trans (hf.mono m.sub), m.lt, m.ge⟩
theorem Am.all {B' : Nat → Prop} (m : Am A B r p s rows w W g h ac hc) (hB : ∀ b, B' b → B b) (hl : Lgd B' r p 2 s rows W') (hb : Below W.heap.size W W') : Am A B' r p s rows w W' g h ac hc :=
  ⟨hl, fun b e => m.sub b (hB b e), m.ba.below hb m.ba.lt, m.br.below hb m.br.lt, m.bh.below hb m.bh.lt, fun e => m.na (hB _ e), fun e => m.nr (hB _ e), fun e => m.nh (hB _ e), m.fr.below hb, m.lt, m.ge⟩
theorem Am.put (m : Am A B r p s rows w W g h ac hc) (hA : A h) (i : Nat) (v : Value) : Am A B r p s rows w (W.setCell ⟨h, i, none⟩ v) g h ac (hc.setIfInBounds i v) :=
  ⟨m.lg.put (a := ⟨h, i, none⟩) m.nh v, m.sub, m.ba.far (p := ⟨h, i, none⟩) (by have := m.lt; show g ≠ h; omega) v, m.br.far (p := ⟨h, i, none⟩) (by have := m.lt; show g + 1 ≠ h; omega) v, m.bh.set_ i v, m.na, m.nr, m.nh, m.fr.setCell (p := ⟨h, i, none⟩) hA v, m.lt, m.ge⟩
/-- The beginning: the act is boxed, the result made, All called, the hope made. -/
theorem Am.start {A5 : Nat → Prop} {w5 : World} (h0 : Lgd A r p 2 s rows w) (hl : Lgd A5 r p 2 s rows w5)
    (hB : ∀ b, A5 b → (A b ∧ ¬ b = w.heap.size) ∧ ¬ b = (w.alloc (.cells ac Act7)).heap.size)
    (hb : Below ((w.alloc (.cells ac Act7)).alloc (.cells hope0 Hope7)).heap.size ((w.alloc (.cells ac Act7)).alloc (.cells hope0 Hope7)) w5) :
    Am A (fun b => A5 b ∧ ¬ b = w5.heap.size) r p s rows w (w5.alloc (.cells hc Hope7)) w.heap.size w5.heap.size ac hc := by
  have hs := hb.size
  have e2 : (w.alloc (.cells ac Act7)).heap.size = w.heap.size + 1 := by simp
  have e3 : ((w.alloc (.cells ac Act7)).alloc (.cells hope0 Hope7)).heap.size = w.heap.size + 1 + 1 := by simp
  have b1 : Blk ((w.alloc (.cells ac Act7)).alloc (.cells hope0 Hope7)) w.heap.size Act7 ac := (Blk.new w Act7 ac).alloc _
  have b2 : Blk ((w.alloc (.cells ac Act7)).alloc (.cells hope0 Hope7)) (w.heap.size + 1) Hope7 hope0 := by
    have := Blk.new (w.alloc (.cells ac Act7)) Hope7 hope0
    rwa [e2] at this
  refine ⟨hl.alloc _, fun b e => (hB b e.1).1.1, (b1.below hb b1.lt).alloc _, (b2.below hb b2.lt).alloc _, Blk.new w5 Hope7 hc, fun e => (hB _ e.1).1.2 rfl, fun e => (hB _ e.1).2 e2.symm, fun e => e.2 rfl, ?_, by omega, Nat.le_refl _⟩
  have f1 : Fr A w ((w.alloc (.cells ac Act7)).alloc (.cells hope0 Hope7)) := ((Fr.refl A w).alloc _).alloc _
  exact (f1.below hb).alloc _
theorem Am.cap (m : Am A B r p s rows w W g h ac hc) (h0 : Lgd A r p 2 s rows' w) : A h ∧ A (g + 1) := ⟨h0.new h (by have := m.lt; have := m.ge; omega), h0.new (g + 1) (by have := m.ge; omega)⟩
end
/-- A text's list that the log's methods leave as it is, and that is none of the two hopes. -/
def Tx (B : Nat → Prop) (g h : Nat) (W : World) (v : Value) (l : List Bs) : Prop := Texts W v l ∧ ∀ b, vblock v = some b → ¬ B b ∧ b ≠ g + 1 ∧ b ≠ h
section
variable {A B B' : Nat → Prop} {r p : Nat} {s : St} {rows l : List Bs} {w W W' : World} {g h : Nat} {ac hc : Array Value} {v : Value}
theorem Tx.call (t : Tx B g h W v l) (hf : Fr B W W') : Tx B g h W' v l := ⟨Texts.frs t.1 hf fun b e => (t.2 b e).1, t.2⟩
theorem Tx.all (t : Tx B g h W v l) (hB : ∀ b, B' b → B b) (hb : Below W.heap.size W W') : Tx B' g h W' v l := ⟨Texts.below t.1 hb, fun b e => ⟨fun x => (t.2 b e).1 (hB b x), (t.2 b e).2⟩⟩
theorem Tx.put (t : Tx B g h W v l) (i : Nat) (u : Value) : Tx B g h (W.setCell ⟨h, i, none⟩ u) v l := ⟨Texts.put t.1 (a := ⟨h, i, none⟩) (fun b e => (t.2 b e).2.2) u, t.2⟩
theorem Tx.res (t : Tx B g h W v l) (i : Nat) (u : Value) : Tx B g h (W.setCell ⟨g + 1, i, none⟩ u) v l := ⟨Texts.put t.1 (a := ⟨g + 1, i, none⟩) (fun b e => (t.2 b e).2.1) u, t.2⟩
theorem Tx.new (m : Am A B r p s rows w W g h ac hc) (ht : Texts W' v l) (hv : ∀ b, vblock v = some b → ¬ B' b ∧ W.heap.size ≤ b ∧ b < W'.heap.size) : Tx B' g h W' v l :=
  ⟨ht, fun b e => ⟨(hv b e).1, by have := m.br.lt; have := (hv b e).2.1; omega, by have := m.bh.lt; have := (hv b e).2.1; omega⟩⟩
/-- A text that was there before. -/
theorem Tx.old (m : Am A B r p s rows w W g h ac hc) (ht : Texts w v l) (hv : ∀ b, vblock v = some b → ¬ A b) : Tx B g h W v l :=
  ⟨Texts.frs ht m.fr hv, fun b e => ⟨fun x => hv b e (m.sub b x), by have := Texts.lt ht e; have := m.ge; omega, by have := Texts.lt ht e; have := m.ge; have := m.lt; omega⟩⟩
/-- What the first All gave. -/
theorem Tx.first {A5 : Nat → Prop} {w2 w5 : World} {cs : Array Value} (h2 : w2.heap.size = w.heap.size + 1 + 1) (ht : Texts w5 v l) (hv : ∀ b, vblock v = some b → ¬ A5 b ∧ w2.heap.size ≤ b ∧ b < w5.heap.size) :
    Tx (fun b => A5 b ∧ ¬ b = w5.heap.size) w.heap.size w5.heap.size (w5.alloc (.cells cs Hope7)) v l :=
  ⟨Texts.below ht (below_alloc _ _), fun b e => ⟨fun x => (hv b e).1 x.1, by have := (hv b e).2.1; omega, by have := (hv b e).2.2; omega⟩⟩
theorem Am.res (m : Am A B r p s rows w W g h ac hc) (hA : A (g + 1)) (c0 c1 c2 c3 : Value) :
    Lgd B r p 2 s rows ((((W.setCell ⟨g + 1, 0, none⟩ c0).setCell ⟨g + 1, 1, none⟩ c1).setCell ⟨g + 1, 2, none⟩ c2).setCell ⟨g + 1, 3, none⟩ c3) ∧
    Fr A w ((((W.setCell ⟨g + 1, 0, none⟩ c0).setCell ⟨g + 1, 1, none⟩ c1).setCell ⟨g + 1, 2, none⟩ c2).setCell ⟨g + 1, 3, none⟩ c3) ∧
    Blk ((((W.setCell ⟨g + 1, 0, none⟩ c0).setCell ⟨g + 1, 1, none⟩ c1).setCell ⟨g + 1, 2, none⟩ c2).setCell ⟨g + 1, 3, none⟩ c3) (g + 1) Hope7 #[c0, c1, c2, c3] := by
  refine ⟨?_, ?_, ?_⟩
  · exact ((((m.lg.put (a := ⟨g + 1, 0, none⟩) m.nr c0).put (a := ⟨g + 1, 1, none⟩) m.nr c1).put (a := ⟨g + 1, 2, none⟩) m.nr c2).put (a := ⟨g + 1, 3, none⟩) m.nr c3)
  · exact ((((m.fr.setCell (p := ⟨g + 1, 0, none⟩) hA c0).setCell (p := ⟨g + 1, 1, none⟩) hA c1).setCell (p := ⟨g + 1, 2, none⟩) hA c2).setCell (p := ⟨g + 1, 3, none⟩) hA c3)
  · exact ((((m.br.set_ 0 c0).set_ 1 c1).set_ 2 c2).set_ 3 c3)
theorem Tx.res4 (t : Tx B g h W v l) (c0 c1 c2 c3 : Value) : Tx B g h ((((W.setCell ⟨g + 1, 0, none⟩ c0).setCell ⟨g + 1, 1, none⟩ c1).setCell ⟨g + 1, 2, none⟩ c2).setCell ⟨g + 1, 3, none⟩ c3) v l :=
  (((t.res 0 c0).res 1 c1).res 2 c2).res 3 c3
end
theorem Dsk.put {A : Nat → Prop} {r : Nat} {s : St} {w : World} (h : Dsk A r s w) {a : Addr} (ha : ¬ A a.block) (v : Value) : Dsk A r s (w.setCell a v) :=
  Dsk.stay h (by simp [World.setCell]) fun b _ hA => heap_setCell_other w a b v (fun e => ha (by rw [← e]; exact hA))
/-- The same where only the disk is still of interest. -/
structure Ad (A B : Nat → Prop) (r : Nat) (s : St) (w W : World) (g h : Nat) (ac hc : Array Value) : Prop where
  dk : Dsk B r s W
  sub : ∀ b, B b → A b
  ba : Blk W g Act7 ac
  br : Blk W (g + 1) Hope7 hope0
  bh : Blk W h Hope7 hc
  na : ¬ B g
  nr : ¬ B (g + 1)
  nh : ¬ B h
  fr : Fr A w W
  lt : g + 1 < h
  ge : w.heap.size ≤ g
section
variable {A B : Nat → Prop} {r p : Nat} {s : St} {rows l : List Bs} {w W W' : World} {g h : Nat} {ac hc : Array Value} {v v' : Value}
theorem Am.ad (m : Am A B r p s rows w W g h ac hc) : Ad A B r s w W g h ac hc := ⟨lgd_dsk m.lg, m.sub, m.ba, m.br, m.bh, m.na, m.nr, m.nh, m.fr, m.lt, m.ge⟩
theorem Ad.put (m : Ad A B r s w W g h ac hc) (hA : A h) (i : Nat) (v : Value) : Ad A B r s w (W.setCell ⟨h, i, none⟩ v) g h ac (hc.setIfInBounds i v) :=
  ⟨Dsk.put m.dk (a := ⟨h, i, none⟩) m.nh v, m.sub, m.ba.far (p := ⟨h, i, none⟩) (by have := m.lt; show g ≠ h; omega) v, m.br.far (p := ⟨h, i, none⟩) (by have := m.lt; show g + 1 ≠ h; omega) v, m.bh.set_ i v, m.na, m.nr, m.nh, m.fr.setCell (p := ⟨h, i, none⟩) hA v, m.lt, m.ge⟩
theorem Ad.res (m : Ad A B r s w W g h ac hc) (hA : A (g + 1)) (c0 c1 c2 c3 : Value) :
    Dsk B r s ((((W.setCell ⟨g + 1, 0, none⟩ c0).setCell ⟨g + 1, 1, none⟩ c1).setCell ⟨g + 1, 2, none⟩ c2).setCell ⟨g + 1, 3, none⟩ c3) ∧
    Fr A w ((((W.setCell ⟨g + 1, 0, none⟩ c0).setCell ⟨g + 1, 1, none⟩ c1).setCell ⟨g + 1, 2, none⟩ c2).setCell ⟨g + 1, 3, none⟩ c3) ∧
    Blk ((((W.setCell ⟨g + 1, 0, none⟩ c0).setCell ⟨g + 1, 1, none⟩ c1).setCell ⟨g + 1, 2, none⟩ c2).setCell ⟨g + 1, 3, none⟩ c3) (g + 1) Hope7 #[c0, c1, c2, c3] := by
  refine ⟨?_, ?_, ?_⟩
  · exact Dsk.put (Dsk.put (Dsk.put (Dsk.put m.dk (a := ⟨g + 1, 0, none⟩) m.nr c0) (a := ⟨g + 1, 1, none⟩) m.nr c1) (a := ⟨g + 1, 2, none⟩) m.nr c2) (a := ⟨g + 1, 3, none⟩) m.nr c3
  · exact ((((m.fr.setCell (p := ⟨g + 1, 0, none⟩) hA c0).setCell (p := ⟨g + 1, 1, none⟩) hA c1).setCell (p := ⟨g + 1, 2, none⟩) hA c2).setCell (p := ⟨g + 1, 3, none⟩) hA c3)
  · exact ((((m.br.set_ 0 c0).set_ 1 c1).set_ 2 c2).set_ 3 c3)
/-- A row of one's own (v, between the result and the hope) grows to v'. -/
theorem Ad.grow (m : Ad A B r s w W g h ac hc) (hv : ∀ b, v.ownBlock = some b → ¬ B b ∧ g + 1 < b ∧ b < h) (hg : W.grownBy W' v.ownBlock) (hw : ∀ b, v'.ownBlock = some b → (W.heap.size ≤ b ∧ b < W'.heap.size) ∨ v.ownBlock = some b) (hnew : ∀ b, w.heap.size ≤ b → A b) :
    Ad A (fun b => B b ∧ ¬ v'.ownBlock = some b) r s w W' g h ac hc ∧ (∀ u l, Tx B g h W u l → (∀ b, vblock u = some b → ¬ v.ownBlock = some b) → Tx (fun b => B b ∧ ¬ v'.ownBlock = some b) g h W' u l) ∧ (∀ b, v'.ownBlock = some b → b ≠ g + 1 ∧ b ≠ h) := by
  have hl := m.bh.lt
  have hlt := m.lt
  have hge := m.ge
  have hsame : ∀ b, b < W.heap.size → B b → W'.heap[b]? = W.heap[b]? := fun b hb hB => hg.block b hb (fun e => (hv b e.symm).1 hB)
  have hD : Dsk (fun b => B b ∧ ¬ v'.ownBlock = some b) r s W' := by
    obtain ⟨hwf, K, hlay⟩ := m.dk
    have h' := hlay.stay hg.size hsame
    cases ho : v'.ownBlock with
    | none => exact ⟨hwf, K, by simpa using h'⟩
    | some q =>
      have hw' := hw q ho
      have := Lay.without hlay hg.size h' (g := q) (by rcases hw' with x | x; exact .inl x.1; exact .inr (hv q x).1) (by rcases hw' with x | x; exact x.2; have := (hv q x).2.2; have := hg.size; omega)
      have he : (fun b => B b ∧ ¬ some q = some b) = fun b => B b ∧ b ≠ q := by funext b; simp [eq_comm]
      rw [he]
      exact ⟨hwf, K, this⟩
  have hgb : ∀ b, b < W.heap.size → b ≤ g + 1 ∨ b = h → W'.heap[b]? = W.heap[b]? := fun b hb hh => hg.block b hb (fun e => by have := hv b e.symm; omega)
  refine ⟨⟨hD, fun b e => m.sub b e.1, (hgb g (by omega) (by omega)).trans m.ba, (hgb (g + 1) (by omega) (by omega)).trans m.br, (hgb h hl (by omega)).trans m.bh, fun e => m.na e.1, fun e => m.nr e.1, fun e => m.nh e.1, m.fr.grown hg (fun q e => hnew q (by have := (hv q e).2.1; omega)), hlt, hge⟩, fun u l t hu => ⟨Texts.stay t.1 hg.size fun b e => hg.block b (Texts.lt t.1 e) (fun e' => hu b e e'.symm), fun b e => ⟨fun x => (t.2 b e).1 x.1, (t.2 b e).2⟩⟩, fun b e => ?_⟩
  rcases hw b e with x | x
  · omega
  · have := hv b x; omega
end
def IsSl (v : Value) : Prop := ∃ a n c, v = .slice a n c
/-- What `after` leaves. -/
def AfR (A : Nat → Prop) (r p n : Nat) (w : World) (e : Ending) (w' : World) : Prop :=
  ∃ s' rows' B vs va vx vf b, e = .returned (.tuple #[vs, .agg #[va, vx, vf, .bool b]]) ∧ (IsSl vs ∧ IsSl va ∧ IsSl vx ∧ IsSl vf) ∧ (∀ b, B b → A b) ∧ Dsk B r s' w' ∧ Fr A w w' ∧
    ((∃ k, Lgd B r p 2 s' rows' w' ∧ Iv s' rows' k ∧ rows'.length ≤ n ∧ (∀ t ∈ rows', t.length ≤ 2000) ∧ Texts w' vs (rows'.take k) ∧ (∀ b, vblock vs = some b → ¬ B b)) ∨
     (∃ all safe, Fin_ s' all safe ∧ all.length ≤ 1000 ∧ (∀ t ∈ all, t.length ≤ 1000000000) ∧ Texts w' va all ∧ (∀ b, vblock va = some b → ¬ B b) ∧ Texts w' vx safe ∧ (∀ b, vblock vx = some b → ¬ B b) ∧
        (b = true → ∃ fresh, Texts w' vf fresh ∧ fresh.length ≤ 1000000 ∧ ∀ b, vblock vf = some b → ¬ B b)))
section
variable {A B : Nat → Prop} {r p n : Nat} {s : St} {rows : List Bs} {w W : World} {g h : Nat} {ac : Array Value} {va vx vf vs : Value} {b : Bool}
abbrev outW (W : World) (g : Nat) (va vx vf : Value) (b : Bool) : World := ((((W.setCell ⟨g + 1, 0, none⟩ va).setCell ⟨g + 1, 1, none⟩ vx).setCell ⟨g + 1, 2, none⟩ vf).setCell ⟨g + 1, 3, none⟩ (.bool b)).drew
theorem below_drew (W : World) : Below W.heap.size W W.drew := (Below.refl _ _).drew
theorem AfR.up {k : Nat} (m : Am A B r p s rows w W g h ac #[va, vx, vf, .bool b]) (hA : A (g + 1)) (hi : Iv s rows k) (hl : rows.length ≤ n) (hr : ∀ t ∈ rows, t.length ≤ 2000) (ts : Tx B g h W vs (rows.take k)) (sl : IsSl vs ∧ IsSl va ∧ IsSl vx ∧ IsSl vf) :
    AfR A r p n w (.returned (.tuple #[vs, .agg #[va, vx, vf, .bool b]])) (outW W g va vx vf b) := by
  obtain ⟨h1, h2, h3⟩ := m.res hA va vx vf (.bool b)
  exact ⟨s, rows, B, vs, va, vx, vf, b, rfl, sl, m.sub, lgd_dsk (h1.below (below_drew _)), h2.drew, .inl ⟨k, h1.below (below_drew _), hi, hl, hr, Texts.below (ts.res4 va vx vf (.bool b)).1 (below_drew _), fun b e => (ts.2 b e).1⟩⟩
theorem AfR.dn {all safe : List Bs} (m : Ad A B r s w W g h ac #[va, vx, vf, .bool b]) (hA : A (g + 1)) (hi : Fin_ s all safe) (hl : all.length ≤ 1000) (hr : ∀ t ∈ all, t.length ≤ 1000000000) (ta : Tx B g h W va all) (tx : Tx B g h W vx safe)
    (tf : b = true → ∃ fresh, Tx B g h W vf fresh ∧ fresh.length ≤ 1000000) (sl : IsSl vs ∧ IsSl va ∧ IsSl vx ∧ IsSl vf) :
    AfR A r p n w (.returned (.tuple #[vs, .agg #[va, vx, vf, .bool b]])) (outW W g va vx vf b) := by
  obtain ⟨h1, h2, h3⟩ := m.res hA va vx vf (.bool b)
  refine ⟨s, [], B, vs, va, vx, vf, b, rfl, sl, m.sub, h1.below (below_drew _), h2.drew, .inr ⟨all, safe, hi, hl, hr, Texts.below (ta.res4 va vx vf (.bool b)).1 (below_drew _), fun b e => (ta.2 b e).1, Texts.below (tx.res4 va vx vf (.bool b)).1 (below_drew _), fun b e => (tx.2 b e).1, fun hb => ?_⟩⟩
  obtain ⟨fresh, t1, t2⟩ := tf hb
  exact ⟨fresh, Texts.below (t1.res4 va vx vf (.bool b)).1 (below_drew _), t2, fun b e => (t1.2 b e).1⟩
end
/-- The log's All, which also says that its row is new. -/
theorem lgd_all2 {A : Nat → Prop} {r p f : Nat} {s : St} {rows : List Bs} {w : World} (h : Lgd A r p f s rows w) (hl : rows.length ≤ 1000000000) (hs : ∀ t ∈ rows, t.length ≤ 1000000000) : Calls Try.prog 18 #[.pointer (some ⟨p, 0, none⟩)] w fun e w' =>
    ∃ v A', e = .returned v ∧ (∀ b, A' b → A b) ∧ Lgd A' r p f s rows w' ∧ Texts w' v rows ∧ (∀ b, vblock v = some b → ¬ A' b ∧ w.heap.size ≤ b ∧ b < w'.heap.size) ∧ Below w.heap.size w w' ∧ w'.ownsRow w.heap.size 9 1 v rows.length (sc rows) ∧ (∀ b, v.ownBlock = some b → ¬ A' b) := by
  refine (wall_any h.choose_spec.choose_spec.2.2.log hl hs).mono ?_
  rintro e w' ⟨v, rfl, ht, ho, hb⟩
  refine ⟨v, fun b => A b ∧ ¬ v.ownBlock = some b, rfl, fun b hb => hb.1, h.hide hb (fun g hg => ho.lt g hg), ht, fun b hb' => ?_, hb, ho, fun b e hA => hA.2 e⟩
  have := vblock_own hb'
  exact ⟨fun hA => hA.2 this, ho.lt b this⟩
theorem results_tmp_cell {fn : Func} {u p : Tmp} {ty : TypeId} (h : fn.results = #[.tmp u, .cell p ty]) (tmps : Array Value) (P : Program) (w : World) :
    (results fn tmps).run P w = ((asAddr (tmps.getD p undef)).run P w).andThen fun a w₁ => ((loadVar ty a).run P w₁).andThen fun v w₂ => .ok (.tuple #[tmps.getD u undef, v]) w₂ := by
  simp only [results, h]
  simp [Sem.run_bind, Result.andThen]
theorem Blk.drewn {w : World} {g : Nat} {t : TypeId} {cs : Array Value} (h : Blk w g t cs) : Blk w.drew g t cs := h
theorem infoHope : (Try.prog.info? 50).map (·.size) = some 4 := by kernel_rfl
theorem ret_hope {fn : Func} {u p : Tmp} {R : Ending → World → Prop} (hf : fn.results = #[.tmp u, .cell p 50]) {a : Act} {W : World} {g : Nat} {cs : Array Value} {b : Value} (hp : a.tmps.getD p undef = .pointer (some ⟨g, 0, none⟩)) (hu : a.tmps.getD u undef = b) (hd : a.defers = [])
    (hc : cs.size = 4) (hg : Blk W g 50 cs) (hR : R (.returned (.tuple #[b, .agg cs])) W) : bodyPost Try.prog fn R .ret a W := by
  subst hu
  refine bodyPost_ret ?_ hd hR
  rw [results_tmp_cell hf, hp]
  simp [asAddr, run_loadVar_row W g _ _ cs (0, 0) _ hg Try.underlying50 rfl (by rw [infoHope, hc])]
end Go.Proofs.Ytdjchpejhfkknaa.Lw
