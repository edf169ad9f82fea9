/- Words for memory that the walks of disk share: blocks that are known whole, what a call leaves as it was, the cells of a disk and the slices that it owns. Conditions: those of each lemma. -/
import Derived.Test.YtdjchpejhfkknaaKMath
import Derived.Test.YtdjchpejhfkknaaProg
import Derived.WalkKit
import Derived.Lib.Hide
import Derived.Lib.SliceRun
import Derived.Lib.Strings
import Derived.Below
import Derived.Laws.OwnMore
import Derived.Laws.Rows
import Derived.Deep.AppendLies
import Derived.Deep.AppendSrc
import Derived.Deep.Draws
import Derived.Maps.AppendAt
import Derived.RegionTactic
import Derived.OwnWalk
import Derived.IntWalk
import Derived.Deep.CutBlock
import Derived.Deep.DeepCutAuto
import Derived.Deep.QuietTactic
import Derived.BigQuiet
import Derived.WalkLawsBesides
import Derived.WalkSpells
import Derived.Laws.BitsAllLaws
namespace Go.Proofs.Ytdjchpejhfkknaa.Dk
open Go.RowKit Km
set_option linter.unusedVariables false
set_option maxRecDepth 100000

theorem ret_s {a b : ByteArray} (h : a = b) : Ending.returned (.string a) = .returned (.string b) := by rw [h]
theorem ret_i {k : IntKind} {a b : Int} (h : a = b) : Ending.returned (.int k a) = .returned (.int k b) := by rw [h]
theorem ret_b {a b : Bool} (h : a = b) : Ending.returned (.bool a) = .returned (.bool b) := by rw [h]
/-- A text as a value. -/
def sv (l : Bs) : ByteArray := ⟨l.toArray⟩
theorem sv_size (l : Bs) : (sv l).size = l.length := rfl
theorem sv_list (l : Bs) : (sv l).data.toList = l := by simp [sv]
theorem sv_toList (l : Bs) : (sv l).toList = l := by rw [Lib.toList_data, sv_list]
theorem sv_of (s : ByteArray) : sv s.data.toList = s := Lib.mk_data s
theorem sv_ext {s t : ByteArray} (h : s.data.toList = t.data.toList) : s = t := by rw [← sv_of s, ← sv_of t, h]
theorem sv_append (a b : Bs) : sv a ++ sv b = sv (a ++ b) := by apply sv_ext; simp [sv]
theorem sv_inj {a b : Bs} (h : sv a = sv b) : a = b := by rw [← sv_list a, h, sv_list]

theorem below_self (w : World) : Below w.heap.size w w := Below.refl _ _
theorem below_trans {w w' w'' : World} (h : Below w.heap.size w w') (h' : Below w'.heap.size w' w'') : Below w.heap.size w w'' := h.trans (h'.mono h.size)
theorem below_alloc (w : World) (o : Obj) : Below w.heap.size w (w.alloc o) := (Below.refl _ _).alloc (Nat.le_refl _) _
theorem below_drewN (w : World) (k : Nat) : Below w.heap.size w (w.drewN k) := ⟨rfl, rfl, rfl, Nat.le_refl _, fun _ _ => rfl⟩
theorem add_zero_addr (g i : Nat) : (⟨g, 0, none⟩ : Addr).add i = ⟨g, i, none⟩ := by unfold Addr.add; split <;> simp_all

/-- The block g is just these cells. -/
def Blk (w : World) (g : Nat) (t : TypeId) (cs : Array Value) : Prop := w.heap[g]? = some (.cells cs t (0, 0))
section
variable {w w' : World} {g : Nat} {t : TypeId} {cs : Array Value}
theorem Blk.lt (h : Blk w g t cs) : g < w.heap.size := (Array.getElem?_eq_some_iff.1 h).1
theorem Blk.cell (h : Blk w g t cs) (i : Nat) : w.cell? ⟨g, i, none⟩ = cs[i]? := cell_of_row w g i cs t (0, 0) h
theorem Blk.frozen (h : Blk w g t cs) (i : Nat) : w.frozen? ⟨g, i, none⟩ = false := frozen_of_row w g i _ _ h
theorem Blk.new (w : World) (t : TypeId) (cs : Array Value) : Blk (w.alloc (.cells cs t)) w.heap.size t cs := heap_alloc_new w _
theorem Blk.alloc (h : Blk w g t cs) (o : Obj) : Blk (w.alloc o) g t cs := (heap_alloc_old w o h.lt).trans h
theorem Blk.set_ (h : Blk w g t cs) (i : Nat) (u : Value) : Blk (w.setCell ⟨g, i, none⟩ u) g t (cs.setIfInBounds i u) := heap_setCell_same w g i _ _ u h
theorem Blk.far (h : Blk w g t cs) {p : Addr} (hp : g ≠ p.block) (u : Value) : Blk (w.setCell p u) g t cs := (heap_setCell_other w p g u hp).trans h
theorem Blk.below {B : Nat} (h : Blk w g t cs) (hb : Below B w w') (hg : g < B) : Blk w' g t cs := (hb.block g hg).trans h
theorem Blk.row (h : Blk w g t cs) (ds : Array Value) : Blk (w.setRow g ds) g t ds := setRow_heap w g cs ds t (0, 0) h
end

/-- What a call may have turned: new blocks, and those that A allows. -/
structure Fr (A : Nat → Prop) (w w' : World) : Prop where
  os : w'.os = w.os
  tape : w'.tape = w.tape
  output : w'.output = w.output
  size : w.heap.size ≤ w'.heap.size
  block : ∀ k, k < w.heap.size → ¬ A k → w'.heap[k]? = w.heap[k]?
section
variable {A : Nat → Prop} {a w w' : World}
theorem Fr.refl (A : Nat → Prop) (w : World) : Fr A w w := ⟨rfl, rfl, rfl, Nat.le_refl _, fun _ _ _ => rfl⟩
theorem Fr.trans (h : Fr A a w) (h' : Fr A w w') : Fr A a w' :=
  ⟨h'.os.trans h.os, h'.tape.trans h.tape, h'.output.trans h.output, Nat.le_trans h.size h'.size, fun k hk hn => (h'.block k (Nat.lt_of_lt_of_le hk h.size) hn).trans (h.block k hk hn)⟩
theorem Fr.drew (h : Fr A a w) : Fr A a w.drew := ⟨h.os, h.tape, h.output, h.size, h.block⟩
theorem Fr.drewN (h : Fr A a w) (n : Nat) : Fr A a (w.drewN n) := ⟨h.os, h.tape, h.output, h.size, h.block⟩
theorem Fr.alloc (h : Fr A a w) (o : Obj) : Fr A a (w.alloc o) :=
  ⟨h.os, h.tape, h.output, Nat.le_trans h.size (by simp), fun k hk hn => (heap_alloc_old w o (Nat.lt_of_lt_of_le hk h.size)).trans (h.block k hk hn)⟩
theorem Fr.setCell (h : Fr A a w) {p : Addr} (hp : A p.block) (u : Value) : Fr A a (w.setCell p u) :=
  ⟨h.os, h.tape, h.output, by simpa [World.setCell] using h.size, fun k hk hn => (heap_setCell_other w p k u (fun e => hn (by rw [e]; exact hp))).trans (h.block k hk hn)⟩
theorem Fr.setRow (h : Fr A a w) {g : Nat} (hg : A g) (cs : Array Value) : Fr A a (w.setRow g cs) :=
  ⟨h.os, h.tape, h.output, by simpa [World.setRow] using h.size, fun k hk hn => (setRow_other w g k cs (fun e => hn (by rw [e]; exact hg))).trans (h.block k hk hn)⟩
theorem Fr.below (h : Fr A a w) (hb : Below w.heap.size w w') : Fr A a w' :=
  ⟨hb.os.trans h.os, hb.tape.trans h.tape, hb.output.trans h.output, Nat.le_trans h.size hb.size, fun k hk hn => (hb.block k (Nat.lt_of_lt_of_le hk h.size)).trans (h.block k hk hn)⟩
theorem Fr.grown (h : Fr A a w) {row : Option Nat} (hg : w.grownBy w' row) (hr : ∀ k, row = some k → A k) : Fr A a w' :=
  ⟨hg.os.trans h.os, hg.tape.trans h.tape, hg.output.trans h.output, Nat.le_trans h.size hg.size, fun k hk hn => (hg.block k (Nat.lt_of_lt_of_le hk h.size) (fun e => hn (hr k e.symm))).trans (h.block k hk hn)⟩
theorem Fr.to_below {B : Nat} (h : Fr (fun b => B ≤ b) a w) (hB : B ≤ a.heap.size) : Below B a w :=
  ⟨h.os, h.tape, h.output, h.size, fun k hk => h.block k (by omega) (by omega)⟩
theorem Fr.cell (h : Fr A a w) {p : Addr} {v : Value} (hc : a.cell? p = some v) (hn : ¬ A p.block) : w.cell? p = some v :=
  (World.cell?_of_block (h.block p.block (World.block_lt_of_cell? a p hc) hn)).trans hc
theorem Fr.blk (h : Fr A a w) {g : Nat} {t : TypeId} {cs : Array Value} (hc : Blk a g t cs) (hn : ¬ A g) : Blk w g t cs := (h.block g hc.lt hn).trans hc
end

/-- Bytes, pending appends and ints as cells. -/
def bc (l : Bs) : List Value := l.map fun b => .int .u8 (b.toNat : Int)
def pc (l : Pd) : List Value := l.flatMap fun p => [.int .i64 (p.1 : Nat), .int .i64 (p.2 : Nat)]
def ic (l : List Int) : List Value := l.map (Value.int .i64)
theorem bc_append (a b : Bs) : bc (a ++ b) = bc a ++ bc b := by simp [bc]
theorem bc_length (a : Bs) : (bc a).length = a.length := by simp [bc]
theorem bc_take (a : Bs) (n : Nat) : (bc a).take n = bc (a.take n) := by simp [bc, List.map_take]
theorem pc_append (a b : Pd) : pc (a ++ b) = pc a ++ pc b := by simp [pc]
theorem pc_length (a : Pd) : (pc a).length = a.length * 2 := by
  induction a with
  | nil => rfl
  | cons p t ih => simp only [pc, List.flatMap_cons, List.length_append, List.length_cons, List.length_nil] at ih ⊢; omega
theorem bc_one (a : Bs) : ∀ u ∈ bc a, u.oneCell' = true := by
  intro u hu
  obtain ⟨b, _, rfl⟩ := List.mem_map.1 hu
  rfl
theorem byteCells_sv (b : Bs) : byteCells (sv b) = bc b := by simp [byteCells, bc, sv]
theorem ic_length (a : List Int) : (ic a).length = a.length := by simp [ic]
theorem pc_at (l : Pd) (i : Nat) (p : Nat × Nat) (h : l[i]? = some p) : (pc l)[i * 2]? = some (.int .i64 (p.1 : Nat)) ∧ (pc l)[i * 2 + 1]? = some (.int .i64 (p.2 : Nat)) := by
  induction l generalizing i with
  | nil => cases h
  | cons q t ih =>
    have e : pc (q :: t) = .int .i64 (q.1 : Nat) :: .int .i64 (q.2 : Nat) :: pc t := rfl
    rw [e]
    cases i with
    | zero => simp at h; subst h; exact ⟨rfl, rfl⟩
    | succ i =>
      have e1 : (i + 1) * 2 = i * 2 + 1 + 1 := by omega
      rw [e1]
      simpa using ih i (by simpa using h)

/-- The block of a disk: 21 cells. -/
def Row (w : World) (r : Nat) (K : Nat → Value) : Prop := ∃ cs, Blk w r 75 cs ∧ cs.size = 21 ∧ ∀ i, i < 21 → cs[i]? = some (K i)
section
variable {w w' : World} {r : Nat} {K : Nat → Value}
theorem Row.lt (h : Row w r K) : r < w.heap.size := h.choose_spec.1.lt
theorem Row.cell (h : Row w r K) {i : Nat} (hi : i < 21) : w.cell? ⟨r, i, none⟩ = some (K i) := by
  obtain ⟨cs, h1, h2, h3⟩ := h
  rw [h1.cell, h3 i hi]
theorem Row.frozen (h : Row w r K) (i : Nat) : w.frozen? ⟨r, i, none⟩ = false := h.choose_spec.1.frozen i
theorem Row.set_ (h : Row w r K) {i : Nat} (hi : i < 21) (u : Value) : Row (w.setCell ⟨r, i, none⟩ u) r (upd K i u) := by
  obtain ⟨cs, h1, h2, h3⟩ := h
  refine ⟨_, h1.set_ i u, by simpa using h2, fun j hj => ?_⟩
  rw [Array.getElem?_setIfInBounds]
  by_cases e : i = j
  · subst e; rw [if_pos rfl, if_pos (by omega), upd_same]
  · rw [if_neg e, h3 j hj, upd_other _ _ _ _ (fun h => e h.symm)]
theorem Row.block (h : Row w r K) (hb : w'.heap[r]? = w.heap[r]?) : Row w' r K := by
  obtain ⟨cs, h1, h2⟩ := h
  exact ⟨cs, hb.trans h1, h2⟩
end
/-- The blocks that a disk owns are its own, and each is one slice's alone. -/
structure Sep (A : Nat → Prop) (r : Nat) (K : Nat → Value) (n : Nat) : Prop where
  own : ∀ i, i < 21 → ∀ b, (K i).ownBlock = some b → A b ∧ b ≠ r ∧ b < n
  dif : ∀ i j, i < 21 → j < 21 → i ≠ j → ∀ b, (K i).ownBlock = some b → (K j).ownBlock ≠ some b
  rA : A r ∧ r < n
  new : ∀ b, n ≤ b → A b
section
variable {A : Nat → Prop} {r n n' : Nat} {K : Nat → Value}
theorem Sep.mono (h : Sep A r K n) (hn : n ≤ n') : Sep A r K n' :=
  ⟨fun i hi b hb => by obtain ⟨h1, h2, h3⟩ := h.own i hi b hb; exact ⟨h1, h2, by omega⟩, h.dif, ⟨h.rA.1, by have := h.rA.2; omega⟩, fun b hb => h.new b (by omega)⟩
/-- A value that slot i may be given: its block is no other slot's. -/
def Free (A : Nat → Prop) (r : Nat) (K : Nat → Value) (n : Nat) (i : Nat) (v : Value) : Prop := ∀ b, v.ownBlock = some b → (A b ∧ b ≠ r ∧ b < n) ∧ ∀ j, j < 21 → j ≠ i → (K j).ownBlock ≠ some b
theorem Free.none {i : Nat} {v : Value} (h : v.ownBlock = none) : Free A r K n i v := fun b hb => by rw [h] at hb; cases hb
theorem Sep.free (h : Sep A r K n) (hn : n ≤ n') {i : Nat} (hi : i < 21) {v : Value} (hv : ∀ b, v.ownBlock = some b → (n ≤ b ∧ b < n') ∨ (K i).ownBlock = some b) : Free A r K n' i v := by
  intro b hb
  have hr := h.rA
  rcases hv b hb with h1 | h1
  · exact ⟨⟨h.new b h1.1, by omega, h1.2⟩, fun j hj _ e => by have := (h.own j hj b e).2.2; omega⟩
  · obtain ⟨a1, a2, a3⟩ := h.own i hi b h1
    exact ⟨⟨a1, a2, by omega⟩, fun j hj hji e => h.dif j i hj hi hji b e h1⟩
/-- A slot is given another value. -/
theorem Sep.put (h : Sep A r K n) (hn : n ≤ n') (i : Nat) (hi : i < 21) (v : Value) (hv : Free A r K n' i v) : Sep A r (upd K i v) n' := by
  have hr := h.rA
  refine ⟨?_, ?_, ⟨hr.1, by omega⟩, fun b hb => h.new b (by omega)⟩
  · intro j hj b hb
    by_cases e : j = i
    · subst e
      rw [upd_same] at hb
      exact (hv b hb).1
    · rw [upd_other _ _ _ _ e] at hb
      obtain ⟨a1, a2, a3⟩ := h.own j hj b hb; exact ⟨a1, a2, by omega⟩
  · intro j k hj hk hjk b hb hb'
    by_cases e : j = i
    · subst e
      rw [upd_same] at hb
      rw [upd_other _ _ _ _ (fun e => hjk e.symm)] at hb'
      exact (hv b hb).2 k hk (fun e => hjk e.symm) hb'
    · rw [upd_other _ _ _ _ e] at hb
      by_cases e2 : k = i
      · subst e2
        rw [upd_same] at hb'
        exact (hv b hb').2 j hj e hb
      · rw [upd_other _ _ _ _ e2] at hb'
        exact h.dif j k hj hk hjk b hb hb'
end
theorem owns_block {w w' : World} {base : Nat} {e : TypeId} {size : Nat} {v : Value} {n : Nat} {xs : List Value} (h : w.ownsRow base e size v n xs) (hb : ∀ b, v.ownBlock = some b → w'.heap[b]? = w.heap[b]?) : w'.ownsRow base e size v n xs := by
  refine ⟨h.1, ?_⟩
  rcases h.2 with hn | ⟨g, cap, cur, rfl, h2, h3, rest⟩
  · exact .inl hn
  · exact .inr ⟨g, cap, cur, rfl, h2, (hb g rfl).trans h3, rest⟩
theorem owns_slice {w : World} {base : Nat} {e : TypeId} {size : Nat} {v : Value} {n : Nat} {xs : List Value} (h : w.ownsRow base e size v n xs) : ∃ a c, v = .slice a n c := by
  rcases h.2 with ⟨h1, h2⟩ | ⟨g, cap, cur, h1, _⟩
  · exact ⟨none, 0, by rw [h1, h2]⟩
  · exact ⟨_, _, h1⟩
theorem owns_base {w : World} {base : Nat} {e : TypeId} {size : Nat} {v : Value} {n : Nat} {xs : List Value} (h : w.ownsRow base e size v n xs) : w.ownsRow 0 e size v n xs := by
  refine ⟨h.1, ?_⟩
  rcases h.2 with hn | ⟨g, cap, cur, h1, h2, rest⟩
  · exact .inl hn
  · exact .inr ⟨g, cap, cur, h1, Nat.zero_le _, rest⟩

/-- What the cells of a disk hold. -/
structure Cont (s : St) (K : Nat → Value) (w : World) : Prop where
  fil : ∀ f, f < 8 → w.ownsRow 0 5 1 (K (f * 2)) (s.F f).length (bc (s.F f))
  dur : ∀ f, f < 8 → K (f * 2 + 1) = .int .i64 ((s.U f : Nat) : Int)
  lst : w.ownsRow 0 98 2 (K 16) s.L.length (pc s.L)
  dn : K 17 = .bool s.down
  lo : K 18 = .int .i64 ((s.lose : Nat) : Int)
  cr : K 19 = .int .i64 ((s.crash : Nat) : Int)
  kp : w.ownsRow 0 3 1 (K 20) s.keep.length (ic s.keep)
/-- A disk in memory, whether or not its list fits. -/
structure Lay (A : Nat → Prop) (r : Nat) (s : St) (K : Nat → Value) (w : World) : Prop where
  row : Row w r K
  sep : Sep A r K w.heap.size
  cont : Cont s K w
/-- A disk. -/
def Dsk (A : Nat → Prop) (r : Nat) (s : St) (w : World) : Prop := Wf s ∧ ∃ K, Lay A r s K w

section
variable {A : Nat → Prop} {r : Nat} {s : St} {K : Nat → Value} {w w' : World}
/-- The disk stays where none of its blocks is touched. -/
theorem Lay.stay (h : Lay A r s K w) (hs : w.heap.size ≤ w'.heap.size) (hb : ∀ b, b < w.heap.size → A b → w'.heap[b]? = w.heap[b]?) : Lay A r s K w' := by
  have hk : ∀ i, i < 21 → ∀ b, (K i).ownBlock = some b → w'.heap[b]? = w.heap[b]? := fun i hi b e => by
    obtain ⟨h1, _, h3⟩ := h.sep.own i hi b e
    exact hb b h3 h1
  exact ⟨h.row.block (hb r h.sep.rA.2 h.sep.rA.1), h.sep.mono hs,
    ⟨fun f hf => owns_block (h.cont.fil f hf) (hk _ (by omega)), h.cont.dur, owns_block h.cont.lst (hk _ (by omega)), h.cont.dn, h.cont.lo, h.cont.cr, owns_block h.cont.kp (hk _ (by omega))⟩⟩
theorem Lay.below (h : Lay A r s K w) (hb : Below w.heap.size w w') : Lay A r s K w' := h.stay hb.size fun b hl _ => hb.block b hl
theorem Lay.alloc (h : Lay A r s K w) (o : Obj) : Lay A r s K (w.alloc o) := h.below (below_alloc w o)
theorem Dsk.below (h : Dsk A r s w) (hb : Below w.heap.size w w') : Dsk A r s w' := ⟨h.1, h.2.choose, h.2.choose_spec.below hb⟩
theorem Dsk.alloc (h : Dsk A r s w) (o : Obj) : Dsk A r s (w.alloc o) := h.below (below_alloc w o)
theorem Lay.cell (h : Lay A r s K w) {i : Nat} (hi : i < 21) : w.cell? ⟨r, i, none⟩ = some (K i) := h.row.cell hi

/-- The cells of a disk when one of them has been written; the slices stay where they were. -/
theorem cont_set (h : Lay A r s K w) {i : Nat} (hi : i < 21) (u : Value) : ∀ j, j < 21 → j ≠ i → ∀ {e : TypeId} {z n : Nat} {xs : List Value}, w.ownsRow 0 e z (K j) n xs → (w.setCell ⟨r, i, none⟩ u).ownsRow 0 e z (upd K i u j) n xs := by
  intro j hj hji e z n xs ho
  rw [upd_other _ _ _ _ hji]
  exact owns_block ho fun b hb => heap_setCell_other w _ b u (fun e => (h.sep.own j hj b hb).2.1 e)
theorem sep_set (h : Lay A r s K w) {i : Nat} (hi : i < 21) {u : Value} (hu : u.ownBlock = none) : Sep A r (upd K i u) (w.setCell ⟨r, i, none⟩ u).heap.size := by
  have e : (w.setCell ⟨r, i, none⟩ u).heap.size = w.heap.size := by simp [World.setCell]
  rw [e]
  exact h.sep.put (Nat.le_refl _) i hi u (Free.none hu)
theorem Lay.setDur (h : Lay A r s K w) {f : Nat} (hf : f < 8) (n : Nat) : Lay A r { s with U := upd s.U f n } (upd K (f * 2 + 1) (.int .i64 (n : Nat))) (w.setCell ⟨r, f * 2 + 1, none⟩ (.int .i64 (n : Nat))) := by
  have hc := cont_set h (i := f * 2 + 1) (by omega) (.int .i64 (n : Nat))
  refine ⟨h.row.set_ (by omega) _, sep_set h (by omega) rfl, ⟨fun g hg => hc _ (by omega) (by omega) (h.cont.fil g hg), fun g hg => ?_, hc _ (by omega) (by omega) h.cont.lst, ?_, ?_, ?_, hc _ (by omega) (by omega) h.cont.kp⟩⟩
  · by_cases e : g = f
    · subst e; rw [upd_same]; show _ = Value.int .i64 ((upd s.U g n g : Nat) : Int); rw [upd_same]
    · rw [upd_other _ _ _ _ (by omega)]; show _ = Value.int .i64 ((upd s.U f n g : Nat) : Int); rw [upd_other _ _ _ _ e]; exact h.cont.dur g hg
  · rw [upd_other _ _ _ _ (by omega)]; exact h.cont.dn
  · rw [upd_other _ _ _ _ (by omega)]; exact h.cont.lo
  · rw [upd_other _ _ _ _ (by omega)]; exact h.cont.cr
theorem Lay.setDown (h : Lay A r s K w) (b : Bool) : Lay A r { s with down := b } (upd K 17 (.bool b)) (w.setCell ⟨r, 17, none⟩ (.bool b)) := by
  have hc := cont_set h (i := 17) (by omega) (.bool b)
  refine ⟨h.row.set_ (by omega) _, sep_set h (by omega) rfl, ⟨fun g hg => hc _ (by omega) (by omega) (h.cont.fil g hg), fun g hg => ?_, hc _ (by omega) (by omega) h.cont.lst, upd_same _ _ _, ?_, ?_, hc _ (by omega) (by omega) h.cont.kp⟩⟩
  · rw [upd_other _ _ _ _ (by omega)]; exact h.cont.dur g hg
  · rw [upd_other _ _ _ _ (by omega)]; exact h.cont.lo
  · rw [upd_other _ _ _ _ (by omega)]; exact h.cont.cr
theorem Lay.setLose (h : Lay A r s K w) (n : Nat) : Lay A r { s with lose := n } (upd K 18 (.int .i64 (n : Nat))) (w.setCell ⟨r, 18, none⟩ (.int .i64 (n : Nat))) := by
  have hc := cont_set h (i := 18) (by omega) (.int .i64 (n : Nat))
  refine ⟨h.row.set_ (by omega) _, sep_set h (by omega) rfl, ⟨fun g hg => hc _ (by omega) (by omega) (h.cont.fil g hg), fun g hg => ?_, hc _ (by omega) (by omega) h.cont.lst, ?_, upd_same _ _ _, ?_, hc _ (by omega) (by omega) h.cont.kp⟩⟩
  · rw [upd_other _ _ _ _ (by omega)]; exact h.cont.dur g hg
  · rw [upd_other _ _ _ _ (by omega)]; exact h.cont.dn
  · rw [upd_other _ _ _ _ (by omega)]; exact h.cont.cr
theorem Lay.setCrash (h : Lay A r s K w) (n : Nat) : Lay A r { s with crash := n } (upd K 19 (.int .i64 (n : Nat))) (w.setCell ⟨r, 19, none⟩ (.int .i64 (n : Nat))) := by
  have hc := cont_set h (i := 19) (by omega) (.int .i64 (n : Nat))
  refine ⟨h.row.set_ (by omega) _, sep_set h (by omega) rfl, ⟨fun g hg => hc _ (by omega) (by omega) (h.cont.fil g hg), fun g hg => ?_, hc _ (by omega) (by omega) h.cont.lst, ?_, ?_, upd_same _ _ _, hc _ (by omega) (by omega) h.cont.kp⟩⟩
  · rw [upd_other _ _ _ _ (by omega)]; exact h.cont.dur g hg
  · rw [upd_other _ _ _ _ (by omega)]; exact h.cont.dn
  · rw [upd_other _ _ _ _ (by omega)]; exact h.cont.lo

/-- A slice of the disk has turned, in its own block or in a new one, and its cell has been written: what the other slices are. -/
theorem slot_set (h : Lay A r s K w) {i : Nat} (hi : i < 21) {v : Value} (hs : w.heap.size ≤ w'.heap.size) (hg : ∀ b, b < w.heap.size → (K i).ownBlock ≠ some b → w'.heap[b]? = w.heap[b]?) :
    Row (w'.setCell ⟨r, i, none⟩ v) r (upd K i v) ∧ ∀ j, j < 21 → j ≠ i → ∀ {e : TypeId} {z n : Nat} {xs : List Value}, w.ownsRow 0 e z (K j) n xs → (w'.setCell ⟨r, i, none⟩ v).ownsRow 0 e z (upd K i v j) n xs := by
  have hr : (K i).ownBlock ≠ some r := fun e => (h.sep.own i hi r e).2.1 rfl
  refine ⟨(h.row.block (hg r h.sep.rA.2 hr)).set_ hi v, ?_⟩
  intro j hj hji e z n xs ho
  rw [upd_other _ _ _ _ hji]
  refine owns_block ho fun b hb => ?_
  have hl := h.sep.own j hj b hb
  rw [heap_setCell_other w' _ b v (fun e => hl.2.1 e)]
  exact hg b hl.2.2 (h.sep.dif j i hj hi hji b hb)
theorem sep_slot (h : Lay A r s K w) {i : Nat} (hi : i < 21) {v : Value} (hs : w.heap.size ≤ w'.heap.size) (hv : Free A r K w'.heap.size i v) :
    Sep A r (upd K i v) (w'.setCell ⟨r, i, none⟩ v).heap.size := by
  have e : (w'.setCell ⟨r, i, none⟩ v).heap.size = w'.heap.size := by simp [World.setCell]
  rw [e]
  exact h.sep.put hs i hi v hv
/-- A file's slice has turned. -/
theorem Lay.setFil (h : Lay A r s K w) {f : Nat} (hf : f < 8) {v : Value} {l : Bs} (hs : w.heap.size ≤ w'.heap.size) (hg : ∀ b, b < w.heap.size → (K (f * 2)).ownBlock ≠ some b → w'.heap[b]? = w.heap[b]?)
    (hv : Free A r K w'.heap.size (f * 2) v) (hl : w'.ownsRow 0 5 1 v l.length (bc l)) :
    Lay A r { s with F := upd s.F f l } (upd K (f * 2) v) (w'.setCell ⟨r, f * 2, none⟩ v) := by
  obtain ⟨hrow, hc⟩ := slot_set (v := v) h (i := f * 2) (by omega) hs hg
  have hvr : ∀ b, v.ownBlock = some b → b ≠ r := fun b hb => (hv b hb).1.2.1
  refine ⟨hrow, sep_slot h (by omega) hs hv, ⟨fun g hg => ?_, fun g hg => ?_, hc _ (by omega) (by omega) h.cont.lst, ?_, ?_, ?_, hc _ (by omega) (by omega) h.cont.kp⟩⟩
  · by_cases e : g = f
    · subst e
      show (w'.setCell _ v).ownsRow 0 _ 1 _ (upd s.F g l g).length (bc (upd s.F g l g))
      rw [upd_same, upd_same]
      exact owns_block hl fun b hb => heap_setCell_other w' _ b v (hvr b hb)
    · show (w'.setCell _ v).ownsRow 0 _ 1 _ (upd s.F f l g).length (bc (upd s.F f l g))
      rw [upd_other _ _ _ _ e]
      exact hc _ (by omega) (by omega) (h.cont.fil g hg)
  · rw [upd_other _ _ _ _ (by omega)]; exact h.cont.dur g hg
  · rw [upd_other _ _ _ _ (by omega)]; exact h.cont.dn
  · rw [upd_other _ _ _ _ (by omega)]; exact h.cont.lo
  · rw [upd_other _ _ _ _ (by omega)]; exact h.cont.cr
/-- The list has turned. -/
theorem Lay.setList (h : Lay A r s K w) {v : Value} {l : Pd} (hs : w.heap.size ≤ w'.heap.size) (hg : ∀ b, b < w.heap.size → (K 16).ownBlock ≠ some b → w'.heap[b]? = w.heap[b]?)
    (hv : Free A r K w'.heap.size 16 v) (hl : w'.ownsRow 0 98 2 v l.length (pc l)) :
    Lay A r { s with L := l } (upd K 16 v) (w'.setCell ⟨r, 16, none⟩ v) := by
  obtain ⟨hrow, hc⟩ := slot_set (v := v) h (i := 16) (by omega) hs hg
  have hvr : ∀ b, v.ownBlock = some b → b ≠ r := fun b hb => (hv b hb).1.2.1
  refine ⟨hrow, sep_slot h (by omega) hs hv, ⟨fun g hg => hc _ (by omega) (by omega) (h.cont.fil g hg), fun g hg => ?_, ?_, ?_, ?_, ?_, hc _ (by omega) (by omega) h.cont.kp⟩⟩
  · rw [upd_other _ _ _ _ (by omega)]; exact h.cont.dur g hg
  · rw [upd_same]
    exact owns_block hl fun b hb => heap_setCell_other w' _ b v (hvr b hb)
  · rw [upd_other _ _ _ _ (by omega)]; exact h.cont.dn
  · rw [upd_other _ _ _ _ (by omega)]; exact h.cont.lo
  · rw [upd_other _ _ _ _ (by omega)]; exact h.cont.cr
/-- What is kept for a crash has turned. -/
theorem Lay.setKeep (h : Lay A r s K w) {v : Value} {l : List Int} (hs : w.heap.size ≤ w'.heap.size) (hg : ∀ b, b < w.heap.size → (K 20).ownBlock ≠ some b → w'.heap[b]? = w.heap[b]?)
    (hv : Free A r K w'.heap.size 20 v) (hl : w'.ownsRow 0 3 1 v l.length (ic l)) :
    Lay A r { s with keep := l } (upd K 20 v) (w'.setCell ⟨r, 20, none⟩ v) := by
  obtain ⟨hrow, hc⟩ := slot_set (v := v) h (i := 20) (by omega) hs hg
  have hvr : ∀ b, v.ownBlock = some b → b ≠ r := fun b hb => (hv b hb).1.2.1
  refine ⟨hrow, sep_slot h (by omega) hs hv, ⟨fun g hg => hc _ (by omega) (by omega) (h.cont.fil g hg), fun g hg => ?_, hc _ (by omega) (by omega) h.cont.lst, ?_, ?_, ?_, ?_⟩⟩
  · rw [upd_other _ _ _ _ (by omega)]; exact h.cont.dur g hg
  · rw [upd_other _ _ _ _ (by omega)]; exact h.cont.dn
  · rw [upd_other _ _ _ _ (by omega)]; exact h.cont.lo
  · rw [upd_other _ _ _ _ (by omega)]; exact h.cont.cr
  · rw [upd_same]
    exact owns_block hl fun b hb => heap_setCell_other w' _ b v (hvr b hb)
end
end Go.Proofs.Ytdjchpejhfkknaa.Dk
