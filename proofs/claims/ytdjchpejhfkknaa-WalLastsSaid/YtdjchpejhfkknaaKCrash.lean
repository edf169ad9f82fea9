/- Crash: of each pending append as much survives as is kept; the disk goes down. Conditions: the disk lies in memory of its own; what is kept lies elsewhere. -/
import Derived.Test.YtdjchpejhfkknaaKSurv
namespace Go.Proofs.Ytdjchpejhfkknaa.Dk
open Go.RowKit Km
set_option linter.unusedVariables false
set_option maxRecDepth 100000

/-- Where the next pending append of each file begins, as cells. -/
def atc (a : Nat → Nat) : Array Value := ((List.range 8).map fun j => Value.int .i64 ((a j : Nat) : Int)).toArray
theorem atc_at (a : Nat → Nat) (f : Nat) (hf : f < 8) : (atc a)[f]? = some (.int .i64 ((a f : Nat) : Int)) := by
  simp [atc, hf]
theorem atc_set (a : Nat → Nat) (f x : Nat) : (atc a).setIfInBounds f (.int .i64 ((x : Nat) : Int)) = atc (upd a f x) := by
  apply Array.ext
  · simp [atc]
  · intro i h1 h2
    rw [Array.getElem_setIfInBounds]
    · by_cases e : f = i
      · subst e; simp [atc, upd]
      · simp [atc, upd, e, Ne.symm e]
    · simpa [atc] using h1
theorem atc_ext {a b : Nat → Nat} (h : ∀ j, j < 8 → a j = b j) : atc a = atc b := by
  unfold atc
  congr 1
  refine List.map_congr_left fun j hj => ?_
  rw [h j (by simpa using hj)]
theorem wrap_sum (a b : Nat) (h : a + b ≤ 1000000000) : wrap64 (((a : Nat) : Int) + ((b : Nat) : Int)) = ((a + b : Nat) : Int) := by unfold wrap64; omega
theorem wrap_sum' (a b : Nat) (h : a + b ≤ 1000000000) : IntKind.i64.wrap (((a : Nat) : Int) + ((b : Nat) : Int)) = ((a + b : Nat) : Int) := by rw [IntKind.wrap_i64]; omega
/-- A disk in the middle of a crash. -/
def mid (s : St) (c : Cs) : St := { s with F := c.F, U := c.U }
section
variable {A : Nat → Prop} {r : Nat} {s : St} {K : Nat → Value} {w w' : World}
theorem Ints.keep {v : Value} {l : List Int} (h : Ints w v l) (hs : w.heap.size ≤ w'.heap.size) (hb : ∀ b, vblock v = some b → w'.heap[b]? = w.heap[b]?) : Ints w' v l := by
  obtain ⟨a, c, rfl, hc⟩ := h
  refine ⟨a, c, rfl, fun h0 => ?_⟩
  obtain ⟨b, o, rfl, h1, h2⟩ := hc h0
  refine ⟨b, o, rfl, by omega, fun j z hz => ?_⟩
  rw [World.cell?_of_block (w := w) (hb b (vblock_some h0))]
  exact h2 j z hz
theorem Ints.below {v : Value} {l : List Int} (h : Ints w v l) (hb : Below w.heap.size w w') : Ints w' v l := by
  obtain ⟨a, c, rfl, hc⟩ := h
  refine ⟨a, c, rfl, fun h0 => ?_⟩
  obtain ⟨b, o, rfl, h1, h2⟩ := hc h0
  exact ⟨b, o, rfl, Nat.lt_of_lt_of_le h1 hb.size, fun j z hz => (hb.cell (p := ⟨b, o + j, none⟩) h1).trans (h2 j z hz)⟩

theorem Lay.aside (h : Lay A r s K w) {g : Nat} (hs : w.heap.size ≤ w'.heap.size) (hb : ∀ b, b < w.heap.size → b ≠ g → w'.heap[b]? = w.heap[b]?) (hr : g ≠ r) (hk : ∀ i, i < 21 → (K i).ownBlock ≠ some g) : Lay A r s K w' := by
  have ho : ∀ i, i < 21 → ∀ b, (K i).ownBlock = some b → w'.heap[b]? = w.heap[b]? := fun i hi b e =>
    hb b (h.sep.own i hi b e).2.2 (fun e2 => hk i hi (by rw [← e2]; exact e))
  exact ⟨h.row.block (hb r h.sep.rA.2 (fun e => hr e.symm)), h.sep.mono hs,
    ⟨fun f hf => owns_block (h.cont.fil f hf) (ho _ (by omega)), h.cont.dur, owns_block h.cont.lst (ho _ (by omega)), h.cont.dn, h.cont.lo, h.cont.cr, owns_block h.cont.kp (ho _ (by omega))⟩⟩
theorem hide_world {P : Program} {C : Code} {Q : Exit → Act → World → Prop} {a : Act} {W : World} {X : World → Prop} (hX : X W) (h : ∀ W, X W → C.wp P Q a W) : C.wp P Q a W := h W hX

/-- A crash under way: the disk so far, where each file's next pending append begins, what is kept. -/
structure Cr (A : Nat → Prop) (r : Nat) (s : St) (K : Nat → Value) (ks : List Int) (v : Value) (w : World) (ga : Nat) (c : Cs) (Kk : Nat → Value) (wr : World) : Prop where
  lay : Lay A r (mid s c) Kk wr
  blk : Blk wr ga 96 (atc c.at_)
  fr : Fr A w wr
  same : ∀ j, j < 21 → j % 2 = 0 → Kk j = K j
  ints : Ints wr v ks
/-- What does not change during a crash. -/
structure Cf (A : Nat → Prop) (r : Nat) (K : Nat → Value) (v : Value) (ga : Nat) : Prop where
  ar : A ga ∧ ga ≠ r
  kb : ∀ i, i < 21 → i % 2 = 0 → (K i).ownBlock ≠ some ga
  vb : ∀ b, vblock v = some b → b ≠ r ∧ b ≠ ga ∧ ∀ i, i < 20 → i % 2 = 0 → (K i).ownBlock ≠ some b
section
variable {ks : List Int} {v : Value} {ga : Nat} {c : Cs} {Kk : Nat → Value} {W W' : World}
theorem Cr.odd (h : Cr A r s K ks v w ga c Kk W) {i : Nat} (hi : i < 21) (ho : i % 2 = 1) : (Kk i).ownBlock = none := by
  have hc : (∃ f, f < 8 ∧ i = f * 2 + 1) ∨ i = 17 ∨ i = 19 := by
    rcases Nat.lt_or_ge i 16 with h1 | h1
    · exact .inl ⟨i / 2, by omega, by omega⟩
    · right; omega
  rcases hc with ⟨f, hf, rfl⟩ | rfl | rfl
  · rw [h.lay.cont.dur f hf]; rfl
  · rw [h.lay.cont.dn]; rfl
  · rw [h.lay.cont.cr]; rfl
theorem Cr.notAt (h : Cr A r s K ks v w ga c Kk W) (hf : Cf A r K v ga) : ∀ i, i < 21 → (Kk i).ownBlock ≠ some ga := by
  intro i hi e
  rcases Nat.mod_two_eq_zero_or_one i with h0 | h1
  · rw [h.same i hi h0] at e; exact hf.kb i hi h0 e
  · rw [h.odd hi h1] at e; cases e
theorem Cr.below (h : Cr A r s K ks v w ga c Kk W) (hb : Below W.heap.size W W') : Cr A r s K ks v w ga c Kk W' :=
  ⟨h.lay.below hb, h.blk.below hb h.blk.lt, h.fr.below hb, h.same, h.ints.below hb⟩
/-- The next beginning is written. -/
theorem Cr.setAt (h : Cr A r s K ks v w ga c Kk W) (hf : Cf A r K v ga) (f x : Nat) : Cr A r s K ks v w ga { c with at_ := upd c.at_ f x } Kk (W.setCell ⟨ga, f, none⟩ (.int .i64 ((x : Nat) : Int))) := by
  refine ⟨?_, ?_, h.fr.setCell (p := ⟨ga, f, none⟩) hf.ar.1 _, h.same, ?_⟩
  · exact h.lay.aside (g := ga) (by rw [setCell_size]; exact Nat.le_refl _) (fun b _ hb => heap_setCell_other W _ b _ hb) hf.ar.2 (h.notAt hf)
  · have := h.blk.set_ f (.int .i64 ((x : Nat) : Int))
    rw [atc_set] at this
    exact this
  · exact h.ints.keep (by rw [setCell_size]; exact Nat.le_refl _) (fun b hb => heap_setCell_other W _ b _ (hf.vb b hb).2.1)
/-- A durable part is written. -/
theorem Cr.setDur (h : Cr A r s K ks v w ga c Kk W) (hf : Cf A r K v ga) {f : Nat} (hf8 : f < 8) (x : Nat) : Cr A r s K ks v w ga { c with U := upd c.U f x } (upd Kk (f * 2 + 1) (.int .i64 ((x : Nat) : Int))) (W.setCell ⟨r, f * 2 + 1, none⟩ (.int .i64 ((x : Nat) : Int))) := by
  refine ⟨h.lay.setDur hf8 x, h.blk.far (p := ⟨r, f * 2 + 1, none⟩) hf.ar.2 _, h.fr.setCell (p := ⟨r, f * 2 + 1, none⟩) h.lay.sep.rA.1 _, ?_, ?_⟩
  · intro j hj h0
    rw [upd_other _ _ _ _ (by omega)]
    exact h.same j hj h0
  · exact h.ints.keep (by rw [setCell_size]; exact Nat.le_refl _) (fun b hb => heap_setCell_other W _ b _ (hf.vb b hb).1)
theorem zeroByte : ∀ w, (zeroValue 5).run Try.prog w = .ok (.int .u8 0) w := by
  intro w
  have h : (Try.prog.info? 5).map (fun i => i.zero) = some (some (.int .u8 0)) := by kernel_rfl
  cases hi : Try.prog.info? 5 with
  | none => rw [hi] at h; cases h
  | some i =>
    rw [hi] at h
    injection h with h
    simp [zeroValue, typeInfo, hi, h]
theorem byte_one : ∀ u ∈ (Value.int .u8 0).cells.toList, u.oneCell' = true := by
  have h : (Value.int .u8 0).cells.toList.all (·.oneCell') = true := by decide
  exact List.all_eq_true.1 h
theorem zeros_bytes (n : Nat) : (Builtin.zeroCells (Value.int .u8 0).cells n).toList = bc (List.replicate n 0) := by
  have h : (Value.int .u8 0).cells = #[.int .u8 0] := rfl
  rw [h]
  apply List.ext_getElem
  · simp [Builtin.zeroCells, bc]
  · intro i h1 h2
    simp [Builtin.zeroCells, bc, Nat.mod_one]
/-- A part of a file is cleared. -/
theorem Cr.clear (h : Cr A r s K ks v w ga c Kk W) (hf : Cf A r K v ga) {f : Nat} (hf8 : f < 8) {g cap : Nat} (hv : K (f * 2) = .slice (some ⟨g, 0, none⟩) (c.F f).length cap) (a o n c' : Nat) (ho : (o = a ∨ n = 0)) (hn : a + n ≤ (c.F f).length ∧ o + n ≤ (c.F f).length) :
    ∃ W', (Builtin.clear_ #[69] 0 #[.slice (some ⟨g, o, none⟩) n c']).run Try.prog W = .ok (.tuple #[]) W' ∧ Cr A r s K ks v w ga { c with F := upd c.F f (zero (c.F f) a (a + n)) } Kk W' ∧ W.grownBy W' (some g) := by
  have hk : Kk (f * 2) = .slice (some ⟨g, 0, none⟩) (c.F f).length cap := (h.same (f * 2) (by omega) (by omega)).trans hv
  have hown := h.lay.cont.fil f hf8
  rw [hk] at hown
  have hAg := h.lay.sep.own (f * 2) (by omega) g (by rw [hk]; rfl)
  rcases hown.2 with ⟨h1, _⟩ | ⟨g', cap', cur, h1, h2, h3, h4, h5, h6, h7⟩
  · cases h1
  · injection h1 with e1 e2 e3
    injection e1 with e1
    injection e1 with e1
    subst e1 e3
    have h4' : (c.F f).length ≤ cap := h4
    have hcl := clear_row (size := 1) (ty := 0) Try.underlying69 zeroByte rfl byte_one h3 o n c' (by omega)
    refine ⟨_, hcl, ?_, ⟨rfl, rfl, rfl, by simp [World.setRow], fun k _ hk => setRow_other W g k _ (fun e => hk (by rw [e]))⟩⟩
    rw [zeros_bytes, Nat.mul_one]
    have hoth : ∀ b, b ≠ g → (W.setRow g (cur.toList.take o ++ bc (List.replicate n 0) ++ cur.toList.drop (o + n)).toArray).heap[b]? = W.heap[b]? := fun b hb => setRow_other W g b _ hb
    have hsz : (W.setRow g (cur.toList.take o ++ bc (List.replicate n 0) ++ cur.toList.drop (o + n)).toArray).heap.size = W.heap.size := by simp [World.setRow]
    have hz : (zero (c.F f) a (a + n)).length = (c.F f).length := zero_length _ _ _ (by omega) (by omega)
    refine ⟨?_, (hoth ga (fun e => h.notAt hf (f * 2) (by omega) (by rw [hk, e]; rfl))).trans h.blk, h.fr.setRow hAg.1 _, h.same, ?_⟩
    · refine h.lay.inFil (l := zero (c.F f) a (a + n)) hf8 (by omega) (fun b _ hb => hoth b (fun e => hb (by rw [hk, e]; rfl))) ?_
      rw [hk, hz]
      have h7' : cur.toList.take (c.F f).length = bc (c.F f) := by rw [Nat.mul_one] at h7; exact h7
      have hl7 : (c.F f).length ≤ cur.toList.length := Nat.le_trans h4' (by rw [Array.length_toList, h6]; omega)
      refine ⟨by rw [bc_length, hz, Nat.mul_one], .inr ⟨g, cap, _, rfl, Nat.zero_le _, setRow_heap W g cur _ _ _ h3, h4, h5, ?_, ?_⟩⟩
      · simp only [List.size_toArray, List.length_append, List.length_take, List.length_drop, bc_length, List.length_replicate, Array.length_toList]
        omega
      · rw [Nat.mul_one]
        rcases ho with rfl | rfl
        · unfold zero
          rw [bc_append, bc_append, ← bc_take, ← h7', show o + n - o = n by omega]
          have ed : bc ((c.F f).drop (o + n)) = (cur.toList.take (c.F f).length).drop (o + n) := by rw [h7']; simp [bc, List.map_drop]
          rw [ed, List.take_take, Nat.min_eq_left (by omega)]
          have l1 : (List.take o cur.toList ++ bc (List.replicate n 0)).length = o + n := by rw [List.length_append, List.length_take, bc_length, List.length_replicate]; omega
          rw [List.take_append (l₁ := List.take o cur.toList ++ bc (List.replicate n 0)), List.take_of_length_le (l := List.take o cur.toList ++ bc (List.replicate n 0)) (by omega), l1, List.drop_take]
        · rw [show a + 0 = a by omega, zero_same, ← h7']
          simp [bc]
    · exact h.ints.keep (by omega) (fun b hb => hoth b (fun e => (hf.vb b hb).2.2 (f * 2) (by omega) (by omega) (by rw [hv, e]; rfl)))
end
end
end Go.Proofs.Ytdjchpejhfkknaa.Dk
