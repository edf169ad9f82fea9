/- slices.DeleteFunc with the closure of fit: the pending appends of size 0 go. Conditions: the list lies in a row of its own; it has at most 2^27 elements. -/
import Derived.Test.YtdjchpejhfkknaaKDel
namespace Go.Proofs.Ytdjchpejhfkknaa.Dk
open Go.RowKit Km
set_option linter.unusedVariables false
set_option maxRecDepth 100000

/-- What clear does to the end of a row. -/
theorem clear_row {P : Program} {w : World} {t e ty : TypeId} {z : Value} {size : Nat} (ht : P.underlying t = some (.slice e)) (hv : ∀ w, (zeroValue e).run P w = .ok z w) (hz : z.cells.size = size) (h1 : ∀ u ∈ z.cells.toList, u.oneCell' = true)
    {g : Nat} {cur : Array Value} (hg : w.heap[g]? = some (.cells cur e (0, 0))) (o n c : Nat) (ho : o + n * size ≤ cur.size) :
    (Builtin.clear_ #[t] ty #[.slice (some ⟨g, o, none⟩) n c]).run P w = .ok (.tuple #[]) (w.setRow g (cur.toList.take o ++ (Builtin.zeroCells z.cells n).toList ++ cur.toList.drop (o + n * size)).toArray) := by
  have hlen : (Builtin.zeroCells z.cells n).toList.length = n * size := by rw [Array.length_toList, size_zeroCells, hz]
  rcases Nat.eq_zero_or_pos n with h0 | h0
  · subst h0
    have e1 : (Builtin.zeroCells z.cells 0).toList = [] := List.eq_nil_of_length_eq_zero (by rw [hlen]; simp)
    rw [e1]
    simp only [Nat.zero_mul, Nat.add_zero, List.append_nil, List.take_append_drop, Array.toArray_toList]
    rw [setRow_self w g cur e (0, 0) hg]
    simp [Builtin.clear_, run_underlying ht]
  · obtain ⟨m, rfl⟩ : ∃ m, n = m + 1 := ⟨n - 1, by omega⟩
    have hst := run_storeCells_at P g o e (Builtin.zeroCells z.cells (m + 1)).toList 0 cur w hg (by rw [hlen]; omega) (by
      intro u hu
      simp only [Builtin.zeroCells] at hu
      have hu' : ∃ (a : Nat), a < (m + 1) * z.cells.size ∧ z.cells[a % z.cells.size]! = u := by simpa using hu
      obtain ⟨a, ha, rfl⟩ := hu'
      have hp : 0 < z.cells.size := by
        rcases Nat.eq_zero_or_pos z.cells.size with e | e
        · rw [e] at ha; omega
        · exact e
      have hm := Nat.mod_lt a hp
      rw [getElem!_pos z.cells _ hm]
      exact h1 _ (by simp))
    simp only [Nat.add_zero, hlen] at hst
    simp [Builtin.clear_, run_underlying ht, hv, hst]

/-- One cell of a row is written. -/
theorem owns_cell {w : World} {e : TypeId} {z g n c : Nat} {xs : List Value} (h : w.ownsRow 0 e z (.slice (some ⟨g, 0, none⟩) n c) n xs) {k : Nat} (hk : k < xs.length) (u : Value) : (w.setCell ⟨g, k, none⟩ u).ownsRow 0 e z (.slice (some ⟨g, 0, none⟩) n c) n (xs.set k u) := by
  refine ⟨by rw [List.length_set]; exact h.1, ?_⟩
  rcases h.2 with ⟨h1, _⟩ | ⟨g', cap, cur, h1, h2, h3, h4, h5, h6, h7⟩
  · cases h1
  · injection h1 with e1 e2 e3
    injection e1 with e1
    injection e1 with e1
    subst e1
    refine .inr ⟨g, cap, cur.setIfInBounds k u, by rw [e3], h2, heap_setCell_same w g k _ _ u h3, h4, h5, by simpa using h6, ?_⟩
    rw [Array.toList_setIfInBounds, List.take_set, h7]
theorem pc_set (l : Pd) (k : Nat) (p : Nat × Nat) (hk : k < l.length) : ((pc l).set (k * 2) (.int .i64 (p.1 : Nat))).set (k * 2 + 1) (.int .i64 (p.2 : Nat)) = pc (l.set k p) := by
  induction l generalizing k with
  | nil => simp at hk
  | cons q t ih =>
    have e : ∀ q (t : Pd), pc (q :: t) = .int .i64 (q.1 : Nat) :: .int .i64 (q.2 : Nat) :: pc t := fun _ _ => rfl
    cases k with
    | zero => simp [e]
    | succ k =>
      have e1 : (k + 1) * 2 = k * 2 + 1 + 1 := by omega
      rw [e1, e]
      simp only [List.set_cons_succ]
      rw [ih k (by simpa using hk), e]
theorem owns_pair {w : World} {g n c : Nat} {l : Pd} (h : w.ownsRow 0 98 2 (.slice (some ⟨g, 0, none⟩) n c) n (pc l)) {k : Nat} (hk : k < l.length) (p : Nat × Nat) :
    ((w.setCell ⟨g, k * 2, none⟩ (.int .i64 (p.1 : Nat))).setCell ⟨g, k * 2 + 1, none⟩ (.int .i64 (p.2 : Nat))).ownsRow 0 98 2 (.slice (some ⟨g, 0, none⟩) n c) n (pc (l.set k p)) := by
  rw [← pc_set l k p hk]
  exact owns_cell (owns_cell h (by rw [pc_length]; omega) _) (by rw [List.length_set, pc_length]; omega) _
/-- The row of a slice that is not empty. -/
theorem owns_row {w : World} {e : TypeId} {z n c : Nat} {a : Option Addr} {xs : List Value} (h : w.ownsRow 0 e z (.slice a n c) n xs) (hn : 0 < n) : ∃ g, a = some ⟨g, 0, none⟩ ∧ g < w.heap.size ∧ (∀ j, w.frozen? ⟨g, j, none⟩ = false) ∧ n ≤ c ∧ c ≤ maxLen ∧ ∀ j u, xs[j]? = some u → w.cell? ⟨g, j, none⟩ = some u := by
  rcases h.2 with ⟨_, h2⟩ | ⟨g, cap, cur, h1, _, h3, h4, h5, _⟩
  · omega
  · injection h1 with e1 e2 e3
    subst e1 e3
    refine ⟨g, rfl, (Array.getElem?_eq_some_iff.1 h3).1, fun j => frozen_of_row w g j _ _ h3, h4, h5, fun j u hu => ?_⟩
    have := h.cells (g := g) rfl j u hu
    rw [add_zero_addr] at this
    exact this

/-- What DeleteFunc has done behind j elements: i of them are left. -/
structure Dl (l M : Pd) (i j : Nat) : Prop where
  len : M.length = l.length
  le : i ≤ j
  jn : j ≤ l.length
  kept : M.take i = (l.take j).filter fun p => p.2 != 0
  rest : M.drop j = l.drop j
theorem Dl.get {l M : Pd} {i j : Nat} (h : Dl l M i j) {p : Nat × Nat} (hp : l[j]? = some p) : M[j]? = some p := by
  have h1 : (M.drop j)[0]? = (l.drop j)[0]? := by rw [h.rest]
  rw [List.getElem?_drop, List.getElem?_drop] at h1
  simpa [hp] using h1
theorem filter_snoc (l : Pd) (j : Nat) (p : Nat × Nat) (hp : l[j]? = some p) : (l.take (j + 1)).filter (fun p => p.2 != 0) = (l.take j).filter (fun p => p.2 != 0) ++ (if p.2 = 0 then [] else [p]) := by
  rw [take_snoc hp, List.filter_append]
  by_cases h : p.2 = 0 <;> simp [h]
theorem drop_more {l M : Pd} {j : Nat} (h : M.drop j = l.drop j) : M.drop (j + 1) = l.drop (j + 1) := by
  have e : ∀ (x : Pd), x.drop (j + 1) = (x.drop j).drop 1 := fun x => by rw [List.drop_drop]
  rw [e M, e l, h]
theorem Dl.skip {l M : Pd} {i j : Nat} (h : Dl l M i j) {p : Nat × Nat} (hp : l[j]? = some p) (hz : p.2 = 0) : Dl l M i (j + 1) :=
  ⟨h.len, by have := h.le; omega, (List.getElem?_eq_some_iff.1 hp).1, by rw [filter_snoc l j p hp, if_pos hz, List.append_nil]; exact h.kept, drop_more h.rest⟩
theorem Dl.keep {l M : Pd} {i j : Nat} (h : Dl l M i j) {p : Nat × Nat} (hp : l[j]? = some p) (hz : p.2 ≠ 0) : Dl l (M.set i p) (i + 1) (j + 1) := by
  have hj := (List.getElem?_eq_some_iff.1 hp).1
  have hl := h.len
  have hle := h.le
  refine ⟨by rw [List.length_set]; exact hl, by omega, hj, ?_, ?_⟩
  · rw [filter_snoc l j p hp, if_neg hz, ← h.kept, List.take_set]
    rw [List.take_succ_eq_append_getElem (by omega), List.set_append_right _ _ (by rw [List.length_take]; omega)]
    rw [List.length_take, Nat.min_eq_left (by omega), Nat.sub_self, List.set_cons_zero]
  · rw [List.drop_set_of_lt (by omega)]
    exact drop_more h.rest
theorem Dl.start {l : Pd} (h : idxN l < l.length) : Dl l l (idxN l) (idxN l + 1) := by
  have hz : (l[idxN l]).2 = 0 := by
    have := List.findIdx_getElem (w := h)
    unfold idxN
    simpa using this
  refine ⟨rfl, by omega, h, ?_, rfl⟩
  rw [filter_snoc l _ _ (List.getElem?_eq_getElem h), if_pos hz, List.append_nil]
  refine (List.filter_eq_self.2 fun p hp => ?_).symm
  obtain ⟨k, hk, rfl⟩ := List.mem_iff_getElem.1 hp
  rw [List.length_take] at hk
  rw [List.getElem_take]
  have := List.not_of_lt_findIdx (p := fun p : Nat × Nat => p.2 == 0) (xs := l) (i := k) (by show k < idxN l; omega)
  simpa using this
theorem idx_none {l : Pd} (h : ¬ idxN l < l.length) : l.filter (fun p => p.2 != 0) = l := by
  refine List.filter_eq_self.2 fun p hp => ?_
  obtain ⟨k, hk, rfl⟩ := List.mem_iff_getElem.1 hp
  have := List.not_of_lt_findIdx (p := fun p : Nat × Nat => p.2 == 0) (xs := l) (i := k) (by show k < idxN l; omega)
  simpa using this

theorem zeroPend : ∀ w, (zeroValue 98).run Try.prog w = .ok (.agg #[.int .i64 0, .int .i64 0]) w := by
  intro w
  have h : (Try.prog.info? 98).map (fun i => i.zero) = some (some (.agg #[.int .i64 0, .int .i64 0])) := by kernel_rfl
  cases hi : Try.prog.info? 98 with
  | none => rw [hi] at h; cases h
  | some i =>
    rw [hi] at h
    injection h with h
    simp [zeroValue, typeInfo, hi, h]
theorem dl_grown {a w w' : World} {row : Option Nat} (h : a.grownBy w row) (hb : Below w.heap.size w w') : a.grownBy w' row :=
  ⟨hb.os.trans h.os, hb.tape.trans h.tape, hb.output.trans h.output, Nat.le_trans h.size hb.size, fun k hk hn => (hb.block k (Nat.lt_of_lt_of_le hk h.size)).trans (h.block k hk hn)⟩
theorem grown_set {a w : World} {g : Nat} (h : a.grownBy w (some g)) (k : Nat) (u : Value) : a.grownBy (w.setCell ⟨g, k, none⟩ u) (some g) :=
  ⟨h.os, h.tape, h.output, by simpa [World.setCell] using h.size, fun i hi hne => (heap_setCell_other w _ i u (fun e => hne (by rw [e]))).trans (h.block i hi hne)⟩
theorem grown_row {a w : World} {g : Nat} (h : a.grownBy w (some g)) (cs : Array Value) : a.grownBy (w.setRow g cs) (some g) :=
  ⟨h.os, h.tape, h.output, by simpa [World.setRow] using h.size, fun i hi hne => (setRow_other w g i cs (fun e => hne (by rw [e]))).trans (h.block i hi hne)⟩
theorem pend_one : ∀ u ∈ (Value.agg #[.int .i64 0, .int .i64 0]).cells.toList, u.oneCell' = true := by
  have h : (Value.agg #[.int .i64 0, .int .i64 0]).cells.toList.all (·.oneCell') = true := by decide
  exact List.all_eq_true.1 h
/-- The end of a list of pending appends is cleared. -/
theorem clear_pend {w : World} {g c : Nat} {M : Pd} (h : w.ownsRow 0 98 2 (.slice (some ⟨g, 0, none⟩) M.length c) M.length (pc M)) (ci o n c' : Nat) (hn : o = ci * 2 ∨ n = 0) (hci : ci ≤ M.length ∧ o + n * 2 ≤ M.length * 2) :
    ∃ cur, (Builtin.clear_ #[73] 0 #[.slice (some ⟨g, o, none⟩) n c']).run Try.prog w = .ok (.tuple #[]) (w.setRow g cur) ∧ (w.setRow g cur).ownsRow 0 98 2 (.slice (some ⟨g, 0, none⟩) ci c) ci (pc (M.take ci)) := by
  rcases h.2 with ⟨h1, _⟩ | ⟨g', cap, cur, h1, h2, h3, h4, h5, h6, h7⟩
  · cases h1
  · injection h1 with e1 e2 e3
    injection e1 with e1
    injection e1 with e1
    subst e1 e3
    refine ⟨_, clear_row (size := 2) Try.underlying73 zeroPend rfl pend_one h3 o n c' (by omega), ⟨by rw [pc_length, List.length_take]; omega, .inr ⟨g, c, _, rfl, Nat.zero_le _, setRow_heap w g cur _ _ _ h3, by omega, h5, ?_, ?_⟩⟩⟩
    · have hz : (Builtin.zeroCells (Value.agg #[.int .i64 0, .int .i64 0]).cells n).size = n * 2 := by rw [size_zeroCells]; rfl
      simp only [List.size_toArray, List.length_append, List.length_take, List.length_drop, Array.length_toList]
      rw [hz]
      omega
    · have hp : pc (M.take ci) = (pc M).take (ci * 2) := by
        have e : M = M.take ci ++ M.drop ci := (List.take_append_drop ci M).symm
        have hl : (pc (M.take ci)).length = ci * 2 := by rw [pc_length, List.length_take]; omega
        have : pc M = pc (M.take ci) ++ pc (M.drop ci) := by rw [← pc_append, List.take_append_drop]
        rw [this, ← hl, List.take_left]
      rw [hp, ← h7]
      rcases hn with rfl | rfl
      · rw [List.append_assoc, List.take_append_of_le_length (by rw [List.length_take, Array.length_toList]; omega), List.take_take, List.take_take]
        congr 1
        omega
      · have hz : (Builtin.zeroCells (Value.agg #[.int .i64 0, .int .i64 0]).cells 0).toList = [] := by
          refine List.eq_nil_of_length_eq_zero ?_
          rw [Array.length_toList, size_zeroCells, Nat.zero_mul]
        rw [hz]
        simp only [Nat.zero_mul, Nat.add_zero, List.append_nil, List.take_append_drop]
        rw [List.take_take]
        congr 1
        omega
set_option maxHeartbeats 4000000 in
theorem delf_any {w : World} {v : Value} {l : Pd} (h : w.ownsRow 0 98 2 v l.length (pc l)) (hl : l.length ≤ 134217728) :
    Calls Try.prog 91 #[v, .func (.func 92) #[] #[]] w fun e w' => ∃ v', e = .returned v' ∧
      w'.ownsRow 0 98 2 v' (l.filter fun p => p.2 != 0).length (pc (l.filter fun p => p.2 != 0)) ∧ (v'.ownBlock = v.ownBlock) ∧ w.grownBy w' v.ownBlock := by
  have hx := idx_any h hl
  have hv0 := owns_slice h
  obtain ⟨a, c, rfl⟩ := hv0
  have HX := Lib.hid hx
  by_cases hi : idxN l < l.length
  · obtain ⟨g, rfl, hg, hfr, hnc, hcm, hcell⟩ := owns_row h (by omega)
    have hz : idxZ l = ((idxN l : Nat) : Int) := by unfold idxZ; rw [if_pos hi]
    have HZ := Lib.hid hz
    have HO := Lib.hid h
    have hD := Dl.start hi
    have HDS := Lib.hid hD
    have hle : idxN l ≤ 134217727 := by omega
    clear hx h hz hcell hD hfr
    generalize hI : idxN l = i0 at *
    clear hI
    have dn : ((((i0 : Nat) : Int)) == -1) = false := by simp
    go_enter Try.func91, Try.ntmps91
    go_wp2_with fail
    refine HX.out.mono ?_
    rintro e w1 ⟨rfl, hb1⟩
    rw [HZ.out]
    have HB1 := Lib.hid hb1
    clear hb1
    go_wp2_with fail
    go_loopw [5, 6] (fun i j wr => ∃ (ci cj : Nat) (M : Pd), cj ≤ l.length ∧ ci ≤ cj ∧ i = .int .i64 ci ∧ j = .int .i64 cj ∧ Hid (Dl l M ci cj ∧ wr.ownsRow 0 98 2 (.slice (some ⟨g, 0, none⟩) l.length c) l.length (pc M) ∧ w.grownBy wr (some g))) (fun i j _ => l.length - (intOf j).toNat)
    case atStart => exact ⟨i0, i0 + 1, l, by have := HDS.out.jn; omega, by omega, rfl, by go_num, Lib.hid ⟨HDS.out, owns_block HO.out (fun b hb => HB1.out.block b (HO.out.lt b hb).2), HB1.out.os, HB1.out.tape, HB1.out.output, HB1.out.size, fun k hk _ => HB1.out.block k hk⟩⟩
    case round =>
      obtain ⟨ci, cj, M, hcj, hij, rfl, rfl, HR⟩ := hrel
      by_cases hlt : cj < l.length
      · obtain ⟨p, hp⟩ : ∃ p, l[cj]? = some p := ⟨l[cj], List.getElem?_eq_getElem hlt⟩
        have hown := HR.out.2.1
        have hM := HR.out.1.get hp
        obtain ⟨_, he, hgr, hfr, _, _, hcell⟩ := owns_row hown (by omega)
        injection he with he
        injection he with he
        subst he
        obtain ⟨q1, q2⟩ := pc_at M cj p hM
        have c1 := hcell _ _ q1
        have c2 := hcell _ _ q2
        have e1 : ∃ x, (pc M)[ci * 2]? = some x := ⟨_, List.getElem?_eq_getElem (by rw [pc_length, HR.out.1.len]; omega)⟩
        have e2 : ∃ x, (pc M)[ci * 2 + 1]? = some x := ⟨_, List.getElem?_eq_getElem (by rw [pc_length, HR.out.1.len]; omega)⟩
        obtain ⟨x1, e1⟩ := e1
        obtain ⟨x2, e2⟩ := e2
        have c3 := hcell _ _ e1
        have c4 := hcell _ _ e2
        have f1 := hfr (ci * 2)
        have f2 := hfr (ci * 2 + 1)
        have hd := fun W => del1_any p.1 p.2 W
        have HD := Lib.hid hd
        have HP := Lib.hid hp
        have hcil : ci < l.length := by omega
        clear hcell hfr q1 q2 hd hp e1 e2 hown hM
        cases hz : ((p.2 : Nat) : Int) == 0 with
        | true =>
          have hz0 : p.2 = 0 := by simpa using hz
          have HZ := Lib.hid hz
          have HZ0 := Lib.hid hz0
          clear hz hz0
          obtain ⟨p1, p2⟩ := p
          go_wp2_with fail
          refine (HD.out _).mono ?_
          rintro e w2 ⟨rfl, hb2⟩
          rw [HZ.out]
          have HB2 := Lib.hid (below_trans (below_alloc wr _) hb2)
          clear hb2
          go_wp2_with fail
          go_roundw
          case rel => exact ⟨ci, cj + 1, M, by omega, by omega, rfl, by go_num, Lib.hid ⟨HR.out.1.skip HP.out HZ0.out, owns_block HR.out.2.1 (fun b hb => HB2.out.block b (HR.out.2.1.lt b hb).2), dl_grown HR.out.2.2 HB2.out⟩⟩
          case measure => simp [intOf]; omega
        | false =>
          have hz0 : p.2 ≠ 0 := by simpa using hz
          have HZ := Lib.hid hz
          have HZ0 := Lib.hid hz0
          clear hz hz0
          obtain ⟨p1, p2⟩ := p
          go_wp2_with fail
          refine (HD.out _).mono ?_
          rintro e w2 ⟨rfl, hb2⟩
          rw [HZ.out]
          have HB2 := Lib.hid (below_trans (below_alloc wr _) hb2)
          have b3 : w2.cell? ⟨g, ci * 2, none⟩ = some x1 := (HB2.out.cell (p := ⟨g, ci * 2, none⟩) hgr).trans c3
          have b4 : w2.cell? ⟨g, ci * 2 + 1, none⟩ = some x2 := (HB2.out.cell (p := ⟨g, ci * 2 + 1, none⟩) hgr).trans c4
          have b5 : w2.frozen? ⟨g, ci * 2, none⟩ = false := (HB2.out.frozen (p := ⟨g, ci * 2, none⟩) hgr).trans f1
          have b6 : w2.frozen? ⟨g, ci * 2 + 1, none⟩ = false := (HB2.out.frozen (p := ⟨g, ci * 2 + 1, none⟩) hgr).trans f2
          have hbl := (Blk.new wr 98 #[.int .i64 (p1 : Nat), .int .i64 (p2 : Nat)]).below hb2 (by simp)
          have b7 : w2.cell? ⟨wr.heap.size, 0, none⟩ = some (.int .i64 (p1 : Nat)) := hbl.cell 0
          have b8 : w2.cell? ⟨wr.heap.size, 1, none⟩ = some (.int .i64 (p2 : Nat)) := hbl.cell 1
          clear hb2 hbl c1 c2 c3 c4 f1 f2
          generalize hwz : wr.heap.size = z at *
          go_wp2_with fail
          subst hwz
          go_roundw
          case rel => exact ⟨ci + 1, cj + 1, M.set ci (p1, p2), by omega, by omega, by go_num, by go_num, Lib.hid ⟨HR.out.1.keep HP.out HZ0.out, owns_pair (owns_block HR.out.2.1 (fun b hb => HB2.out.block b (HR.out.2.1.lt b hb).2)) (by rw [HR.out.1.len]; exact hcil) (p1, p2), grown_set (grown_set (dl_grown HR.out.2.2 HB2.out) _ _) _ _⟩⟩
          case measure => simp [intOf]; omega
      · obtain rfl : cj = l.length := by omega
        have hfil : M.take ci = l.filter fun p => p.2 != 0 := by rw [HR.out.1.kept, List.take_length]
        have hlen : (M.take ci).length = ci := by rw [List.length_take, HR.out.1.len]; omega
        have HFI := Lib.hid hfil
        have HLE := Lib.hid hlen
        have hci : ci ≤ c := by omega
        have hrow := HR.out.2.1
        rw [← HR.out.1.len] at hrow
        have hgrow := HR.out.2.2
        have hml := HR.out.1.len
        by_cases hcc : c = ci
        · obtain ⟨cur, h1, h2⟩ := clear_pend hrow ci 0 0 0 (by omega) (by omega)
          have hm : l.length - ci = 0 := by omega
          have HC := Lib.hid h2
          have HG := Lib.hid hgrow
          subst hcc
          clear hrow hgrow hfil hlen h2
          generalize hnn : l.length - c = nn at *
          subst hm
          go_wp2_with fail
          go_ret
          exact ⟨_, rfl, by rw [← HFI.out, HLE.out]; exact HC.out, rfl, grown_row HG.out _⟩
        · obtain ⟨cur, h1, h2⟩ := clear_pend hrow ci (ci * 2) (l.length - ci) (c - ci) (by omega) (by omega)
          have HC := Lib.hid h2
          have HG := Lib.hid hgrow
          clear hrow hgrow hfil hlen h2
          go_wp2_with fail
          go_ret
          exact ⟨_, rfl, by rw [← HFI.out, HLE.out]; exact HC.out, rfl, grown_row HG.out _⟩
  · have hz : idxZ l = -1 := by unfold idxZ; rw [if_neg hi]
    have HZ := Lib.hid hz
    have hf := idx_none hi
    rw [hf]
    have HO := Lib.hid h
    clear hx h hz hi hf
    go_enter Try.func91, Try.ntmps91
    go_wp2_with fail
    refine HX.out.mono ?_
    rintro e w1 ⟨rfl, hb1⟩
    rw [HZ.out]
    have HB1 := Lib.hid hb1
    clear hb1
    go_wp2_with fail
    go_ret
    exact ⟨_, rfl, owns_block HO.out (fun b hb => HB1.out.block b (HO.out.lt b hb).2), rfl, HB1.out.os, HB1.out.tape, HB1.out.output, HB1.out.size, fun k hk _ => HB1.out.block k hk⟩
end Go.Proofs.Ytdjchpejhfkknaa.Dk
