/- The functions of span and of its reference: what each returns, for all spans. Conditions: the ints are of 64 bits where a sum or a difference is formed. -/
import Derived.Test.YtecnonmcmdaopaaRScale
import Derived.Below
import Derived.Laws.ResultCell
import Derived.Laws.OwnMore
import Derived.Laws.Rows
import Derived.RegionTactic
import Derived.Deep.RegionHeld3
import Derived.StillTailTactics
namespace Go.Proofs.Ytecnonmcmdaopaa.Sp
open Go.RowKit
set_option linter.unusedVariables false
set_option maxRecDepth 100000

abbrev Ret (v : Value) (w : World) (e : Ending) (w' : World) : Prop := e = .returned v ∧ Below w.heap.size w w'
/-- A span as a value. -/
def sp (l h : Int) : Value := .agg #[.int .i64 l, .int .i64 h]
theorem below_self (w : World) : Below w.heap.size w w := Below.refl _ _
theorem below_trans {w w' w'' : World} (h : Below w.heap.size w w') (h' : Below w'.heap.size w' w'') : Below w.heap.size w w'' := h.trans (h'.mono h.size)
theorem below_alloc (w : World) (o : Obj) : Below w.heap.size w (w.alloc o) := (Below.refl _ _).alloc (Nat.le_refl _) _

theorem right_any (l h : Int) (w : World) : Calls Try.prog 13 #[sp l h] w (Ret (.bool (decide (l ≤ h))) w) := by
  unfold sp
  go_enter Try.func13, Try.ntmps13
  go_wp2_with fail
  --GG
  go_ret
  exact ⟨rfl, below_alloc _ _⟩
def Blk (w : World) (g : Nat) (t : TypeId) (cs : Array Value) : Prop := w.heap[g]? = some (.cells cs t (0, 0))
section
variable {w w' : World} {g : Nat} {t : TypeId} {cs : Array Value}
theorem Blk.lt (h : Blk w g t cs) : g < w.heap.size := (Array.getElem?_eq_some_iff.1 h).1
theorem Blk.cell (h : Blk w g t cs) (i : Nat) : w.cell? ⟨g, i, none⟩ = cs[i]? := cell_of_row w g i cs t (0, 0) h
theorem Blk.frozen (h : Blk w g t cs) (i : Nat) : w.frozen? ⟨g, i, none⟩ = false := frozen_of_row w g i _ _ h
theorem Blk.new (w : World) (t : TypeId) (cs : Array Value) : Blk (w.alloc (.cells cs t)) w.heap.size t cs := heap_alloc_new w _
theorem Blk.below (h : Blk w g t cs) {B : Nat} (hb : Below B w w') (hB : w.heap.size ≤ B) : Blk w' g t cs := (hb.block g (by have := h.lt; omega)).trans h
theorem Blk.alloc (h : Blk w g t cs) (o : Obj) : Blk (w.alloc o) g t cs := h.below (below_alloc w o) (Nat.le_refl _)
end
theorem Blk.at {w : World} {t : TypeId} {cs : Array Value} {g : Nat} (h : w.heap.size = g) : Blk (w.alloc (.cells cs t)) g t cs := h ▸ Blk.new w t cs
theorem results_cell {fn : Func} {p : Tmp} {ty : TypeId} (h : fn.results = #[.cell p ty]) (tmps : Array Value) (P : Program) (w : World) :
    (results fn tmps).run P w = ((asAddr (tmps.getD p undef)).run P w).andThen fun a w₁ => (loadVar ty a).run P w₁ := by
  simp only [results, h]
  simp [Sem.run_bind, Result.andThen]
theorem addq (a b : Int) (ha : I64 a) (hb : I64 b) (w : World) : Calls Try.prog 29 #[.int .i64 a, .int .i64 b] w fun e w' => e = .returned (.int .i64 (lim (a + b))) ∧ ∃ k, w' = w.drewN k := (add_any a b ha hb w).mono fun e w' h => ⟨h.1, 0, by rw [← h.2]; rfl⟩
theorem subq (a b : Int) (ha : I64 a) (hb : I64 b) (w : World) : Calls Try.prog 30 #[.int .i64 a, .int .i64 b] w fun e w' => e = .returned (.int .i64 (lim (a - b))) ∧ ∃ k, w' = w.drewN k := (sub_any a b ha hb w).mono fun e w' h => ⟨h.1, 0, by rw [← h.2]; rfl⟩
theorem infoSpan : (Try.prog.info? 23).map (·.size) = some 2 := by kernel_rfl
theorem ret_sp {fn : Func} {p : Tmp} (hf : fn.results = #[.cell p 23]) {a : Act} {w W : World} {g : Nat} {cs : Array Value} {v : Value} (hp : a.tmps.getD p undef = .pointer (some ⟨g, 0, none⟩)) (hd : a.defers = [])
    (hc : cs.size = 2) (hg : Blk W g 23 cs) (hv : v = .agg cs) (hb : Below w.heap.size w W) : bodyPost Try.prog fn (fun e w' => e = .returned v ∧ Below w.heap.size w w') .ret a W := by
  subst hv
  refine bodyPost_ret ?_ hd ⟨rfl, hb⟩
  rw [results_cell hf, hp]
  simp [asAddr, run_loadVar_row W g _ _ cs (0, 0) _ hg Try.underlying23 rfl (by rw [infoSpan, hc])]
theorem ret_spb {fn : Func} {p u : Tmp} (hf : fn.results = #[.cell p 23, .tmp u]) {a : Act} {w W : World} {g : Nat} {cs : Array Value} {b v : Value} (hp : a.tmps.getD p undef = .pointer (some ⟨g, 0, none⟩)) (hu : a.tmps.getD u undef = b) (hd : a.defers = [])
    (hc : cs.size = 2) (hg : Blk W g 23 cs) (hv : v = .tuple #[.agg cs, b]) (hb : Below w.heap.size w W) : bodyPost Try.prog fn (fun e w' => e = .returned v ∧ Below w.heap.size w w') .ret a W := by
  subst hv hu
  refine bodyPost_ret ?_ hd ⟨rfl, hb⟩
  rw [results_cell_tmp hf, hp]
  simp [asAddr, run_loadVar_row W g _ _ cs (0, 0) _ hg Try.underlying23 rfl (by rw [infoSpan, hc])]
theorem of_any (n : Int) (w : World) : Calls Try.prog 15 #[.int .i64 n] w (Ret (sp n n) w) := by
  unfold sp
  go_enter Try.func15, Try.ntmps15
  go_wp2_with fail
  exact ret_sp rfl rfl rfl rfl (Blk.new _ _ _) rfl (below_alloc _ _)
theorem join_any (a b c d : Int) (w : World) : Calls Try.prog 23 #[sp a b, sp c d] w (Ret (sp (min a c) (max b d)) w) := by
  unfold sp
  go_enter Try.func23, Try.ntmps23
  go_wp2_with fail
  exact ret_sp rfl rfl rfl rfl (Blk.at (by simp)) rfl (below_trans (below_trans (below_alloc _ _) (below_alloc _ _)) (below_alloc _ _))
theorem cell_lt {w : World} {a : Addr} {v : Value} (h : w.cell? a = some v) : a.block < w.heap.size := by
  rcases Nat.lt_or_ge a.block w.heap.size with h' | h'
  · exact h'
  · simp [World.cell?, Array.getElem?_eq_none h'] at h
theorem cell_below {w w' : World} (hb : Below w.heap.size w w') {a : Addr} {v : Value} (h : w.cell? a = some v) : w'.cell? a = some v := (hb.cell (cell_lt h)).trans h
theorem Blk.set_ {w : World} {g : Nat} {t : TypeId} {cs : Array Value} (h : Blk w g t cs) (i : Nat) (u : Value) : Blk (w.setCell ⟨g, i, none⟩ u) g t (cs.setIfInBounds i u) := heap_setCell_same w g i _ _ u h
theorem below_drewN {w w' : World} (h : Below w.heap.size w w') (k : Nat) : Below w.heap.size w (w'.drewN k) := ⟨h.os, h.tape, h.output, h.size, h.block⟩
theorem ret_bb {a b : Bool} (h : a = b) : Ending.returned (.bool a) = .returned (.bool b) := by rw [h]
theorem add_e (a b : Int) (ha : I64 a) (hb : I64 b) (w : World) : Calls Try.prog 29 #[.int .i64 a, .int .i64 b] w fun e w' => e = .returned (.int .i64 (lim (a + b))) ∧ w' = w := (add_any a b ha hb w).mono fun e w' h => ⟨h.1, h.2.symm⟩
theorem sub_e (a b : Int) (ha : I64 a) (hb : I64 b) (w : World) : Calls Try.prog 30 #[.int .i64 a, .int .i64 b] w fun e w' => e = .returned (.int .i64 (lim (a - b))) ∧ w' = w := (sub_any a b ha hb w).mono fun e w' h => ⟨h.1, h.2.symm⟩
theorem add_sp (a b c d : Int) (ha : I64 a) (hb : I64 b) (hc : I64 c) (hd : I64 d) (w : World) : Calls Try.prog 19 #[sp a b, sp c d] w (Ret (sp (lim (a + c)) (lim (b + d))) w) := by
  unfold sp
  have H1 := Lib.hid (fun W => add_e a c ha hc W)
  have H2 := Lib.hid (fun W => add_e b d hb hd W)
  clear ha hb hc hd
  generalize lim (a + c) = x at *
  generalize lim (b + d) = y at *
  have K0 := Lib.hid (((Blk.at (w := w) (t := 23) (cs := #[.int .i64 a, .int .i64 b]) (g := w.heap.size) (by simp)).alloc (.cells #[.int .i64 c, .int .i64 d] 23)).alloc (.cells #[.int .i64 0, .int .i64 0] 23))
  have K1 := Lib.hid ((Blk.at (w := (w.alloc (.cells #[.int .i64 a, .int .i64 b] 23))) (t := 23) (cs := #[.int .i64 c, .int .i64 d]) (g := w.heap.size + 1) (by simp)).alloc (.cells #[.int .i64 0, .int .i64 0] 23))
  have K2 := Lib.hid (Blk.at (w := ((w.alloc (.cells #[.int .i64 a, .int .i64 b] 23)).alloc (.cells #[.int .i64 c, .int .i64 d] 23))) (t := 23) (cs := #[.int .i64 0, .int .i64 0]) (g := w.heap.size + 1 + 1) (by simp))
  have KB := Lib.hid (below_trans (below_trans (below_trans (below_self w) (below_alloc w (.cells #[.int .i64 a, .int .i64 b] 23))) (below_alloc (w.alloc (.cells #[.int .i64 a, .int .i64 b] 23)) (.cells #[.int .i64 c, .int .i64 d] 23))) (below_alloc ((w.alloc (.cells #[.int .i64 a, .int .i64 b] 23)).alloc (.cells #[.int .i64 c, .int .i64 d] 23)) (.cells #[.int .i64 0, .int .i64 0] 23)))
  go_enter Try.func19, Try.ntmps19
  go_wp2_with fail
  generalize (((w.alloc (.cells #[.int .i64 a, .int .i64 b] 23)).alloc (.cells #[.int .i64 c, .int .i64 d] 23)).alloc (.cells #[.int .i64 0, .int .i64 0] 23)) = W0 at *
  have c00 := K0.out.cell 0
  have c01 := K0.out.cell 1
  have c10 := K1.out.cell 0
  have c11 := K1.out.cell 1
  refine wp_region_still_tail 11 (by kernel_rfl) (by kernel_rfl) ?_
  simp only [List.take_succ_cons, List.take_zero, List.drop_succ_cons, List.drop_zero]
  iterate 4 still_step
  still_call (H1.out _)
  iterate 4 still_step
  still_call (H2.out _)
  still_step
  try refine wpStill_nil ?_
  clear c00 c01 c10 c11
  have c20 := K2.out.cell 0
  have c21 := K2.out.cell 1
  have f20 := K2.out.frozen 0
  have f21 := K2.out.frozen 1
  go_wp2
  exact ret_sp rfl rfl rfl rfl (show Blk _ _ _ #[.int .i64 x, .int .i64 y] from (K2.out.set_ 0 _).set_ 1 _) rfl ((KB.out.setCell (show w.heap.size ≤ w.heap.size + 1 + 1 by omega) _).setCell (show w.heap.size ≤ w.heap.size + 1 + 1 by omega) _).drew
theorem sub_sp (a b c d : Int) (ha : I64 a) (hb : I64 b) (hc : I64 c) (hd : I64 d) (w : World) : Calls Try.prog 21 #[sp a b, sp c d] w (Ret (sp (lim (a - d)) (lim (b - c))) w) := by
  unfold sp
  have H1 := Lib.hid (fun W => sub_e a d ha hd W)
  have H2 := Lib.hid (fun W => sub_e b c hb hc W)
  clear ha hb hc hd
  generalize lim (a - d) = x at *
  generalize lim (b - c) = y at *
  have K0 := Lib.hid (((Blk.at (w := w) (t := 23) (cs := #[.int .i64 a, .int .i64 b]) (g := w.heap.size) (by simp)).alloc (.cells #[.int .i64 c, .int .i64 d] 23)).alloc (.cells #[.int .i64 0, .int .i64 0] 23))
  have K1 := Lib.hid ((Blk.at (w := (w.alloc (.cells #[.int .i64 a, .int .i64 b] 23))) (t := 23) (cs := #[.int .i64 c, .int .i64 d]) (g := w.heap.size + 1) (by simp)).alloc (.cells #[.int .i64 0, .int .i64 0] 23))
  have K2 := Lib.hid (Blk.at (w := ((w.alloc (.cells #[.int .i64 a, .int .i64 b] 23)).alloc (.cells #[.int .i64 c, .int .i64 d] 23))) (t := 23) (cs := #[.int .i64 0, .int .i64 0]) (g := w.heap.size + 1 + 1) (by simp))
  have KB := Lib.hid (below_trans (below_trans (below_trans (below_self w) (below_alloc w (.cells #[.int .i64 a, .int .i64 b] 23))) (below_alloc (w.alloc (.cells #[.int .i64 a, .int .i64 b] 23)) (.cells #[.int .i64 c, .int .i64 d] 23))) (below_alloc ((w.alloc (.cells #[.int .i64 a, .int .i64 b] 23)).alloc (.cells #[.int .i64 c, .int .i64 d] 23)) (.cells #[.int .i64 0, .int .i64 0] 23)))
  go_enter Try.func21, Try.ntmps21
  go_wp2_with fail
  generalize (((w.alloc (.cells #[.int .i64 a, .int .i64 b] 23)).alloc (.cells #[.int .i64 c, .int .i64 d] 23)).alloc (.cells #[.int .i64 0, .int .i64 0] 23)) = W0 at *
  have c00 := K0.out.cell 0
  have c01 := K0.out.cell 1
  have c10 := K1.out.cell 0
  have c11 := K1.out.cell 1
  refine wp_region_still_tail 11 (by kernel_rfl) (by kernel_rfl) ?_
  simp only [List.take_succ_cons, List.take_zero, List.drop_succ_cons, List.drop_zero]
  iterate 4 still_step
  still_call (H1.out _)
  iterate 4 still_step
  still_call (H2.out _)
  still_step
  try refine wpStill_nil ?_
  clear c00 c01 c10 c11
  have c20 := K2.out.cell 0
  have c21 := K2.out.cell 1
  have f20 := K2.out.frozen 0
  have f21 := K2.out.frozen 1
  go_wp2
  exact ret_sp rfl rfl rfl rfl (show Blk _ _ _ #[.int .i64 x, .int .i64 y] from (K2.out.set_ 0 _).set_ 1 _) rfl ((KB.out.setCell (show w.heap.size ≤ w.heap.size + 1 + 1 by omega) _).setCell (show w.heap.size ≤ w.heap.size + 1 + 1 by omega) _).drew
theorem has_any (a b n : Int) (w : World) : Calls Try.prog 17 #[sp a b, .int .i64 n] w (Ret (.bool (decide (a ≤ n ∧ n ≤ b))) w) := by
  unfold sp
  by_cases h1 : a ≤ n
  · have d1 : decide (a ≤ n) = true := decide_eq_true h1
    have hr : decide (a ≤ n ∧ n ≤ b) = decide (n ≤ b) := by simp [h1]
    rw [hr]
    clear hr h1
    go_enter Try.func17, Try.ntmps17
    go_wp2_with fail
    go_ret
    exact ⟨rfl, below_alloc _ _⟩
  · have d1 : decide (a ≤ n) = false := decide_eq_false h1
    have hr : decide (a ≤ n ∧ n ≤ b) = false := by simp [h1]
    rw [hr]
    clear hr h1
    go_enter Try.func17, Try.ntmps17
    go_wp2_with fail
    go_ret
    exact ⟨rfl, below_alloc _ _⟩
theorem width_any (a b : Int) (ha : I64 a) (hb : I64 b) (w : World) : Calls Try.prog 27 #[sp a b] w (Ret (.int .i64 (lim (b - a))) w) := by
  unfold sp
  have H1 := Lib.hid (fun W => sub_e b a hb ha W)
  clear ha hb
  generalize lim (b - a) = x at *
  have K0 := Lib.hid (Blk.at (w := w) (t := 23) (cs := #[.int .i64 a, .int .i64 b]) (g := w.heap.size) (by simp))
  have KB := Lib.hid (below_trans (below_self w) (below_alloc w (.cells #[.int .i64 a, .int .i64 b] 23)))
  go_enter Try.func27, Try.ntmps27
  go_wp2_with fail
  --GG
  refine (H1.out _).mono ?_
  rintro e w1 ⟨rfl, rfl⟩
  go_wp2_with fail
  go_ret
  exact ⟨rfl, KB.out⟩
theorem join_eq (a b c d : Int) : (decide (min a c = c) && decide (max b d = d)) = decide (c ≤ a ∧ b ≤ d) := by
  rw [← Bool.decide_and]
  exact decide_eq_decide.2 (by omega)
theorem within_any (a b c d : Int) (w : World) : Calls Try.prog 25 #[sp a b, sp c d] w (Ret (.bool (decide (c ≤ a ∧ b ≤ d))) w) := by
  unfold sp
  have HQ := Lib.hid (join_eq a b c d)
  have HJ := Lib.hid (fun W (hS : W.cell? ⟨w.heap.size, 0, none⟩ = some (.int .i64 a) ∧ W.cell? ⟨w.heap.size, 1, none⟩ = some (.int .i64 b) ∧ W.cell? ⟨w.heap.size + 1, 0, none⟩ = some (.int .i64 c) ∧ W.cell? ⟨w.heap.size + 1, 1, none⟩ = some (.int .i64 d) ∧ Below w.heap.size w W) => (show Calls Try.prog 23 #[.agg #[.int .i64 a, .int .i64 b], .agg #[.int .i64 c, .int .i64 d]] W fun e w' => e = .returned (sp (min a c) (max b d)) ∧ w'.cell? ⟨w.heap.size, 0, none⟩ = some (.int .i64 a) ∧ w'.cell? ⟨w.heap.size, 1, none⟩ = some (.int .i64 b) ∧ w'.cell? ⟨w.heap.size + 1, 0, none⟩ = some (.int .i64 c) ∧ w'.cell? ⟨w.heap.size + 1, 1, none⟩ = some (.int .i64 d) ∧ Below w.heap.size w w' from (join_any a b c d W).mono fun e w' hh => by obtain ⟨h0, h1, h2, h3, h4⟩ := hS; exact ⟨hh.1, cell_below hh.2 h0, cell_below hh.2 h1, cell_below hh.2 h2, cell_below hh.2 h3, below_trans h4 hh.2⟩))
  unfold sp at HJ
  generalize min a c = x at *
  generalize max b d = y at *
  rw [← HQ.out]
  clear HQ
  have K0 := Lib.hid ((Blk.at (w := w) (t := 23) (cs := #[.int .i64 a, .int .i64 b]) (g := w.heap.size) (by simp)).alloc (.cells #[.int .i64 c, .int .i64 d] 23))
  have K1 := Lib.hid (Blk.at (w := (w.alloc (.cells #[.int .i64 a, .int .i64 b] 23))) (t := 23) (cs := #[.int .i64 c, .int .i64 d]) (g := w.heap.size + 1) (by simp))
  have KB := Lib.hid (below_trans (below_trans (below_self w) (below_alloc w (.cells #[.int .i64 a, .int .i64 b] 23))) (below_alloc (w.alloc (.cells #[.int .i64 a, .int .i64 b] 23)) (.cells #[.int .i64 c, .int .i64 d] 23)))
  by_cases h1 : x = c
  · subst h1
    by_cases h2 : y = d
    · subst h2
      rw [decide_eq_true rfl, decide_eq_true rfl]
      go_enter Try.func25, Try.ntmps25
      go_wp2_with fail
      go_region_held3 (fun W => W.cell? ⟨w.heap.size, 0, none⟩ = some (.int .i64 a) ∧ W.cell? ⟨w.heap.size, 1, none⟩ = some (.int .i64 b) ∧ W.cell? ⟨w.heap.size + 1, 0, none⟩ = some (.int .i64 x) ∧ W.cell? ⟨w.heap.size + 1, 1, none⟩ = some (.int .i64 y) ∧ Below w.heap.size w W)
        (((try dsimp only); (refine ⟨?_, ?_, ?_, ?_, ?_⟩ <;> (first | assumption | exact K0.out.cell 0 | exact K0.out.cell 1 | exact K1.out.cell 0 | exact K1.out.cell 1 | exact ⟨KB.out.os, KB.out.tape, KB.out.output, KB.out.size, KB.out.block⟩))))
        ((first
          | (go_at_call 23; with_reducible refine (HJ.out _ ?_).mono ?_; assumption; rintro e w' ⟨rfl, q0, q1, q2, q3, q4⟩)))
      go_wp2_with fail
      go_ret
      exact ⟨rfl, by assumption⟩
    · have d2 : (y == d) = false := beq_eq_false_iff_ne.2 h2
      rw [decide_eq_true rfl, decide_eq_false h2]
      clear h2
      go_enter Try.func25, Try.ntmps25
      go_wp2_with fail
      go_region_held3 (fun W => W.cell? ⟨w.heap.size, 0, none⟩ = some (.int .i64 a) ∧ W.cell? ⟨w.heap.size, 1, none⟩ = some (.int .i64 b) ∧ W.cell? ⟨w.heap.size + 1, 0, none⟩ = some (.int .i64 x) ∧ W.cell? ⟨w.heap.size + 1, 1, none⟩ = some (.int .i64 d) ∧ Below w.heap.size w W)
        (((try dsimp only); (refine ⟨?_, ?_, ?_, ?_, ?_⟩ <;> (first | assumption | exact K0.out.cell 0 | exact K0.out.cell 1 | exact K1.out.cell 0 | exact K1.out.cell 1 | exact ⟨KB.out.os, KB.out.tape, KB.out.output, KB.out.size, KB.out.block⟩))))
        ((first
          | (go_at_call 23; with_reducible refine (HJ.out _ ?_).mono ?_; assumption; rintro e w' ⟨rfl, q0, q1, q2, q3, q4⟩)))
      go_wp2_with fail
      go_ret
      exact ⟨rfl, by assumption⟩
  · have d1 : (x == c) = false := beq_eq_false_iff_ne.2 h1
    rw [decide_eq_false h1]
    clear h1
    go_enter Try.func25, Try.ntmps25
    go_wp2_with fail
    go_region_held3 (fun W => W.cell? ⟨w.heap.size, 0, none⟩ = some (.int .i64 a) ∧ W.cell? ⟨w.heap.size, 1, none⟩ = some (.int .i64 b) ∧ W.cell? ⟨w.heap.size + 1, 0, none⟩ = some (.int .i64 c) ∧ W.cell? ⟨w.heap.size + 1, 1, none⟩ = some (.int .i64 d) ∧ Below w.heap.size w W)
      (((try dsimp only); (refine ⟨?_, ?_, ?_, ?_, ?_⟩ <;> (first | assumption | exact K0.out.cell 0 | exact K0.out.cell 1 | exact K1.out.cell 0 | exact K1.out.cell 1 | exact ⟨KB.out.os, KB.out.tape, KB.out.output, KB.out.size, KB.out.block⟩))))
      ((first
        | (go_at_call 23; with_reducible refine (HJ.out _ ?_).mono ?_; assumption; rintro e w' ⟨rfl, q0, q1, q2, q3, q4⟩)))
    go_wp2_with fail
    go_ret
    exact ⟨rfl, by assumption⟩
def mB (a b c d : Int) : Bool := decide (max a c ≤ min b d)
def mL (a b c d : Int) : Int := if mB a b c d then max a c else 0
def mH (a b c d : Int) : Int := if mB a b c d then min b d else 0
theorem meet_any (a b c d : Int) (w : World) : Calls Try.prog 11 #[sp a b, sp c d] w (Ret (.tuple #[sp (mL a b c d) (mH a b c d), .bool (mB a b c d)]) w) := by
  have HR := Lib.hid (fun W => right_any (max a c) (min b d) W)
  have hmb : decide (max a c ≤ min b d) = mB a b c d := rfl
  unfold mL mH
  unfold sp at *
  rw [hmb] at HR
  clear hmb
  have K0 := Lib.hid ((((Blk.at (w := w) (t := 23) (cs := #[.int .i64 a, .int .i64 b]) (g := w.heap.size) (by simp)).alloc (.cells #[.int .i64 c, .int .i64 d] 23)).alloc (.cells #[.int .i64 0, .int .i64 0] 23)).alloc (.cells #[.int .i64 (max a c), .int .i64 (min b d)] 23))
  have K1 := Lib.hid (((Blk.at (w := (w.alloc (.cells #[.int .i64 a, .int .i64 b] 23))) (t := 23) (cs := #[.int .i64 c, .int .i64 d]) (g := w.heap.size + 1) (by simp)).alloc (.cells #[.int .i64 0, .int .i64 0] 23)).alloc (.cells #[.int .i64 (max a c), .int .i64 (min b d)] 23))
  have K2 := Lib.hid ((Blk.at (w := ((w.alloc (.cells #[.int .i64 a, .int .i64 b] 23)).alloc (.cells #[.int .i64 c, .int .i64 d] 23))) (t := 23) (cs := #[.int .i64 0, .int .i64 0]) (g := w.heap.size + 1 + 1) (by simp)).alloc (.cells #[.int .i64 (max a c), .int .i64 (min b d)] 23))
  have K3 := Lib.hid (Blk.at (w := (((w.alloc (.cells #[.int .i64 a, .int .i64 b] 23)).alloc (.cells #[.int .i64 c, .int .i64 d] 23)).alloc (.cells #[.int .i64 0, .int .i64 0] 23))) (t := 23) (cs := #[.int .i64 (max a c), .int .i64 (min b d)]) (g := w.heap.size + 1 + 1 + 1) (by simp))
  have KB := Lib.hid (below_trans (below_trans (below_trans (below_trans (below_self w) (below_alloc w (.cells #[.int .i64 a, .int .i64 b] 23))) (below_alloc (w.alloc (.cells #[.int .i64 a, .int .i64 b] 23)) (.cells #[.int .i64 c, .int .i64 d] 23))) (below_alloc ((w.alloc (.cells #[.int .i64 a, .int .i64 b] 23)).alloc (.cells #[.int .i64 c, .int .i64 d] 23)) (.cells #[.int .i64 0, .int .i64 0] 23))) (below_alloc (((w.alloc (.cells #[.int .i64 a, .int .i64 b] 23)).alloc (.cells #[.int .i64 c, .int .i64 d] 23)).alloc (.cells #[.int .i64 0, .int .i64 0] 23)) (.cells #[.int .i64 (max a c), .int .i64 (min b d)] 23)))
  cases hok : mB a b c d with
  | true =>
    rw [hok] at HR
    clear hok
    simp only [if_true]
    go_enter Try.func11, Try.ntmps11
    go_wp2_with fail
    refine (HR.out _).mono ?_
    rintro e w1 ⟨rfl, hb⟩
    have K3' := Lib.hid (K3.out.below hb (Nat.le_refl _))
    have K2' := Lib.hid (K2.out.below hb (Nat.le_refl _))
    have KB' := Lib.hid (below_trans KB.out hb)
    clear hb
    have c30 := K3'.out.cell 0
    have c31 := K3'.out.cell 1
    have c20 := K2'.out.cell 0
    have c21 := K2'.out.cell 1
    have f20 := K2'.out.frozen 0
    have f21 := K2'.out.frozen 1
    go_wp2_with fail
    exact ret_spb rfl rfl rfl rfl rfl (show Blk _ _ _ #[.int .i64 (max a c), .int .i64 (min b d)] from (K2'.out.set_ 0 _).set_ 1 _) rfl ((KB'.out.setCell (show w.heap.size ≤ w.heap.size + 1 + 1 by omega) _).setCell (show w.heap.size ≤ w.heap.size + 1 + 1 by omega) _)
  | false =>
    rw [hok] at HR
    clear hok
    go_enter Try.func11, Try.ntmps11
    go_wp2_with fail
    refine (HR.out _).mono ?_
    rintro e w1 ⟨rfl, hb⟩
    have K2' := Lib.hid (K2.out.below hb (Nat.le_refl _))
    have KB' := Lib.hid (below_trans KB.out hb)
    clear hb
    have c20 := K2'.out.cell 0
    have c21 := K2'.out.cell 1
    have f20 := K2'.out.frozen 0
    have f21 := K2'.out.frozen 1
    go_wp2_with fail
    exact ret_spb rfl rfl rfl rfl rfl (show Blk _ _ _ #[.int .i64 0, .int .i64 0] from (K2'.out.set_ 0 _).set_ 1 _) rfl ((KB'.out.setCell (show w.heap.size ≤ w.heap.size + 1 + 1 by omega) _).setCell (show w.heap.size ≤ w.heap.size + 1 + 1 by omega) _)
def hiS (b n d : Int) : Int := scQ b n d + (if scR b n d = 0 then 0 else 1)
def okB (a b n d : Int) : Bool := decide (a ≤ b) && scB a n d && scB b n d && decide (hiS b n d ≤ 1125899906842624)
def loV (a b n d : Int) : Int := if okB a b n d then scQ a n d else 0
def hiV (a b n d : Int) : Int := if okB a b n d then hiS b n d else 0
theorem scR_nn (b n d : Int) (h : scB b n d = true) : 0 ≤ scR b n d := by
  have h1 := (sc_yes h).2
  unfold scB at h
  simp only [Bool.and_eq_true, decide_eq_true_eq] at h
  have := of_volB h.1.1.2
  rw [h1]
  exact Int.emod_nonneg _ h.1.2
theorem scQ_bd (b n d : Int) : scQ b n d ≤ 1125899906842624 ∧ 0 ≤ scQ b n d := by
  unfold scQ
  split
  · next h =>
    unfold scB at h
    simp only [Bool.and_eq_true, decide_eq_true_eq] at h
    have h1 := of_volB h.1.1.1.1
    have h2 := of_volB h.1.1.1.2
    have h3 := of_volB h.1.1.2
    exact ⟨h.2, Int.ediv_nonneg (Int.mul_nonneg h1.1 h2.1) h3.1⟩
  · omega
theorem scale_b (a n d : Int) (w : World) : Calls Try.prog 31 #[.int .i64 a, .int .i64 n, .int .i64 d] w (Ret (.tuple #[.int .i64 (scQ a n d), .int .i64 (scR a n d), .bool (scB a n d)]) w) := (scale_any a n d w).mono fun e w' h => ⟨h.1, by obtain ⟨_, k, rfl⟩ := h; exact below_drewN (below_self _) k⟩
set_option maxHeartbeats 1000000 in
theorem scale_sp (a b n d : Int) (w : World) : Calls Try.prog 9 #[sp a b, .int .i64 n, .int .i64 d] w (Ret (.tuple #[sp (loV a b n d) (hiV a b n d), .bool (okB a b n d)]) w) := by
  have HR := Lib.hid (fun W => right_any a b W)
  have H1 := Lib.hid (fun W => scale_b a n d W)
  have H2 := Lib.hid (fun W => scale_b b n d W)
  unfold loV hiV
  unfold sp at *
  have K0 := Lib.hid ((Blk.at (w := w) (t := 23) (cs := #[.int .i64 a, .int .i64 b]) (g := w.heap.size) (by simp)).alloc (.cells #[.int .i64 0, .int .i64 0] 23))
  have K1 := Lib.hid (Blk.at (w := (w.alloc (.cells #[.int .i64 a, .int .i64 b] 23))) (t := 23) (cs := #[.int .i64 0, .int .i64 0]) (g := w.heap.size + 1) (by simp))
  have KB := Lib.hid (below_trans (below_trans (below_self w) (below_alloc w (.cells #[.int .i64 a, .int .i64 b] 23))) (below_alloc (w.alloc (.cells #[.int .i64 a, .int .i64 b] 23)) (.cells #[.int .i64 0, .int .i64 0] 23)))
  by_cases hab : a ≤ b
  · rw [decide_eq_true hab] at HR
    have hr := fun h => scR_nn b n d h
    have hq := scQ_bd b n d
    have ok1 : okB a b n d = (scB a n d && scB b n d && decide (hiS b n d ≤ 1125899906842624)) := by unfold okB; rw [decide_eq_true hab, Bool.true_and]
    rw [ok1]
    unfold hiS
    clear ok1 hab
    generalize scQ a n d = qa at *
    generalize scR a n d = ra at *
    generalize scQ b n d = qb at *
    generalize scR b n d = rb at *
    cases h1 : scB a n d with
    | false =>
      rw [h1] at H1
      clear h1 hr
      generalize scB b n d = okb at *
      have d0 : (true == false) = false := rfl
      simp only [Bool.false_and, Bool.false_eq_true, if_false]
      go_enter Try.func9, Try.ntmps9
      go_wp2_with fail
      refine (HR.out _).mono ?_
      rintro e w1 ⟨rfl, hb⟩
      have K0' := Lib.hid (K0.out.below hb (Nat.le_refl _))
      have K1' := Lib.hid (K1.out.below hb (Nat.le_refl _))
      have KB' := Lib.hid (below_trans KB.out hb)
      clear hb K0 K1 KB
      have c00 := K0'.out.cell 0
      have c01 := K0'.out.cell 1
      have c10 := K1'.out.cell 0
      have c11 := K1'.out.cell 1
      have f10 := K1'.out.frozen 0
      have f11 := K1'.out.frozen 1
      go_wp2_with fail
      refine (H1.out _).mono ?_
      rintro e w2 ⟨rfl, hb⟩
      clear c00 c01 c10 c11 f10 f11
      have K0'' := Lib.hid (K0'.out.below hb (Nat.le_refl _))
      clear K0'
      have K0' := K0''
      have K1'' := Lib.hid (K1'.out.below hb (Nat.le_refl _))
      clear K1' K0''
      have K1' := K1''
      have KB'' := Lib.hid (below_trans KB'.out hb)
      clear hb KB' K1''
      have KB' := KB''
      clear KB''
      have c00 := K0'.out.cell 0
      have c01 := K0'.out.cell 1
      have c10 := K1'.out.cell 0
      have c11 := K1'.out.cell 1
      have f10 := K1'.out.frozen 0
      have f11 := K1'.out.frozen 1
      go_wp2_with fail
      refine (H2.out _).mono ?_
      rintro e w3 ⟨rfl, hb⟩
      clear c00 c01 c10 c11 f10 f11
      have K0'' := Lib.hid (K0'.out.below hb (Nat.le_refl _))
      clear K0'
      have K0' := K0''
      have K1'' := Lib.hid (K1'.out.below hb (Nat.le_refl _))
      clear K1' K0''
      have K1' := K1''
      have KB'' := Lib.hid (below_trans KB'.out hb)
      clear hb KB' K1''
      have KB' := KB''
      clear KB''
      have c00 := K0'.out.cell 0
      have c01 := K0'.out.cell 1
      have c10 := K1'.out.cell 0
      have c11 := K1'.out.cell 1
      have f10 := K1'.out.frozen 0
      have f11 := K1'.out.frozen 1
      go_wp2_with fail
      exact ret_spb rfl rfl rfl rfl rfl (show Blk _ _ _ #[.int .i64 0, .int .i64 0] from (K1'.out.set_ 0 _).set_ 1 _) rfl ((KB'.out.setCell (show w.heap.size ≤ w.heap.size + 1 by omega) _).setCell (show w.heap.size ≤ w.heap.size + 1 by omega) _)
    | true =>
      rw [h1] at H1
      clear h1
      cases h2 : scB b n d with
      | false =>
        rw [h2] at H2
        clear h2 hr
        simp only [Bool.and_false, Bool.false_and, Bool.false_eq_true, if_false]
        go_enter Try.func9, Try.ntmps9
        go_wp2_with fail
        refine (HR.out _).mono ?_
        rintro e w1 ⟨rfl, hb⟩
        have K0' := Lib.hid (K0.out.below hb (Nat.le_refl _))
        have K1' := Lib.hid (K1.out.below hb (Nat.le_refl _))
        have KB' := Lib.hid (below_trans KB.out hb)
        clear hb K0 K1 KB
        have c00 := K0'.out.cell 0
        have c01 := K0'.out.cell 1
        have c10 := K1'.out.cell 0
        have c11 := K1'.out.cell 1
        have f10 := K1'.out.frozen 0
        have f11 := K1'.out.frozen 1
        go_wp2_with fail
        refine (H1.out _).mono ?_
        rintro e w2 ⟨rfl, hb⟩
        clear c00 c01 c10 c11 f10 f11
        have K0'' := Lib.hid (K0'.out.below hb (Nat.le_refl _))
        clear K0'
        have K0' := K0''
        have K1'' := Lib.hid (K1'.out.below hb (Nat.le_refl _))
        clear K1' K0''
        have K1' := K1''
        have KB'' := Lib.hid (below_trans KB'.out hb)
        clear hb KB' K1''
        have KB' := KB''
        clear KB''
        have c00 := K0'.out.cell 0
        have c01 := K0'.out.cell 1
        have c10 := K1'.out.cell 0
        have c11 := K1'.out.cell 1
        have f10 := K1'.out.frozen 0
        have f11 := K1'.out.frozen 1
        go_wp2_with fail
        refine (H2.out _).mono ?_
        rintro e w3 ⟨rfl, hb⟩
        clear c00 c01 c10 c11 f10 f11
        have K0'' := Lib.hid (K0'.out.below hb (Nat.le_refl _))
        clear K0'
        have K0' := K0''
        have K1'' := Lib.hid (K1'.out.below hb (Nat.le_refl _))
        clear K1' K0''
        have K1' := K1''
        have KB'' := Lib.hid (below_trans KB'.out hb)
        clear hb KB' K1''
        have KB' := KB''
        clear KB''
        have c00 := K0'.out.cell 0
        have c01 := K0'.out.cell 1
        have c10 := K1'.out.cell 0
        have c11 := K1'.out.cell 1
        have f10 := K1'.out.frozen 0
        have f11 := K1'.out.frozen 1
        go_wp2_with fail
        exact ret_spb rfl rfl rfl rfl rfl (show Blk _ _ _ #[.int .i64 0, .int .i64 0] from (K1'.out.set_ 0 _).set_ 1 _) rfl ((KB'.out.setCell (show w.heap.size ≤ w.heap.size + 1 by omega) _).setCell (show w.heap.size ≤ w.heap.size + 1 by omega) _)
      | true =>
        rw [h2] at H2
        have hr := hr h2
        clear h2
        simp only [Bool.true_and, Bool.and_true]
        by_cases hz : rb = 0
        · subst hz
          have dq : decide (1125899906842624 < qb) = false := decide_eq_false (by omega)
          simp only [if_true, Int.add_zero]
          rw [decide_eq_true hq.1]
          simp only [if_true]
          clear hq hr
          go_enter Try.func9, Try.ntmps9
          go_wp2_with fail
          refine (HR.out _).mono ?_
          rintro e w1 ⟨rfl, hb⟩
          have K0' := Lib.hid (K0.out.below hb (Nat.le_refl _))
          have K1' := Lib.hid (K1.out.below hb (Nat.le_refl _))
          have KB' := Lib.hid (below_trans KB.out hb)
          clear hb K0 K1 KB
          have c00 := K0'.out.cell 0
          have c01 := K0'.out.cell 1
          have c10 := K1'.out.cell 0
          have c11 := K1'.out.cell 1
          have f10 := K1'.out.frozen 0
          have f11 := K1'.out.frozen 1
          go_wp2_with fail
          refine (H1.out _).mono ?_
          rintro e w2 ⟨rfl, hb⟩
          clear c00 c01 c10 c11 f10 f11
          have K0'' := Lib.hid (K0'.out.below hb (Nat.le_refl _))
          clear K0'
          have K0' := K0''
          have K1'' := Lib.hid (K1'.out.below hb (Nat.le_refl _))
          clear K1' K0''
          have K1' := K1''
          have KB'' := Lib.hid (below_trans KB'.out hb)
          clear hb KB' K1''
          have KB' := KB''
          clear KB''
          have c00 := K0'.out.cell 0
          have c01 := K0'.out.cell 1
          have c10 := K1'.out.cell 0
          have c11 := K1'.out.cell 1
          have f10 := K1'.out.frozen 0
          have f11 := K1'.out.frozen 1
          go_wp2_with fail
          refine (H2.out _).mono ?_
          rintro e w3 ⟨rfl, hb⟩
          clear c00 c01 c10 c11 f10 f11
          have K0'' := Lib.hid (K0'.out.below hb (Nat.le_refl _))
          clear K0'
          have K0' := K0''
          have K1'' := Lib.hid (K1'.out.below hb (Nat.le_refl _))
          clear K1' K0''
          have K1' := K1''
          have KB'' := Lib.hid (below_trans KB'.out hb)
          clear hb KB' K1''
          have KB' := KB''
          clear KB''
          have c00 := K0'.out.cell 0
          have c01 := K0'.out.cell 1
          have c10 := K1'.out.cell 0
          have c11 := K1'.out.cell 1
          have f10 := K1'.out.frozen 0
          have f11 := K1'.out.frozen 1
          go_wp2_with fail
          exact ret_spb rfl rfl rfl rfl rfl (show Blk _ _ _ #[.int .i64 qa, .int .i64 qb] from (K1'.out.set_ 0 _).set_ 1 _) rfl ((KB'.out.setCell (show w.heap.size ≤ w.heap.size + 1 by omega) _).setCell (show w.heap.size ≤ w.heap.size + 1 by omega) _)
        · have dz : (rb == 0) = false := beq_eq_false_iff_ne.2 hz
          have wq : IntKind.i64.wrap (qb + 1) = qb + 1 := by rw [IntKind.wrap_i64]; omega
          simp only [if_neg hz]
          clear hz hr
          by_cases hm : qb + 1 ≤ 1125899906842624
          · have dm : decide (1125899906842624 < qb + 1) = false := decide_eq_false (by omega)
            rw [decide_eq_true hm]
            simp only [if_true]
            clear hm hq
            go_enter Try.func9, Try.ntmps9
            go_wp2_with fail
            refine (HR.out _).mono ?_
            rintro e w1 ⟨rfl, hb⟩
            have K0' := Lib.hid (K0.out.below hb (Nat.le_refl _))
            have K1' := Lib.hid (K1.out.below hb (Nat.le_refl _))
            have KB' := Lib.hid (below_trans KB.out hb)
            clear hb K0 K1 KB
            have c00 := K0'.out.cell 0
            have c01 := K0'.out.cell 1
            have c10 := K1'.out.cell 0
            have c11 := K1'.out.cell 1
            have f10 := K1'.out.frozen 0
            have f11 := K1'.out.frozen 1
            go_wp2_with fail
            refine (H1.out _).mono ?_
            rintro e w2 ⟨rfl, hb⟩
            clear c00 c01 c10 c11 f10 f11
            have K0'' := Lib.hid (K0'.out.below hb (Nat.le_refl _))
            clear K0'
            have K0' := K0''
            have K1'' := Lib.hid (K1'.out.below hb (Nat.le_refl _))
            clear K1' K0''
            have K1' := K1''
            have KB'' := Lib.hid (below_trans KB'.out hb)
            clear hb KB' K1''
            have KB' := KB''
            clear KB''
            have c00 := K0'.out.cell 0
            have c01 := K0'.out.cell 1
            have c10 := K1'.out.cell 0
            have c11 := K1'.out.cell 1
            have f10 := K1'.out.frozen 0
            have f11 := K1'.out.frozen 1
            go_wp2_with fail
            refine (H2.out _).mono ?_
            rintro e w3 ⟨rfl, hb⟩
            clear c00 c01 c10 c11 f10 f11
            have K0'' := Lib.hid (K0'.out.below hb (Nat.le_refl _))
            clear K0'
            have K0' := K0''
            have K1'' := Lib.hid (K1'.out.below hb (Nat.le_refl _))
            clear K1' K0''
            have K1' := K1''
            have KB'' := Lib.hid (below_trans KB'.out hb)
            clear hb KB' K1''
            have KB' := KB''
            clear KB''
            have c00 := K0'.out.cell 0
            have c01 := K0'.out.cell 1
            have c10 := K1'.out.cell 0
            have c11 := K1'.out.cell 1
            have f10 := K1'.out.frozen 0
            have f11 := K1'.out.frozen 1
            go_wp2_with fail
            exact ret_spb rfl rfl rfl rfl rfl (show Blk _ _ _ #[.int .i64 qa, .int .i64 (qb + 1)] from (K1'.out.set_ 0 _).set_ 1 _) rfl ((KB'.out.setCell (show w.heap.size ≤ w.heap.size + 1 by omega) _).setCell (show w.heap.size ≤ w.heap.size + 1 by omega) _)
          · have dm : decide (1125899906842624 < qb + 1) = true := decide_eq_true (by omega)
            rw [decide_eq_false hm]
            simp only [Bool.false_eq_true, if_false]
            clear hm hq
            go_enter Try.func9, Try.ntmps9
            go_wp2_with fail
            refine (HR.out _).mono ?_
            rintro e w1 ⟨rfl, hb⟩
            have K0' := Lib.hid (K0.out.below hb (Nat.le_refl _))
            have K1' := Lib.hid (K1.out.below hb (Nat.le_refl _))
            have KB' := Lib.hid (below_trans KB.out hb)
            clear hb K0 K1 KB
            have c00 := K0'.out.cell 0
            have c01 := K0'.out.cell 1
            have c10 := K1'.out.cell 0
            have c11 := K1'.out.cell 1
            have f10 := K1'.out.frozen 0
            have f11 := K1'.out.frozen 1
            go_wp2_with fail
            refine (H1.out _).mono ?_
            rintro e w2 ⟨rfl, hb⟩
            clear c00 c01 c10 c11 f10 f11
            have K0'' := Lib.hid (K0'.out.below hb (Nat.le_refl _))
            clear K0'
            have K0' := K0''
            have K1'' := Lib.hid (K1'.out.below hb (Nat.le_refl _))
            clear K1' K0''
            have K1' := K1''
            have KB'' := Lib.hid (below_trans KB'.out hb)
            clear hb KB' K1''
            have KB' := KB''
            clear KB''
            have c00 := K0'.out.cell 0
            have c01 := K0'.out.cell 1
            have c10 := K1'.out.cell 0
            have c11 := K1'.out.cell 1
            have f10 := K1'.out.frozen 0
            have f11 := K1'.out.frozen 1
            go_wp2_with fail
            refine (H2.out _).mono ?_
            rintro e w3 ⟨rfl, hb⟩
            clear c00 c01 c10 c11 f10 f11
            have K0'' := Lib.hid (K0'.out.below hb (Nat.le_refl _))
            clear K0'
            have K0' := K0''
            have K1'' := Lib.hid (K1'.out.below hb (Nat.le_refl _))
            clear K1' K0''
            have K1' := K1''
            have KB'' := Lib.hid (below_trans KB'.out hb)
            clear hb KB' K1''
            have KB' := KB''
            clear KB''
            have c00 := K0'.out.cell 0
            have c01 := K0'.out.cell 1
            have c10 := K1'.out.cell 0
            have c11 := K1'.out.cell 1
            have f10 := K1'.out.frozen 0
            have f11 := K1'.out.frozen 1
            go_wp2_with fail
            exact ret_spb rfl rfl rfl rfl rfl (show Blk _ _ _ #[.int .i64 0, .int .i64 0] from (K1'.out.set_ 0 _).set_ 1 _) rfl ((KB'.out.setCell (show w.heap.size ≤ w.heap.size + 1 by omega) _).setCell (show w.heap.size ≤ w.heap.size + 1 by omega) _)
  · rw [decide_eq_false hab] at HR
    have ok1 : okB a b n d = false := by unfold okB; rw [decide_eq_false hab, Bool.false_and, Bool.false_and, Bool.false_and]
    rw [ok1]
    clear ok1 hab H1 H2
    simp only [Bool.false_eq_true, if_false]
    go_enter Try.func9, Try.ntmps9
    go_wp2_with fail
    refine (HR.out _).mono ?_
    rintro e w1 ⟨rfl, hb⟩
    have K0' := Lib.hid (K0.out.below hb (Nat.le_refl _))
    have K1' := Lib.hid (K1.out.below hb (Nat.le_refl _))
    have KB' := Lib.hid (below_trans KB.out hb)
    clear hb K0 K1 KB
    have c00 := K0'.out.cell 0
    have c01 := K0'.out.cell 1
    have c10 := K1'.out.cell 0
    have c11 := K1'.out.cell 1
    have f10 := K1'.out.frozen 0
    have f11 := K1'.out.frozen 1
    go_wp2_with fail
    exact ret_spb rfl rfl rfl rfl rfl (show Blk _ _ _ #[.int .i64 0, .int .i64 0] from (K1'.out.set_ 0 _).set_ 1 _) rfl ((KB'.out.setCell (show w.heap.size ≤ w.heap.size + 1 by omega) _).setCell (show w.heap.size ≤ w.heap.size + 1 by omega) _)
end Go.Proofs.Ytecnonmcmdaopaa.Sp
