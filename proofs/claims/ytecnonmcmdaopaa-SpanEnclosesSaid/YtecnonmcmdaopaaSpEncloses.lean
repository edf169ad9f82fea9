/- The statement SpanEncloses: the limited sum and difference of integers of two spans lie in Add and Sub, the scaled integer, rounded down and up, in Scale where that is true; all these are right. Conditions: none. -/
import Derived.Test.YtecnonmcmdaopaaSpCard
namespace Go.Proofs.Ytecnonmcmdaopaa.spanEncloses
open Go.ChangeShapes Go.WideShapes Go.ChangeAt Go.RowKit Go.Joins Go.Deep Sp
set_option linter.unusedVariables false
set_option maxRecDepth 100000
theorem lim_le {x y : Int} (h : x ≤ y) : lim x ≤ lim y := by unfold lim; (repeat' split) <;> omega
theorem scB_of {a b n d x y : Int} (h1 : a ≤ n) (h2 : n ≤ b) (ha : scB a x y = true) (hb : scB b x y = true) : scB n x y = true := by
  unfold scB at *
  simp only [Bool.and_eq_true, decide_eq_true_eq] at *
  have a1 := of_volB ha.1.1.1.1
  have b1 := of_volB hb.1.1.1.1
  have x1 := of_volB ha.1.1.1.2
  have y1 := of_volB ha.1.1.2
  refine ⟨⟨⟨⟨volB_yes (by omega) (by omega), ha.1.1.1.2⟩, ha.1.1.2⟩, ha.1.2⟩, ?_⟩
  exact Int.le_trans (Int.ediv_le_ediv (by omega) (Int.mul_le_mul_of_nonneg_right h2 x1.1)) hb.2
theorem scQ_le {a b x y : Int} (h : a ≤ b) (ha : scB a x y = true) (hb : scB b x y = true) : scQ a x y ≤ scQ b x y := by
  rw [(sc_yes ha).1, (sc_yes hb).1]
  unfold scB at *
  simp only [Bool.and_eq_true, decide_eq_true_eq] at *
  have x1 := of_volB ha.1.1.1.2
  have y1 := of_volB ha.1.1.2
  exact Int.ediv_le_ediv (by omega) (Int.mul_le_mul_of_nonneg_right h x1.1)
/-- Rounded up, too: if the quotients are the same, the remainders are in order. -/
theorem scU_le {a b x y : Int} (h : a ≤ b) (ha : scB a x y = true) (hb : scB b x y = true) : hiS a x y ≤ hiS b x y := by
  have hq := scQ_le h ha hb
  unfold hiS
  have hrb := scR_nn b x y hb
  have hra := scR_nn a x y ha
  by_cases he : scQ a x y = scQ b x y
  · have h1 := sc_yes ha
    have h2 := sc_yes hb
    have hx : scR a x y ≤ scR b x y := by
      rw [h1.1, h2.1] at he
      rw [h1.2, h2.2]
      have e1 := Int.emod_add_mul_ediv (a * x) y
      have e2 := Int.emod_add_mul_ediv (b * x) y
      rw [he] at e1
      unfold scB at ha
      simp only [Bool.and_eq_true, decide_eq_true_eq] at ha
      have x1 := of_volB ha.1.1.1.2
      have := Int.mul_le_mul_of_nonneg_right h x1.1
      omega
    split <;> split <;> omega
  · split <;> split <;> omega
theorem ok_of {a b x y : Int} (h : okB a b x y = true) : a ≤ b ∧ scB a x y = true ∧ scB b x y = true ∧ hiS b x y ≤ 1125899906842624 ∧ loV a b x y = scQ a x y ∧ hiV a b x y = hiS b x y := by
  have h0 := h
  unfold okB at h
  simp only [Bool.and_eq_true, decide_eq_true_eq] at h
  exact ⟨h.1.1.1, h.1.1.2, h.1.2, h.2, by unfold loV; rw [if_pos h0], by unfold hiV; rw [if_pos h0]⟩
set_option maxHeartbeats 4000000 in
theorem walk_out (a b : Int) (wa : I64 a) (wb : I64 b) (c d : Int) (wc : I64 c) (wd : I64 d) (n : Int) (wn : I64 n) (m : Int) (wm : I64 m) (x : Int) (wx : I64 x) (y : Int) (wy : I64 y) (w : World) (ho : decide (a ≤ n ∧ n ≤ b) = false ∨ decide (c ≤ m ∧ m ≤ d) = false) : Calls Try.prog 4 #[sp a b, sp c d, .int .i64 n, .int .i64 m, .int .i64 x, .int .i64 y] w (IsTrue w) := by
  have SM := Lib.hid (fun W => small_any W)
  have H1 := Lib.hid (fun W => has_any a b n W)
  have H2 := Lib.hid (fun W => has_any c d m W)
  unfold sp at *
  clear wa wb wc wd wn wm wx wy
  generalize decide (a ≤ n ∧ n ≤ b) = f1 at *
  generalize decide (c ≤ m ∧ m ≤ d) = f2 at *
  cases f1 with
  | false =>
    clear ho
    have HB0 := Lib.hid (below_self w)
    have HB1 := Lib.hid (below_trans HB0.out (below_alloc w (.cells #[.int .i64 a, .int .i64 b] 23)))
    have A_1 := Lib.hid (Cl.at (w := w) (x := a) (y := b) (g := w.heap.size) (by simp))
    clear HB0 
    have HB2 := Lib.hid (below_trans HB1.out (below_alloc (w.alloc (.cells #[.int .i64 a, .int .i64 b] 23)) (.cells #[.int .i64 c, .int .i64 d] 23)))
    have A_2 := Lib.hid (A_1.out.alloc (.cells #[.int .i64 c, .int .i64 d] 23))
    have B_2 := Lib.hid (Cl.at (w := (w.alloc (.cells #[.int .i64 a, .int .i64 b] 23))) (x := c) (y := d) (g := w.heap.size + 1) (by simp))
    clear HB1 A_1
    go_enter Try.func4, Try.ntmps4
    have cA0 := A_2.out.1
    have cA1 := A_2.out.2
    have cB0 := B_2.out.1
    have cB1 := B_2.out.2
    go_wp2_with fail
    clear cA0 cA1 cB0 cB1
    refine (SM.out _).mono ?_
    rintro e w3 ⟨rfl, hb⟩
    have HB3 := Lib.hid (below_trans HB2.out hb)
    have A_3 := Lib.hid (A_2.out.below hb)
    have B_3 := Lib.hid (B_2.out.below hb)
    clear hb HB2 A_2 B_2
    have cA0 := A_3.out.1
    have cA1 := A_3.out.2
    have cB0 := B_3.out.1
    have cB1 := B_3.out.2
    go_wp2_with fail
    clear cA0 cA1 cB0 cB1
    refine (H1.out _).mono ?_
    rintro e w4 ⟨rfl, hb⟩
    have HB4 := Lib.hid (below_trans HB3.out hb)
    have A_4 := Lib.hid (A_3.out.below hb)
    have B_4 := Lib.hid (B_3.out.below hb)
    clear hb HB3 A_3 B_3
    have cA0 := A_4.out.1
    have cA1 := A_4.out.2
    have cB0 := B_4.out.1
    have cB1 := B_4.out.2
    go_wp2_with fail
    go_ret
    exact ⟨rfl, HB4.out⟩
  | true =>
    obtain rfl : f2 = false := by simpa using ho
    clear ho
    have HB0 := Lib.hid (below_self w)
    have HB1 := Lib.hid (below_trans HB0.out (below_alloc w (.cells #[.int .i64 a, .int .i64 b] 23)))
    have A_1 := Lib.hid (Cl.at (w := w) (x := a) (y := b) (g := w.heap.size) (by simp))
    clear HB0 
    have HB2 := Lib.hid (below_trans HB1.out (below_alloc (w.alloc (.cells #[.int .i64 a, .int .i64 b] 23)) (.cells #[.int .i64 c, .int .i64 d] 23)))
    have A_2 := Lib.hid (A_1.out.alloc (.cells #[.int .i64 c, .int .i64 d] 23))
    have B_2 := Lib.hid (Cl.at (w := (w.alloc (.cells #[.int .i64 a, .int .i64 b] 23))) (x := c) (y := d) (g := w.heap.size + 1) (by simp))
    clear HB1 A_1
    go_enter Try.func4, Try.ntmps4
    have cA0 := A_2.out.1
    have cA1 := A_2.out.2
    have cB0 := B_2.out.1
    have cB1 := B_2.out.2
    go_wp2_with fail
    clear cA0 cA1 cB0 cB1
    refine (SM.out _).mono ?_
    rintro e w3 ⟨rfl, hb⟩
    have HB3 := Lib.hid (below_trans HB2.out hb)
    have A_3 := Lib.hid (A_2.out.below hb)
    have B_3 := Lib.hid (B_2.out.below hb)
    clear hb HB2 A_2 B_2
    have cA0 := A_3.out.1
    have cA1 := A_3.out.2
    have cB0 := B_3.out.1
    have cB1 := B_3.out.2
    go_wp2_with fail
    clear cA0 cA1 cB0 cB1
    refine (H1.out _).mono ?_
    rintro e w4 ⟨rfl, hb⟩
    have HB4 := Lib.hid (below_trans HB3.out hb)
    have A_4 := Lib.hid (A_3.out.below hb)
    have B_4 := Lib.hid (B_3.out.below hb)
    clear hb HB3 A_3 B_3
    have cA0 := A_4.out.1
    have cA1 := A_4.out.2
    have cB0 := B_4.out.1
    have cB1 := B_4.out.2
    go_wp2_with fail
    clear cA0 cA1 cB0 cB1
    refine (H2.out _).mono ?_
    rintro e w5 ⟨rfl, hb⟩
    have HB5 := Lib.hid (below_trans HB4.out hb)
    have A_5 := Lib.hid (A_4.out.below hb)
    have B_5 := Lib.hid (B_4.out.below hb)
    clear hb HB4 A_4 B_4
    have cA0 := A_5.out.1
    have cA1 := A_5.out.2
    have cB0 := B_5.out.1
    have cB1 := B_5.out.2
    go_wp2_with fail
    go_ret
    exact ⟨rfl, HB5.out⟩
set_option maxHeartbeats 8000000 in
theorem walk_in (a b : Int) (wa : I64 a) (wb : I64 b) (c d : Int) (wc : I64 c) (wd : I64 d) (n : Int) (wn : I64 n) (m : Int) (wm : I64 m) (x : Int) (wx : I64 x) (y : Int) (wy : I64 y) (w : World) (h1 : a ≤ n ∧ n ≤ b) (h2 : c ≤ m ∧ m ≤ d) : Calls Try.prog 4 #[sp a b, sp c d, .int .i64 n, .int .i64 m, .int .i64 x, .int .i64 y] w (IsTrue w) := by
  have SM := Lib.hid (fun W => small_any W)
  have H1 := Lib.hid (fun W => has_any a b n W)
  have H2 := Lib.hid (fun W => has_any c d m W)
  rw [decide_eq_true h1] at H1
  rw [decide_eq_true h2] at H2
  have AD := Lib.hid (fun W => add_sp a b c d wa wb wc wd W)
  have SU := Lib.hid (fun W => sub_sp a b c d wa wb wc wd W)
  have R1 := Lib.hid (fun W => right_any (lim (a + c)) (lim (b + d)) W)
  rw [decide_eq_true (lim_le (by omega))] at R1
  have R2 := Lib.hid (fun W => right_any (lim (a - d)) (lim (b - c)) W)
  rw [decide_eq_true (lim_le (by omega))] at R2
  have E1 := Lib.hid (fun W => add_b n m wn wm W)
  have E2 := Lib.hid (fun W => sub_b n m wn wm W)
  have H3 := Lib.hid (fun W => has_any (lim (a + c)) (lim (b + d)) (lim (n + m)) W)
  rw [decide_eq_true ⟨lim_le (by omega), lim_le (by omega)⟩] at H3
  have H4 := Lib.hid (fun W => has_any (lim (a - d)) (lim (b - c)) (lim (n - m)) W)
  rw [decide_eq_true ⟨lim_le (by omega), lim_le (by omega)⟩] at H4
  have SC := Lib.hid (fun W => scale_sp a b x y W)
  have EX := Lib.hid (fun W => scale_b n x y W)
  have hok := fun h => ok_of (a := a) (b := b) (x := x) (y := y) h
  clear wa wb wc wd wn wm wx wy h2
  generalize lim (a + c) = p0 at *
  generalize lim (b + d) = p1 at *
  generalize lim (a - d) = q0 at *
  generalize lim (b - c) = q1 at *
  generalize lim (n + m) = e1 at *
  generalize lim (n - m) = e2 at *
  cases hk : okB a b x y with
  | false =>
    rw [hk] at SC
    clear hok hk EX h1
    unfold sp at *
    generalize loV a b x y = s0 at *
    generalize hiV a b x y = s1 at *
    have HB0 := Lib.hid (below_self w)
    have HB1 := Lib.hid (below_trans HB0.out (below_alloc w (.cells #[.int .i64 a, .int .i64 b] 23)))
    have A_1 := Lib.hid (Cl.at (w := w) (x := a) (y := b) (g := w.heap.size) (by simp))
    clear HB0 
    have HB2 := Lib.hid (below_trans HB1.out (below_alloc (w.alloc (.cells #[.int .i64 a, .int .i64 b] 23)) (.cells #[.int .i64 c, .int .i64 d] 23)))
    have A_2 := Lib.hid (A_1.out.alloc (.cells #[.int .i64 c, .int .i64 d] 23))
    have B_2 := Lib.hid (Cl.at (w := (w.alloc (.cells #[.int .i64 a, .int .i64 b] 23))) (x := c) (y := d) (g := w.heap.size + 1) (by simp))
    clear HB1 A_1
    go_enter Try.func4, Try.ntmps4
    have cA0 := A_2.out.1
    have cA1 := A_2.out.2
    have cB0 := B_2.out.1
    have cB1 := B_2.out.2
    go_wp2_with fail
    clear cA0 cA1 cB0 cB1
    refine (SM.out _).mono ?_
    rintro e w3 ⟨rfl, hb⟩
    have HB3 := Lib.hid (below_trans HB2.out hb)
    have A_3 := Lib.hid (A_2.out.below hb)
    have B_3 := Lib.hid (B_2.out.below hb)
    clear hb HB2 A_2 B_2
    have cA0 := A_3.out.1
    have cA1 := A_3.out.2
    have cB0 := B_3.out.1
    have cB1 := B_3.out.2
    go_wp2_with fail
    clear cA0 cA1 cB0 cB1
    refine (H1.out _).mono ?_
    rintro e w4 ⟨rfl, hb⟩
    have HB4 := Lib.hid (below_trans HB3.out hb)
    have A_4 := Lib.hid (A_3.out.below hb)
    have B_4 := Lib.hid (B_3.out.below hb)
    clear hb HB3 A_3 B_3
    have cA0 := A_4.out.1
    have cA1 := A_4.out.2
    have cB0 := B_4.out.1
    have cB1 := B_4.out.2
    go_wp2_with fail
    clear cA0 cA1 cB0 cB1
    refine (H2.out _).mono ?_
    rintro e w5 ⟨rfl, hb⟩
    have HB5 := Lib.hid (below_trans HB4.out hb)
    have A_5 := Lib.hid (A_4.out.below hb)
    have B_5 := Lib.hid (B_4.out.below hb)
    clear hb HB4 A_4 B_4
    have cA0 := A_5.out.1
    have cA1 := A_5.out.2
    have cB0 := B_5.out.1
    have cB1 := B_5.out.2
    go_wp2_with fail
    clear cA0 cA1 cB0 cB1
    refine (AD.out _).mono ?_
    rintro e w6 ⟨rfl, hb⟩
    have HB6 := Lib.hid (below_trans HB5.out hb)
    have A_6 := Lib.hid (A_5.out.below hb)
    have B_6 := Lib.hid (B_5.out.below hb)
    clear hb HB5 A_5 B_5
    have HB7 := Lib.hid (below_trans HB6.out (below_alloc w6 (.cells #[.int .i64 p0, .int .i64 p1] 23)))
    have A_7 := Lib.hid (A_6.out.alloc (.cells #[.int .i64 p0, .int .i64 p1] 23))
    have B_7 := Lib.hid (B_6.out.alloc (.cells #[.int .i64 p0, .int .i64 p1] 23))
    have P_7 := Lib.hid (Cl.at (w := w6) (x := p0) (y := p1) (g := w6.heap.size) (by simp))
    clear HB6 A_6 B_6
    have cA0 := A_7.out.1
    have cA1 := A_7.out.2
    have cB0 := B_7.out.1
    have cB1 := B_7.out.2
    have cP0 := P_7.out.1
    have cP1 := P_7.out.2
    go_wp2_with fail
    clear cA0 cA1 cB0 cB1 cP0 cP1
    refine (SU.out _).mono ?_
    rintro e w8 ⟨rfl, hb⟩
    have HB8 := Lib.hid (below_trans HB7.out hb)
    have A_8 := Lib.hid (A_7.out.below hb)
    have B_8 := Lib.hid (B_7.out.below hb)
    have P_8 := Lib.hid (P_7.out.below hb)
    clear hb HB7 A_7 B_7 P_7
    have HB9 := Lib.hid (below_trans HB8.out (below_alloc w8 (.cells #[.int .i64 q0, .int .i64 q1] 23)))
    have A_9 := Lib.hid (A_8.out.alloc (.cells #[.int .i64 q0, .int .i64 q1] 23))
    have B_9 := Lib.hid (B_8.out.alloc (.cells #[.int .i64 q0, .int .i64 q1] 23))
    have P_9 := Lib.hid (P_8.out.alloc (.cells #[.int .i64 q0, .int .i64 q1] 23))
    have Q_9 := Lib.hid (Cl.at (w := w8) (x := q0) (y := q1) (g := w8.heap.size) (by simp))
    clear HB8 A_8 B_8 P_8
    have cA0 := A_9.out.1
    have cA1 := A_9.out.2
    have cB0 := B_9.out.1
    have cB1 := B_9.out.2
    have cP0 := P_9.out.1
    have cP1 := P_9.out.2
    have cQ0 := Q_9.out.1
    have cQ1 := Q_9.out.2
    go_wp2_with fail
    clear cA0 cA1 cB0 cB1 cP0 cP1 cQ0 cQ1
    have HSb := Lib.hid (show ∀ W W', Below W.heap.size W W' → (W.cell? ⟨w.heap.size, 0, none⟩ = some (.int .i64 a) ∧ W.cell? ⟨w.heap.size, 1, none⟩ = some (.int .i64 b) ∧ W.cell? ⟨w6.heap.size, 0, none⟩ = some (.int .i64 p0) ∧ W.cell? ⟨w6.heap.size, 1, none⟩ = some (.int .i64 p1) ∧ W.cell? ⟨w8.heap.size, 0, none⟩ = some (.int .i64 q0) ∧ W.cell? ⟨w8.heap.size, 1, none⟩ = some (.int .i64 q1) ∧ Below w.heap.size w W) → (W'.cell? ⟨w.heap.size, 0, none⟩ = some (.int .i64 a) ∧ W'.cell? ⟨w.heap.size, 1, none⟩ = some (.int .i64 b) ∧ W'.cell? ⟨w6.heap.size, 0, none⟩ = some (.int .i64 p0) ∧ W'.cell? ⟨w6.heap.size, 1, none⟩ = some (.int .i64 p1) ∧ W'.cell? ⟨w8.heap.size, 0, none⟩ = some (.int .i64 q0) ∧ W'.cell? ⟨w8.heap.size, 1, none⟩ = some (.int .i64 q1) ∧ Below w.heap.size w W') from fun W W' hb h => by obtain ⟨h0, h1, h2, h3, h4, h5, h6⟩ := h; exact ⟨cell_below hb h0, cell_below hb h1, cell_below hb h2, cell_below hb h3, cell_below hb h4, cell_below hb h5, below_trans h6 hb⟩)
    have tb0 := s_call (S := (fun W => W.cell? ⟨w.heap.size, 0, none⟩ = some (.int .i64 a) ∧ W.cell? ⟨w.heap.size, 1, none⟩ = some (.int .i64 b) ∧ W.cell? ⟨w6.heap.size, 0, none⟩ = some (.int .i64 p0) ∧ W.cell? ⟨w6.heap.size, 1, none⟩ = some (.int .i64 p1) ∧ W.cell? ⟨w8.heap.size, 0, none⟩ = some (.int .i64 q0) ∧ W.cell? ⟨w8.heap.size, 1, none⟩ = some (.int .i64 q1) ∧ Below w.heap.size w W)) HSb.out R1.out
    try dsimp only at tb0
    have Qb0 := Lib.hid tb0
    clear tb0
    have tb1 := s_call (S := (fun W => W.cell? ⟨w.heap.size, 0, none⟩ = some (.int .i64 a) ∧ W.cell? ⟨w.heap.size, 1, none⟩ = some (.int .i64 b) ∧ W.cell? ⟨w6.heap.size, 0, none⟩ = some (.int .i64 p0) ∧ W.cell? ⟨w6.heap.size, 1, none⟩ = some (.int .i64 p1) ∧ W.cell? ⟨w8.heap.size, 0, none⟩ = some (.int .i64 q0) ∧ W.cell? ⟨w8.heap.size, 1, none⟩ = some (.int .i64 q1) ∧ Below w.heap.size w W)) HSb.out R2.out
    try dsimp only at tb1
    have Qb1 := Lib.hid tb1
    clear tb1
    have tb2 := s_call (S := (fun W => W.cell? ⟨w.heap.size, 0, none⟩ = some (.int .i64 a) ∧ W.cell? ⟨w.heap.size, 1, none⟩ = some (.int .i64 b) ∧ W.cell? ⟨w6.heap.size, 0, none⟩ = some (.int .i64 p0) ∧ W.cell? ⟨w6.heap.size, 1, none⟩ = some (.int .i64 p1) ∧ W.cell? ⟨w8.heap.size, 0, none⟩ = some (.int .i64 q0) ∧ W.cell? ⟨w8.heap.size, 1, none⟩ = some (.int .i64 q1) ∧ Below w.heap.size w W)) HSb.out E1.out
    try dsimp only at tb2
    have Qb2 := Lib.hid tb2
    clear tb2
    have tb3 := s_call (S := (fun W => W.cell? ⟨w.heap.size, 0, none⟩ = some (.int .i64 a) ∧ W.cell? ⟨w.heap.size, 1, none⟩ = some (.int .i64 b) ∧ W.cell? ⟨w6.heap.size, 0, none⟩ = some (.int .i64 p0) ∧ W.cell? ⟨w6.heap.size, 1, none⟩ = some (.int .i64 p1) ∧ W.cell? ⟨w8.heap.size, 0, none⟩ = some (.int .i64 q0) ∧ W.cell? ⟨w8.heap.size, 1, none⟩ = some (.int .i64 q1) ∧ Below w.heap.size w W)) HSb.out H3.out
    try dsimp only at tb3
    have Qb3 := Lib.hid tb3
    clear tb3
    have tb4 := s_call (S := (fun W => W.cell? ⟨w.heap.size, 0, none⟩ = some (.int .i64 a) ∧ W.cell? ⟨w.heap.size, 1, none⟩ = some (.int .i64 b) ∧ W.cell? ⟨w6.heap.size, 0, none⟩ = some (.int .i64 p0) ∧ W.cell? ⟨w6.heap.size, 1, none⟩ = some (.int .i64 p1) ∧ W.cell? ⟨w8.heap.size, 0, none⟩ = some (.int .i64 q0) ∧ W.cell? ⟨w8.heap.size, 1, none⟩ = some (.int .i64 q1) ∧ Below w.heap.size w W)) HSb.out E2.out
    try dsimp only at tb4
    have Qb4 := Lib.hid tb4
    clear tb4
    have tb5 := s_call (S := (fun W => W.cell? ⟨w.heap.size, 0, none⟩ = some (.int .i64 a) ∧ W.cell? ⟨w.heap.size, 1, none⟩ = some (.int .i64 b) ∧ W.cell? ⟨w6.heap.size, 0, none⟩ = some (.int .i64 p0) ∧ W.cell? ⟨w6.heap.size, 1, none⟩ = some (.int .i64 p1) ∧ W.cell? ⟨w8.heap.size, 0, none⟩ = some (.int .i64 q0) ∧ W.cell? ⟨w8.heap.size, 1, none⟩ = some (.int .i64 q1) ∧ Below w.heap.size w W)) HSb.out H4.out
    try dsimp only at tb5
    have Qb5 := Lib.hid tb5
    clear tb5
    go_region_held3 (fun W => W.cell? ⟨w.heap.size, 0, none⟩ = some (.int .i64 a) ∧ W.cell? ⟨w.heap.size, 1, none⟩ = some (.int .i64 b) ∧ W.cell? ⟨w6.heap.size, 0, none⟩ = some (.int .i64 p0) ∧ W.cell? ⟨w6.heap.size, 1, none⟩ = some (.int .i64 p1) ∧ W.cell? ⟨w8.heap.size, 0, none⟩ = some (.int .i64 q0) ∧ W.cell? ⟨w8.heap.size, 1, none⟩ = some (.int .i64 q1) ∧ Below w.heap.size w W)
      (((try dsimp only); (refine ⟨?_, ?_, ?_, ?_, ?_, ?_, ?_⟩ <;> (first | assumption | exact A_9.out.1 | exact A_9.out.2 | exact P_9.out.1 | exact P_9.out.2 | exact Q_9.out.1 | exact Q_9.out.2 | exact ⟨HB9.out.os, HB9.out.tape, HB9.out.output, HB9.out.size, HB9.out.block⟩ | go_keep))))
      ((first
        | (go_at_call 13; with_reducible refine (Qb0.out _ ?_).mono ?_; assumption; rintro e w' ⟨rfl, zz0, zz1, zz2, zz3, zz4, zz5, zz6⟩)
        | (go_at_call 13; with_reducible refine (Qb1.out _ ?_).mono ?_; assumption; rintro e w' ⟨rfl, zz0, zz1, zz2, zz3, zz4, zz5, zz6⟩)
        | (go_at_call 29; with_reducible refine (Qb2.out _ ?_).mono ?_; assumption; rintro e w' ⟨rfl, zz0, zz1, zz2, zz3, zz4, zz5, zz6⟩)
        | (go_at_call 17; with_reducible refine (Qb3.out _ ?_).mono ?_; assumption; rintro e w' ⟨rfl, zz0, zz1, zz2, zz3, zz4, zz5, zz6⟩)
        | (go_at_call 30; with_reducible refine (Qb4.out _ ?_).mono ?_; assumption; rintro e w' ⟨rfl, zz0, zz1, zz2, zz3, zz4, zz5, zz6⟩)
        | (go_at_call 17; with_reducible refine (Qb5.out _ ?_).mono ?_; assumption; rintro e w' ⟨rfl, zz0, zz1, zz2, zz3, zz4, zz5, zz6⟩)))
    have A_10 := Lib.hid (show Cl _ (w.heap.size) (a) (b) from ⟨zz0, zz1⟩)
    have P_10 := Lib.hid (show Cl _ (w6.heap.size) (p0) (p1) from ⟨zz2, zz3⟩)
    have Q_10 := Lib.hid (show Cl _ (w8.heap.size) (q0) (q1) from ⟨zz4, zz5⟩)
    have HB10 := Lib.hid zz6
    clear zz0 zz1 zz2 zz3 zz4 zz5 zz6
    clear HSb Qb0 Qb1 Qb2 Qb3 Qb4 Qb5
    clear A_9 B_9 P_9 Q_9 HB9
    have cA0 := A_10.out.1
    have cA1 := A_10.out.2
    have cP0 := P_10.out.1
    have cP1 := P_10.out.2
    have cQ0 := Q_10.out.1
    have cQ1 := Q_10.out.2
    go_wp2_with fail
    clear cA0 cA1 cP0 cP1 cQ0 cQ1
    refine (SC.out _).mono ?_
    rintro e w11 ⟨rfl, hb⟩
    have HB11 := Lib.hid (below_trans HB10.out hb)
    have A_11 := Lib.hid (A_10.out.below hb)
    have P_11 := Lib.hid (P_10.out.below hb)
    have Q_11 := Lib.hid (Q_10.out.below hb)
    clear hb HB10 A_10 P_10 Q_10
    have HB12 := Lib.hid (below_trans HB11.out (below_alloc w11 (.cells #[.int .i64 s0, .int .i64 s1] 23)))
    have A_12 := Lib.hid (A_11.out.alloc (.cells #[.int .i64 s0, .int .i64 s1] 23))
    have P_12 := Lib.hid (P_11.out.alloc (.cells #[.int .i64 s0, .int .i64 s1] 23))
    have Q_12 := Lib.hid (Q_11.out.alloc (.cells #[.int .i64 s0, .int .i64 s1] 23))
    have S_12 := Lib.hid (Cl.at (w := w11) (x := s0) (y := s1) (g := w11.heap.size) (by simp))
    clear HB11 A_11 P_11 Q_11
    have cA0 := A_12.out.1
    have cA1 := A_12.out.2
    have cP0 := P_12.out.1
    have cP1 := P_12.out.2
    have cQ0 := Q_12.out.1
    have cQ1 := Q_12.out.2
    have cS0 := S_12.out.1
    have cS1 := S_12.out.2
    go_wp2_with fail
    go_ret
    exact ⟨rfl, HB12.out⟩
  | true =>
    rw [hk] at SC
    obtain ⟨k1, k2, k3, k4, k5, k6⟩ := hok hk
    clear hok
    have k7 := scB_of (d := 0) h1.1 h1.2 k2 k3
    have g1 := scQ_le h1.1 k2 k7
    have g2 := scU_le h1.2 k7 k3
    have g3 := scR_nn n x y k7
    rw [k7] at EX
    rw [k5, k6] at SC
    have g4 := scQ_bd n x y
    unfold hiS at g2 k4
    unfold hiS at SC
    clear h1 k5 k6 k7 hk k2 k3 k1
    generalize scQ a x y = s0 at *
    generalize scQ b x y + (if scR b x y = 0 then 0 else 1) = s1 at *
    generalize scQ n x y = u at *
    generalize scR n x y = r at *
    have wu : IntKind.i64.wrap (u + 1) = u + 1 := by rw [IntKind.wrap_i64]; omega
    have R3 := Lib.hid (fun W => right_any s0 s1 W)
    have H5 := Lib.hid (fun W => has_any s0 s1 u W)
    by_cases hr : r = 0
    · rw [if_pos hr] at g2
      rw [decide_eq_true (show s0 ≤ s1 by omega)] at R3
      rw [decide_eq_true (show s0 ≤ u ∧ u ≤ s1 by omega)] at H5
      have H6 := H5
      have dr : decide (0 < r) = false := decide_eq_false (by omega)
      clear g1 g2 g3 g4 k4 hr
      unfold sp at *
      have HB0 := Lib.hid (below_self w)
      have HB1 := Lib.hid (below_trans HB0.out (below_alloc w (.cells #[.int .i64 a, .int .i64 b] 23)))
      have A_1 := Lib.hid (Cl.at (w := w) (x := a) (y := b) (g := w.heap.size) (by simp))
      clear HB0 
      have HB2 := Lib.hid (below_trans HB1.out (below_alloc (w.alloc (.cells #[.int .i64 a, .int .i64 b] 23)) (.cells #[.int .i64 c, .int .i64 d] 23)))
      have A_2 := Lib.hid (A_1.out.alloc (.cells #[.int .i64 c, .int .i64 d] 23))
      have B_2 := Lib.hid (Cl.at (w := (w.alloc (.cells #[.int .i64 a, .int .i64 b] 23))) (x := c) (y := d) (g := w.heap.size + 1) (by simp))
      clear HB1 A_1
      go_enter Try.func4, Try.ntmps4
      have cA0 := A_2.out.1
      have cA1 := A_2.out.2
      have cB0 := B_2.out.1
      have cB1 := B_2.out.2
      go_wp2_with fail
      clear cA0 cA1 cB0 cB1
      refine (SM.out _).mono ?_
      rintro e w3 ⟨rfl, hb⟩
      have HB3 := Lib.hid (below_trans HB2.out hb)
      have A_3 := Lib.hid (A_2.out.below hb)
      have B_3 := Lib.hid (B_2.out.below hb)
      clear hb HB2 A_2 B_2
      have cA0 := A_3.out.1
      have cA1 := A_3.out.2
      have cB0 := B_3.out.1
      have cB1 := B_3.out.2
      go_wp2_with fail
      clear cA0 cA1 cB0 cB1
      refine (H1.out _).mono ?_
      rintro e w4 ⟨rfl, hb⟩
      have HB4 := Lib.hid (below_trans HB3.out hb)
      have A_4 := Lib.hid (A_3.out.below hb)
      have B_4 := Lib.hid (B_3.out.below hb)
      clear hb HB3 A_3 B_3
      have cA0 := A_4.out.1
      have cA1 := A_4.out.2
      have cB0 := B_4.out.1
      have cB1 := B_4.out.2
      go_wp2_with fail
      clear cA0 cA1 cB0 cB1
      refine (H2.out _).mono ?_
      rintro e w5 ⟨rfl, hb⟩
      have HB5 := Lib.hid (below_trans HB4.out hb)
      have A_5 := Lib.hid (A_4.out.below hb)
      have B_5 := Lib.hid (B_4.out.below hb)
      clear hb HB4 A_4 B_4
      have cA0 := A_5.out.1
      have cA1 := A_5.out.2
      have cB0 := B_5.out.1
      have cB1 := B_5.out.2
      go_wp2_with fail
      clear cA0 cA1 cB0 cB1
      refine (AD.out _).mono ?_
      rintro e w6 ⟨rfl, hb⟩
      have HB6 := Lib.hid (below_trans HB5.out hb)
      have A_6 := Lib.hid (A_5.out.below hb)
      have B_6 := Lib.hid (B_5.out.below hb)
      clear hb HB5 A_5 B_5
      have HB7 := Lib.hid (below_trans HB6.out (below_alloc w6 (.cells #[.int .i64 p0, .int .i64 p1] 23)))
      have A_7 := Lib.hid (A_6.out.alloc (.cells #[.int .i64 p0, .int .i64 p1] 23))
      have B_7 := Lib.hid (B_6.out.alloc (.cells #[.int .i64 p0, .int .i64 p1] 23))
      have P_7 := Lib.hid (Cl.at (w := w6) (x := p0) (y := p1) (g := w6.heap.size) (by simp))
      clear HB6 A_6 B_6
      have cA0 := A_7.out.1
      have cA1 := A_7.out.2
      have cB0 := B_7.out.1
      have cB1 := B_7.out.2
      have cP0 := P_7.out.1
      have cP1 := P_7.out.2
      go_wp2_with fail
      clear cA0 cA1 cB0 cB1 cP0 cP1
      refine (SU.out _).mono ?_
      rintro e w8 ⟨rfl, hb⟩
      have HB8 := Lib.hid (below_trans HB7.out hb)
      have A_8 := Lib.hid (A_7.out.below hb)
      have B_8 := Lib.hid (B_7.out.below hb)
      have P_8 := Lib.hid (P_7.out.below hb)
      clear hb HB7 A_7 B_7 P_7
      have HB9 := Lib.hid (below_trans HB8.out (below_alloc w8 (.cells #[.int .i64 q0, .int .i64 q1] 23)))
      have A_9 := Lib.hid (A_8.out.alloc (.cells #[.int .i64 q0, .int .i64 q1] 23))
      have B_9 := Lib.hid (B_8.out.alloc (.cells #[.int .i64 q0, .int .i64 q1] 23))
      have P_9 := Lib.hid (P_8.out.alloc (.cells #[.int .i64 q0, .int .i64 q1] 23))
      have Q_9 := Lib.hid (Cl.at (w := w8) (x := q0) (y := q1) (g := w8.heap.size) (by simp))
      clear HB8 A_8 B_8 P_8
      have cA0 := A_9.out.1
      have cA1 := A_9.out.2
      have cB0 := B_9.out.1
      have cB1 := B_9.out.2
      have cP0 := P_9.out.1
      have cP1 := P_9.out.2
      have cQ0 := Q_9.out.1
      have cQ1 := Q_9.out.2
      go_wp2_with fail
      clear cA0 cA1 cB0 cB1 cP0 cP1 cQ0 cQ1
      have HSb := Lib.hid (show ∀ W W', Below W.heap.size W W' → (W.cell? ⟨w.heap.size, 0, none⟩ = some (.int .i64 a) ∧ W.cell? ⟨w.heap.size, 1, none⟩ = some (.int .i64 b) ∧ W.cell? ⟨w6.heap.size, 0, none⟩ = some (.int .i64 p0) ∧ W.cell? ⟨w6.heap.size, 1, none⟩ = some (.int .i64 p1) ∧ W.cell? ⟨w8.heap.size, 0, none⟩ = some (.int .i64 q0) ∧ W.cell? ⟨w8.heap.size, 1, none⟩ = some (.int .i64 q1) ∧ Below w.heap.size w W) → (W'.cell? ⟨w.heap.size, 0, none⟩ = some (.int .i64 a) ∧ W'.cell? ⟨w.heap.size, 1, none⟩ = some (.int .i64 b) ∧ W'.cell? ⟨w6.heap.size, 0, none⟩ = some (.int .i64 p0) ∧ W'.cell? ⟨w6.heap.size, 1, none⟩ = some (.int .i64 p1) ∧ W'.cell? ⟨w8.heap.size, 0, none⟩ = some (.int .i64 q0) ∧ W'.cell? ⟨w8.heap.size, 1, none⟩ = some (.int .i64 q1) ∧ Below w.heap.size w W') from fun W W' hb h => by obtain ⟨h0, h1, h2, h3, h4, h5, h6⟩ := h; exact ⟨cell_below hb h0, cell_below hb h1, cell_below hb h2, cell_below hb h3, cell_below hb h4, cell_below hb h5, below_trans h6 hb⟩)
      have tb0 := s_call (S := (fun W => W.cell? ⟨w.heap.size, 0, none⟩ = some (.int .i64 a) ∧ W.cell? ⟨w.heap.size, 1, none⟩ = some (.int .i64 b) ∧ W.cell? ⟨w6.heap.size, 0, none⟩ = some (.int .i64 p0) ∧ W.cell? ⟨w6.heap.size, 1, none⟩ = some (.int .i64 p1) ∧ W.cell? ⟨w8.heap.size, 0, none⟩ = some (.int .i64 q0) ∧ W.cell? ⟨w8.heap.size, 1, none⟩ = some (.int .i64 q1) ∧ Below w.heap.size w W)) HSb.out R1.out
      try dsimp only at tb0
      have Qb0 := Lib.hid tb0
      clear tb0
      have tb1 := s_call (S := (fun W => W.cell? ⟨w.heap.size, 0, none⟩ = some (.int .i64 a) ∧ W.cell? ⟨w.heap.size, 1, none⟩ = some (.int .i64 b) ∧ W.cell? ⟨w6.heap.size, 0, none⟩ = some (.int .i64 p0) ∧ W.cell? ⟨w6.heap.size, 1, none⟩ = some (.int .i64 p1) ∧ W.cell? ⟨w8.heap.size, 0, none⟩ = some (.int .i64 q0) ∧ W.cell? ⟨w8.heap.size, 1, none⟩ = some (.int .i64 q1) ∧ Below w.heap.size w W)) HSb.out R2.out
      try dsimp only at tb1
      have Qb1 := Lib.hid tb1
      clear tb1
      have tb2 := s_call (S := (fun W => W.cell? ⟨w.heap.size, 0, none⟩ = some (.int .i64 a) ∧ W.cell? ⟨w.heap.size, 1, none⟩ = some (.int .i64 b) ∧ W.cell? ⟨w6.heap.size, 0, none⟩ = some (.int .i64 p0) ∧ W.cell? ⟨w6.heap.size, 1, none⟩ = some (.int .i64 p1) ∧ W.cell? ⟨w8.heap.size, 0, none⟩ = some (.int .i64 q0) ∧ W.cell? ⟨w8.heap.size, 1, none⟩ = some (.int .i64 q1) ∧ Below w.heap.size w W)) HSb.out E1.out
      try dsimp only at tb2
      have Qb2 := Lib.hid tb2
      clear tb2
      have tb3 := s_call (S := (fun W => W.cell? ⟨w.heap.size, 0, none⟩ = some (.int .i64 a) ∧ W.cell? ⟨w.heap.size, 1, none⟩ = some (.int .i64 b) ∧ W.cell? ⟨w6.heap.size, 0, none⟩ = some (.int .i64 p0) ∧ W.cell? ⟨w6.heap.size, 1, none⟩ = some (.int .i64 p1) ∧ W.cell? ⟨w8.heap.size, 0, none⟩ = some (.int .i64 q0) ∧ W.cell? ⟨w8.heap.size, 1, none⟩ = some (.int .i64 q1) ∧ Below w.heap.size w W)) HSb.out H3.out
      try dsimp only at tb3
      have Qb3 := Lib.hid tb3
      clear tb3
      have tb4 := s_call (S := (fun W => W.cell? ⟨w.heap.size, 0, none⟩ = some (.int .i64 a) ∧ W.cell? ⟨w.heap.size, 1, none⟩ = some (.int .i64 b) ∧ W.cell? ⟨w6.heap.size, 0, none⟩ = some (.int .i64 p0) ∧ W.cell? ⟨w6.heap.size, 1, none⟩ = some (.int .i64 p1) ∧ W.cell? ⟨w8.heap.size, 0, none⟩ = some (.int .i64 q0) ∧ W.cell? ⟨w8.heap.size, 1, none⟩ = some (.int .i64 q1) ∧ Below w.heap.size w W)) HSb.out E2.out
      try dsimp only at tb4
      have Qb4 := Lib.hid tb4
      clear tb4
      have tb5 := s_call (S := (fun W => W.cell? ⟨w.heap.size, 0, none⟩ = some (.int .i64 a) ∧ W.cell? ⟨w.heap.size, 1, none⟩ = some (.int .i64 b) ∧ W.cell? ⟨w6.heap.size, 0, none⟩ = some (.int .i64 p0) ∧ W.cell? ⟨w6.heap.size, 1, none⟩ = some (.int .i64 p1) ∧ W.cell? ⟨w8.heap.size, 0, none⟩ = some (.int .i64 q0) ∧ W.cell? ⟨w8.heap.size, 1, none⟩ = some (.int .i64 q1) ∧ Below w.heap.size w W)) HSb.out H4.out
      try dsimp only at tb5
      have Qb5 := Lib.hid tb5
      clear tb5
      go_region_held3 (fun W => W.cell? ⟨w.heap.size, 0, none⟩ = some (.int .i64 a) ∧ W.cell? ⟨w.heap.size, 1, none⟩ = some (.int .i64 b) ∧ W.cell? ⟨w6.heap.size, 0, none⟩ = some (.int .i64 p0) ∧ W.cell? ⟨w6.heap.size, 1, none⟩ = some (.int .i64 p1) ∧ W.cell? ⟨w8.heap.size, 0, none⟩ = some (.int .i64 q0) ∧ W.cell? ⟨w8.heap.size, 1, none⟩ = some (.int .i64 q1) ∧ Below w.heap.size w W)
        (((try dsimp only); (refine ⟨?_, ?_, ?_, ?_, ?_, ?_, ?_⟩ <;> (first | assumption | exact A_9.out.1 | exact A_9.out.2 | exact P_9.out.1 | exact P_9.out.2 | exact Q_9.out.1 | exact Q_9.out.2 | exact ⟨HB9.out.os, HB9.out.tape, HB9.out.output, HB9.out.size, HB9.out.block⟩ | go_keep))))
        ((first
          | (go_at_call 13; with_reducible refine (Qb0.out _ ?_).mono ?_; assumption; rintro e w' ⟨rfl, zz0, zz1, zz2, zz3, zz4, zz5, zz6⟩)
          | (go_at_call 13; with_reducible refine (Qb1.out _ ?_).mono ?_; assumption; rintro e w' ⟨rfl, zz0, zz1, zz2, zz3, zz4, zz5, zz6⟩)
          | (go_at_call 29; with_reducible refine (Qb2.out _ ?_).mono ?_; assumption; rintro e w' ⟨rfl, zz0, zz1, zz2, zz3, zz4, zz5, zz6⟩)
          | (go_at_call 17; with_reducible refine (Qb3.out _ ?_).mono ?_; assumption; rintro e w' ⟨rfl, zz0, zz1, zz2, zz3, zz4, zz5, zz6⟩)
          | (go_at_call 30; with_reducible refine (Qb4.out _ ?_).mono ?_; assumption; rintro e w' ⟨rfl, zz0, zz1, zz2, zz3, zz4, zz5, zz6⟩)
          | (go_at_call 17; with_reducible refine (Qb5.out _ ?_).mono ?_; assumption; rintro e w' ⟨rfl, zz0, zz1, zz2, zz3, zz4, zz5, zz6⟩)))
      have A_10 := Lib.hid (show Cl _ (w.heap.size) (a) (b) from ⟨zz0, zz1⟩)
      have P_10 := Lib.hid (show Cl _ (w6.heap.size) (p0) (p1) from ⟨zz2, zz3⟩)
      have Q_10 := Lib.hid (show Cl _ (w8.heap.size) (q0) (q1) from ⟨zz4, zz5⟩)
      have HB10 := Lib.hid zz6
      clear zz0 zz1 zz2 zz3 zz4 zz5 zz6
      clear HSb Qb0 Qb1 Qb2 Qb3 Qb4 Qb5
      clear A_9 B_9 P_9 Q_9 HB9
      have cA0 := A_10.out.1
      have cA1 := A_10.out.2
      have cP0 := P_10.out.1
      have cP1 := P_10.out.2
      have cQ0 := Q_10.out.1
      have cQ1 := Q_10.out.2
      go_wp2_with fail
      clear cA0 cA1 cP0 cP1 cQ0 cQ1
      refine (SC.out _).mono ?_
      rintro e w11 ⟨rfl, hb⟩
      have HB11 := Lib.hid (below_trans HB10.out hb)
      have A_11 := Lib.hid (A_10.out.below hb)
      have P_11 := Lib.hid (P_10.out.below hb)
      have Q_11 := Lib.hid (Q_10.out.below hb)
      clear hb HB10 A_10 P_10 Q_10
      have HB12 := Lib.hid (below_trans HB11.out (below_alloc w11 (.cells #[.int .i64 s0, .int .i64 s1] 23)))
      have A_12 := Lib.hid (A_11.out.alloc (.cells #[.int .i64 s0, .int .i64 s1] 23))
      have P_12 := Lib.hid (P_11.out.alloc (.cells #[.int .i64 s0, .int .i64 s1] 23))
      have Q_12 := Lib.hid (Q_11.out.alloc (.cells #[.int .i64 s0, .int .i64 s1] 23))
      have S_12 := Lib.hid (Cl.at (w := w11) (x := s0) (y := s1) (g := w11.heap.size) (by simp))
      clear HB11 A_11 P_11 Q_11
      have cA0 := A_12.out.1
      have cA1 := A_12.out.2
      have cP0 := P_12.out.1
      have cP1 := P_12.out.2
      have cQ0 := Q_12.out.1
      have cQ1 := Q_12.out.2
      have cS0 := S_12.out.1
      have cS1 := S_12.out.2
      go_wp2_with fail
      clear cA0 cA1 cP0 cP1 cQ0 cQ1 cS0 cS1
      refine (EX.out _).mono ?_
      rintro e w13 ⟨rfl, hb⟩
      have HB13 := Lib.hid (below_trans HB12.out hb)
      have A_13 := Lib.hid (A_12.out.below hb)
      have P_13 := Lib.hid (P_12.out.below hb)
      have Q_13 := Lib.hid (Q_12.out.below hb)
      have S_13 := Lib.hid (S_12.out.below hb)
      clear hb HB12 A_12 P_12 Q_12 S_12
      have cA0 := A_13.out.1
      have cA1 := A_13.out.2
      have cP0 := P_13.out.1
      have cP1 := P_13.out.2
      have cQ0 := Q_13.out.1
      have cQ1 := Q_13.out.2
      have cS0 := S_13.out.1
      have cS1 := S_13.out.2
      go_wp2_with fail
      clear cA0 cA1 cP0 cP1 cQ0 cQ1 cS0 cS1
      refine (R3.out _).mono ?_
      rintro e w14 ⟨rfl, hb⟩
      have HB14 := Lib.hid (below_trans HB13.out hb)
      have A_14 := Lib.hid (A_13.out.below hb)
      have P_14 := Lib.hid (P_13.out.below hb)
      have Q_14 := Lib.hid (Q_13.out.below hb)
      have S_14 := Lib.hid (S_13.out.below hb)
      clear hb HB13 A_13 P_13 Q_13 S_13
      have cA0 := A_14.out.1
      have cA1 := A_14.out.2
      have cP0 := P_14.out.1
      have cP1 := P_14.out.2
      have cQ0 := Q_14.out.1
      have cQ1 := Q_14.out.2
      have cS0 := S_14.out.1
      have cS1 := S_14.out.2
      go_wp2_with fail
      clear cA0 cA1 cP0 cP1 cQ0 cQ1 cS0 cS1
      refine (H5.out _).mono ?_
      rintro e w15 ⟨rfl, hb⟩
      have HB15 := Lib.hid (below_trans HB14.out hb)
      have A_15 := Lib.hid (A_14.out.below hb)
      have P_15 := Lib.hid (P_14.out.below hb)
      have Q_15 := Lib.hid (Q_14.out.below hb)
      have S_15 := Lib.hid (S_14.out.below hb)
      clear hb HB14 A_14 P_14 Q_14 S_14
      have cA0 := A_15.out.1
      have cA1 := A_15.out.2
      have cP0 := P_15.out.1
      have cP1 := P_15.out.2
      have cQ0 := Q_15.out.1
      have cQ1 := Q_15.out.2
      have cS0 := S_15.out.1
      have cS1 := S_15.out.2
      go_wp2_with fail
      clear cA0 cA1 cP0 cP1 cQ0 cQ1 cS0 cS1
      refine (H6.out _).mono ?_
      rintro e w16 ⟨rfl, hb⟩
      have HB16 := Lib.hid (below_trans HB15.out hb)
      have A_16 := Lib.hid (A_15.out.below hb)
      have P_16 := Lib.hid (P_15.out.below hb)
      have Q_16 := Lib.hid (Q_15.out.below hb)
      have S_16 := Lib.hid (S_15.out.below hb)
      clear hb HB15 A_15 P_15 Q_15 S_15
      go_wp2_with fail
      go_ret
      exact ⟨rfl, HB16.out⟩
    · rw [if_neg hr] at g2
      rw [decide_eq_true (show s0 ≤ s1 by omega)] at R3
      rw [decide_eq_true (show s0 ≤ u ∧ u ≤ s1 by omega)] at H5
      have H6 := Lib.hid (fun W => has_any s0 s1 (u + 1) W)
      rw [decide_eq_true (show s0 ≤ u + 1 ∧ u + 1 ≤ s1 by omega)] at H6
      have dr : decide (0 < r) = true := decide_eq_true (by omega)
      clear g1 g2 g3 g4 k4 hr
      unfold sp at *
      have HB0 := Lib.hid (below_self w)
      have HB1 := Lib.hid (below_trans HB0.out (below_alloc w (.cells #[.int .i64 a, .int .i64 b] 23)))
      have A_1 := Lib.hid (Cl.at (w := w) (x := a) (y := b) (g := w.heap.size) (by simp))
      clear HB0 
      have HB2 := Lib.hid (below_trans HB1.out (below_alloc (w.alloc (.cells #[.int .i64 a, .int .i64 b] 23)) (.cells #[.int .i64 c, .int .i64 d] 23)))
      have A_2 := Lib.hid (A_1.out.alloc (.cells #[.int .i64 c, .int .i64 d] 23))
      have B_2 := Lib.hid (Cl.at (w := (w.alloc (.cells #[.int .i64 a, .int .i64 b] 23))) (x := c) (y := d) (g := w.heap.size + 1) (by simp))
      clear HB1 A_1
      go_enter Try.func4, Try.ntmps4
      have cA0 := A_2.out.1
      have cA1 := A_2.out.2
      have cB0 := B_2.out.1
      have cB1 := B_2.out.2
      go_wp2_with fail
      clear cA0 cA1 cB0 cB1
      refine (SM.out _).mono ?_
      rintro e w3 ⟨rfl, hb⟩
      have HB3 := Lib.hid (below_trans HB2.out hb)
      have A_3 := Lib.hid (A_2.out.below hb)
      have B_3 := Lib.hid (B_2.out.below hb)
      clear hb HB2 A_2 B_2
      have cA0 := A_3.out.1
      have cA1 := A_3.out.2
      have cB0 := B_3.out.1
      have cB1 := B_3.out.2
      go_wp2_with fail
      clear cA0 cA1 cB0 cB1
      refine (H1.out _).mono ?_
      rintro e w4 ⟨rfl, hb⟩
      have HB4 := Lib.hid (below_trans HB3.out hb)
      have A_4 := Lib.hid (A_3.out.below hb)
      have B_4 := Lib.hid (B_3.out.below hb)
      clear hb HB3 A_3 B_3
      have cA0 := A_4.out.1
      have cA1 := A_4.out.2
      have cB0 := B_4.out.1
      have cB1 := B_4.out.2
      go_wp2_with fail
      clear cA0 cA1 cB0 cB1
      refine (H2.out _).mono ?_
      rintro e w5 ⟨rfl, hb⟩
      have HB5 := Lib.hid (below_trans HB4.out hb)
      have A_5 := Lib.hid (A_4.out.below hb)
      have B_5 := Lib.hid (B_4.out.below hb)
      clear hb HB4 A_4 B_4
      have cA0 := A_5.out.1
      have cA1 := A_5.out.2
      have cB0 := B_5.out.1
      have cB1 := B_5.out.2
      go_wp2_with fail
      clear cA0 cA1 cB0 cB1
      refine (AD.out _).mono ?_
      rintro e w6 ⟨rfl, hb⟩
      have HB6 := Lib.hid (below_trans HB5.out hb)
      have A_6 := Lib.hid (A_5.out.below hb)
      have B_6 := Lib.hid (B_5.out.below hb)
      clear hb HB5 A_5 B_5
      have HB7 := Lib.hid (below_trans HB6.out (below_alloc w6 (.cells #[.int .i64 p0, .int .i64 p1] 23)))
      have A_7 := Lib.hid (A_6.out.alloc (.cells #[.int .i64 p0, .int .i64 p1] 23))
      have B_7 := Lib.hid (B_6.out.alloc (.cells #[.int .i64 p0, .int .i64 p1] 23))
      have P_7 := Lib.hid (Cl.at (w := w6) (x := p0) (y := p1) (g := w6.heap.size) (by simp))
      clear HB6 A_6 B_6
      have cA0 := A_7.out.1
      have cA1 := A_7.out.2
      have cB0 := B_7.out.1
      have cB1 := B_7.out.2
      have cP0 := P_7.out.1
      have cP1 := P_7.out.2
      go_wp2_with fail
      clear cA0 cA1 cB0 cB1 cP0 cP1
      refine (SU.out _).mono ?_
      rintro e w8 ⟨rfl, hb⟩
      have HB8 := Lib.hid (below_trans HB7.out hb)
      have A_8 := Lib.hid (A_7.out.below hb)
      have B_8 := Lib.hid (B_7.out.below hb)
      have P_8 := Lib.hid (P_7.out.below hb)
      clear hb HB7 A_7 B_7 P_7
      have HB9 := Lib.hid (below_trans HB8.out (below_alloc w8 (.cells #[.int .i64 q0, .int .i64 q1] 23)))
      have A_9 := Lib.hid (A_8.out.alloc (.cells #[.int .i64 q0, .int .i64 q1] 23))
      have B_9 := Lib.hid (B_8.out.alloc (.cells #[.int .i64 q0, .int .i64 q1] 23))
      have P_9 := Lib.hid (P_8.out.alloc (.cells #[.int .i64 q0, .int .i64 q1] 23))
      have Q_9 := Lib.hid (Cl.at (w := w8) (x := q0) (y := q1) (g := w8.heap.size) (by simp))
      clear HB8 A_8 B_8 P_8
      have cA0 := A_9.out.1
      have cA1 := A_9.out.2
      have cB0 := B_9.out.1
      have cB1 := B_9.out.2
      have cP0 := P_9.out.1
      have cP1 := P_9.out.2
      have cQ0 := Q_9.out.1
      have cQ1 := Q_9.out.2
      go_wp2_with fail
      clear cA0 cA1 cB0 cB1 cP0 cP1 cQ0 cQ1
      have HSb := Lib.hid (show ∀ W W', Below W.heap.size W W' → (W.cell? ⟨w.heap.size, 0, none⟩ = some (.int .i64 a) ∧ W.cell? ⟨w.heap.size, 1, none⟩ = some (.int .i64 b) ∧ W.cell? ⟨w6.heap.size, 0, none⟩ = some (.int .i64 p0) ∧ W.cell? ⟨w6.heap.size, 1, none⟩ = some (.int .i64 p1) ∧ W.cell? ⟨w8.heap.size, 0, none⟩ = some (.int .i64 q0) ∧ W.cell? ⟨w8.heap.size, 1, none⟩ = some (.int .i64 q1) ∧ Below w.heap.size w W) → (W'.cell? ⟨w.heap.size, 0, none⟩ = some (.int .i64 a) ∧ W'.cell? ⟨w.heap.size, 1, none⟩ = some (.int .i64 b) ∧ W'.cell? ⟨w6.heap.size, 0, none⟩ = some (.int .i64 p0) ∧ W'.cell? ⟨w6.heap.size, 1, none⟩ = some (.int .i64 p1) ∧ W'.cell? ⟨w8.heap.size, 0, none⟩ = some (.int .i64 q0) ∧ W'.cell? ⟨w8.heap.size, 1, none⟩ = some (.int .i64 q1) ∧ Below w.heap.size w W') from fun W W' hb h => by obtain ⟨h0, h1, h2, h3, h4, h5, h6⟩ := h; exact ⟨cell_below hb h0, cell_below hb h1, cell_below hb h2, cell_below hb h3, cell_below hb h4, cell_below hb h5, below_trans h6 hb⟩)
      have tb0 := s_call (S := (fun W => W.cell? ⟨w.heap.size, 0, none⟩ = some (.int .i64 a) ∧ W.cell? ⟨w.heap.size, 1, none⟩ = some (.int .i64 b) ∧ W.cell? ⟨w6.heap.size, 0, none⟩ = some (.int .i64 p0) ∧ W.cell? ⟨w6.heap.size, 1, none⟩ = some (.int .i64 p1) ∧ W.cell? ⟨w8.heap.size, 0, none⟩ = some (.int .i64 q0) ∧ W.cell? ⟨w8.heap.size, 1, none⟩ = some (.int .i64 q1) ∧ Below w.heap.size w W)) HSb.out R1.out
      try dsimp only at tb0
      have Qb0 := Lib.hid tb0
      clear tb0
      have tb1 := s_call (S := (fun W => W.cell? ⟨w.heap.size, 0, none⟩ = some (.int .i64 a) ∧ W.cell? ⟨w.heap.size, 1, none⟩ = some (.int .i64 b) ∧ W.cell? ⟨w6.heap.size, 0, none⟩ = some (.int .i64 p0) ∧ W.cell? ⟨w6.heap.size, 1, none⟩ = some (.int .i64 p1) ∧ W.cell? ⟨w8.heap.size, 0, none⟩ = some (.int .i64 q0) ∧ W.cell? ⟨w8.heap.size, 1, none⟩ = some (.int .i64 q1) ∧ Below w.heap.size w W)) HSb.out R2.out
      try dsimp only at tb1
      have Qb1 := Lib.hid tb1
      clear tb1
      have tb2 := s_call (S := (fun W => W.cell? ⟨w.heap.size, 0, none⟩ = some (.int .i64 a) ∧ W.cell? ⟨w.heap.size, 1, none⟩ = some (.int .i64 b) ∧ W.cell? ⟨w6.heap.size, 0, none⟩ = some (.int .i64 p0) ∧ W.cell? ⟨w6.heap.size, 1, none⟩ = some (.int .i64 p1) ∧ W.cell? ⟨w8.heap.size, 0, none⟩ = some (.int .i64 q0) ∧ W.cell? ⟨w8.heap.size, 1, none⟩ = some (.int .i64 q1) ∧ Below w.heap.size w W)) HSb.out E1.out
      try dsimp only at tb2
      have Qb2 := Lib.hid tb2
      clear tb2
      have tb3 := s_call (S := (fun W => W.cell? ⟨w.heap.size, 0, none⟩ = some (.int .i64 a) ∧ W.cell? ⟨w.heap.size, 1, none⟩ = some (.int .i64 b) ∧ W.cell? ⟨w6.heap.size, 0, none⟩ = some (.int .i64 p0) ∧ W.cell? ⟨w6.heap.size, 1, none⟩ = some (.int .i64 p1) ∧ W.cell? ⟨w8.heap.size, 0, none⟩ = some (.int .i64 q0) ∧ W.cell? ⟨w8.heap.size, 1, none⟩ = some (.int .i64 q1) ∧ Below w.heap.size w W)) HSb.out H3.out
      try dsimp only at tb3
      have Qb3 := Lib.hid tb3
      clear tb3
      have tb4 := s_call (S := (fun W => W.cell? ⟨w.heap.size, 0, none⟩ = some (.int .i64 a) ∧ W.cell? ⟨w.heap.size, 1, none⟩ = some (.int .i64 b) ∧ W.cell? ⟨w6.heap.size, 0, none⟩ = some (.int .i64 p0) ∧ W.cell? ⟨w6.heap.size, 1, none⟩ = some (.int .i64 p1) ∧ W.cell? ⟨w8.heap.size, 0, none⟩ = some (.int .i64 q0) ∧ W.cell? ⟨w8.heap.size, 1, none⟩ = some (.int .i64 q1) ∧ Below w.heap.size w W)) HSb.out E2.out
      try dsimp only at tb4
      have Qb4 := Lib.hid tb4
      clear tb4
      have tb5 := s_call (S := (fun W => W.cell? ⟨w.heap.size, 0, none⟩ = some (.int .i64 a) ∧ W.cell? ⟨w.heap.size, 1, none⟩ = some (.int .i64 b) ∧ W.cell? ⟨w6.heap.size, 0, none⟩ = some (.int .i64 p0) ∧ W.cell? ⟨w6.heap.size, 1, none⟩ = some (.int .i64 p1) ∧ W.cell? ⟨w8.heap.size, 0, none⟩ = some (.int .i64 q0) ∧ W.cell? ⟨w8.heap.size, 1, none⟩ = some (.int .i64 q1) ∧ Below w.heap.size w W)) HSb.out H4.out
      try dsimp only at tb5
      have Qb5 := Lib.hid tb5
      clear tb5
      go_region_held3 (fun W => W.cell? ⟨w.heap.size, 0, none⟩ = some (.int .i64 a) ∧ W.cell? ⟨w.heap.size, 1, none⟩ = some (.int .i64 b) ∧ W.cell? ⟨w6.heap.size, 0, none⟩ = some (.int .i64 p0) ∧ W.cell? ⟨w6.heap.size, 1, none⟩ = some (.int .i64 p1) ∧ W.cell? ⟨w8.heap.size, 0, none⟩ = some (.int .i64 q0) ∧ W.cell? ⟨w8.heap.size, 1, none⟩ = some (.int .i64 q1) ∧ Below w.heap.size w W)
        (((try dsimp only); (refine ⟨?_, ?_, ?_, ?_, ?_, ?_, ?_⟩ <;> (first | assumption | exact A_9.out.1 | exact A_9.out.2 | exact P_9.out.1 | exact P_9.out.2 | exact Q_9.out.1 | exact Q_9.out.2 | exact ⟨HB9.out.os, HB9.out.tape, HB9.out.output, HB9.out.size, HB9.out.block⟩ | go_keep))))
        ((first
          | (go_at_call 13; with_reducible refine (Qb0.out _ ?_).mono ?_; assumption; rintro e w' ⟨rfl, zz0, zz1, zz2, zz3, zz4, zz5, zz6⟩)
          | (go_at_call 13; with_reducible refine (Qb1.out _ ?_).mono ?_; assumption; rintro e w' ⟨rfl, zz0, zz1, zz2, zz3, zz4, zz5, zz6⟩)
          | (go_at_call 29; with_reducible refine (Qb2.out _ ?_).mono ?_; assumption; rintro e w' ⟨rfl, zz0, zz1, zz2, zz3, zz4, zz5, zz6⟩)
          | (go_at_call 17; with_reducible refine (Qb3.out _ ?_).mono ?_; assumption; rintro e w' ⟨rfl, zz0, zz1, zz2, zz3, zz4, zz5, zz6⟩)
          | (go_at_call 30; with_reducible refine (Qb4.out _ ?_).mono ?_; assumption; rintro e w' ⟨rfl, zz0, zz1, zz2, zz3, zz4, zz5, zz6⟩)
          | (go_at_call 17; with_reducible refine (Qb5.out _ ?_).mono ?_; assumption; rintro e w' ⟨rfl, zz0, zz1, zz2, zz3, zz4, zz5, zz6⟩)))
      have A_10 := Lib.hid (show Cl _ (w.heap.size) (a) (b) from ⟨zz0, zz1⟩)
      have P_10 := Lib.hid (show Cl _ (w6.heap.size) (p0) (p1) from ⟨zz2, zz3⟩)
      have Q_10 := Lib.hid (show Cl _ (w8.heap.size) (q0) (q1) from ⟨zz4, zz5⟩)
      have HB10 := Lib.hid zz6
      clear zz0 zz1 zz2 zz3 zz4 zz5 zz6
      clear HSb Qb0 Qb1 Qb2 Qb3 Qb4 Qb5
      clear A_9 B_9 P_9 Q_9 HB9
      have cA0 := A_10.out.1
      have cA1 := A_10.out.2
      have cP0 := P_10.out.1
      have cP1 := P_10.out.2
      have cQ0 := Q_10.out.1
      have cQ1 := Q_10.out.2
      go_wp2_with fail
      clear cA0 cA1 cP0 cP1 cQ0 cQ1
      refine (SC.out _).mono ?_
      rintro e w11 ⟨rfl, hb⟩
      have HB11 := Lib.hid (below_trans HB10.out hb)
      have A_11 := Lib.hid (A_10.out.below hb)
      have P_11 := Lib.hid (P_10.out.below hb)
      have Q_11 := Lib.hid (Q_10.out.below hb)
      clear hb HB10 A_10 P_10 Q_10
      have HB12 := Lib.hid (below_trans HB11.out (below_alloc w11 (.cells #[.int .i64 s0, .int .i64 s1] 23)))
      have A_12 := Lib.hid (A_11.out.alloc (.cells #[.int .i64 s0, .int .i64 s1] 23))
      have P_12 := Lib.hid (P_11.out.alloc (.cells #[.int .i64 s0, .int .i64 s1] 23))
      have Q_12 := Lib.hid (Q_11.out.alloc (.cells #[.int .i64 s0, .int .i64 s1] 23))
      have S_12 := Lib.hid (Cl.at (w := w11) (x := s0) (y := s1) (g := w11.heap.size) (by simp))
      clear HB11 A_11 P_11 Q_11
      have cA0 := A_12.out.1
      have cA1 := A_12.out.2
      have cP0 := P_12.out.1
      have cP1 := P_12.out.2
      have cQ0 := Q_12.out.1
      have cQ1 := Q_12.out.2
      have cS0 := S_12.out.1
      have cS1 := S_12.out.2
      go_wp2_with fail
      clear cA0 cA1 cP0 cP1 cQ0 cQ1 cS0 cS1
      refine (EX.out _).mono ?_
      rintro e w13 ⟨rfl, hb⟩
      have HB13 := Lib.hid (below_trans HB12.out hb)
      have A_13 := Lib.hid (A_12.out.below hb)
      have P_13 := Lib.hid (P_12.out.below hb)
      have Q_13 := Lib.hid (Q_12.out.below hb)
      have S_13 := Lib.hid (S_12.out.below hb)
      clear hb HB12 A_12 P_12 Q_12 S_12
      have cA0 := A_13.out.1
      have cA1 := A_13.out.2
      have cP0 := P_13.out.1
      have cP1 := P_13.out.2
      have cQ0 := Q_13.out.1
      have cQ1 := Q_13.out.2
      have cS0 := S_13.out.1
      have cS1 := S_13.out.2
      go_wp2_with fail
      clear cA0 cA1 cP0 cP1 cQ0 cQ1 cS0 cS1
      refine (R3.out _).mono ?_
      rintro e w14 ⟨rfl, hb⟩
      have HB14 := Lib.hid (below_trans HB13.out hb)
      have A_14 := Lib.hid (A_13.out.below hb)
      have P_14 := Lib.hid (P_13.out.below hb)
      have Q_14 := Lib.hid (Q_13.out.below hb)
      have S_14 := Lib.hid (S_13.out.below hb)
      clear hb HB13 A_13 P_13 Q_13 S_13
      have cA0 := A_14.out.1
      have cA1 := A_14.out.2
      have cP0 := P_14.out.1
      have cP1 := P_14.out.2
      have cQ0 := Q_14.out.1
      have cQ1 := Q_14.out.2
      have cS0 := S_14.out.1
      have cS1 := S_14.out.2
      go_wp2_with fail
      clear cA0 cA1 cP0 cP1 cQ0 cQ1 cS0 cS1
      refine (H5.out _).mono ?_
      rintro e w15 ⟨rfl, hb⟩
      have HB15 := Lib.hid (below_trans HB14.out hb)
      have A_15 := Lib.hid (A_14.out.below hb)
      have P_15 := Lib.hid (P_14.out.below hb)
      have Q_15 := Lib.hid (Q_14.out.below hb)
      have S_15 := Lib.hid (S_14.out.below hb)
      clear hb HB14 A_14 P_14 Q_14 S_14
      have cA0 := A_15.out.1
      have cA1 := A_15.out.2
      have cP0 := P_15.out.1
      have cP1 := P_15.out.2
      have cQ0 := Q_15.out.1
      have cQ1 := Q_15.out.2
      have cS0 := S_15.out.1
      have cS1 := S_15.out.2
      go_wp2_with fail
      clear cA0 cA1 cP0 cP1 cQ0 cQ1 cS0 cS1
      refine (H6.out _).mono ?_
      rintro e w16 ⟨rfl, hb⟩
      have HB16 := Lib.hid (below_trans HB15.out hb)
      have A_16 := Lib.hid (A_15.out.below hb)
      have P_16 := Lib.hid (P_15.out.below hb)
      have Q_16 := Lib.hid (Q_15.out.below hb)
      have S_16 := Lib.hid (S_15.out.below hb)
      clear hb HB15 A_15 P_15 Q_15 S_15
      go_wp2_with fail
      go_ret
      exact ⟨rfl, HB16.out⟩
theorem walk (a b : Int) (wa : I64 a) (wb : I64 b) (c d : Int) (wc : I64 c) (wd : I64 d) (n : Int) (wn : I64 n) (m : Int) (wm : I64 m) (x : Int) (wx : I64 x) (y : Int) (wy : I64 y) (w : World) : Calls Try.prog 4 #[sp a b, sp c d, .int .i64 n, .int .i64 m, .int .i64 x, .int .i64 y] w (IsTrue w) := by
  by_cases h1 : a ≤ n ∧ n ≤ b
  · by_cases h2 : c ≤ m ∧ m ≤ d
    · exact walk_in a b wa wb c d wc wd n wn m wm x wx y wy w h1 h2
    · exact walk_out a b wa wb c d wc wd n wn m wm x wx y wy w (.inr (decide_eq_false h2))
  · exact walk_out a b wa wb c d wc wd n wn m wm x wx y wy w (.inl (decide_eq_false h1))
set_option maxRecDepth 100000 in
theorem lifted (os : Os) (started : os.Started) (H : Type) (enc : TypeId × Value → H) :
    ReturnsInHanded {} Try.checked os 4 .any (Rows.spanEnclosesSpec.pre6 enc Try.prog Try.f4 Rows.spanEnclosesRow.domain false) (Rows.spanEnclosesSpec.post enc Try.prog Try.f4 false true false false) := by
  refine returnsInHanded_of_change_sized (C := Try.checked) own started (by kernel_rfl) Try.func4
    (ChangeSpec.witness6 (enc := enc) (C := Try.checked) false ⟨#[], #[.agg #[.int .i64 0, .int .i64 0], .agg #[.int .i64 0, .int .i64 0], .int .i64 0, .int .i64 0, .int .i64 0, .int .i64 0], []⟩ 8 (by kernel_rfl) (by kernel_rfl) (by kernel_rfl) (by kernel_rfl)) ?_
  intro W base args ds gs before hval0 hW hcnd hsz0 _
  have hval : ∀ (j : Nat) t v, Try.f4.params[j]? = some t → args[j]? = some v → Value.okWide Try.prog W .any base t v := hval0
  have hW' := hW
  obtain ⟨p, q, hA0, hV, rfl, hfz, hnd⟩ := hW
  have hA : DataW.TrodAll enc Try.prog W 0 (fun _ => true) true Try.f4.params.toList args.toList ds p := hA0
  rw [Try.params4] at hA hval
  obtain ⟨v0, vs0, d0, ds0, p0, q0, hargs, rfl, rfl, h0, r0⟩ := trodAll_cons hA
  obtain ⟨v1, vs1, d1, ds1, p1, q1, rfl, rfl, rfl, h1, r1⟩ := trodAll_cons r0
  obtain ⟨v2, vs2, d2, ds2, p2, q2, rfl, rfl, rfl, h2, r2⟩ := trodAll_cons r1
  obtain ⟨v3, vs3, d3, ds3, p3, q3, rfl, rfl, rfl, h3, r3⟩ := trodAll_cons r2
  obtain ⟨v4, vs4, d4, ds4, p4, q4, rfl, rfl, rfl, h4, r4⟩ := trodAll_cons r3
  obtain ⟨v5, vs5, d5, ds5, p5, q5, rfl, rfl, rfl, h5, r5⟩ := trodAll_cons r4
  obtain ⟨rfl, rfl, rfl⟩ := trodAll_nil r5
  obtain rfl : args = #[v0, v1, v2, v3, v4, v5] := by cases args; simp_all
  obtain ⟨rfl, rfl⟩ := trodVars_none hV
  obtain ⟨y0, m0, rfl, wy0, wm0, rfl, t0⟩ := open_span (hval 0 23 v0 rfl rfl) h0
  obtain ⟨y1, m1, rfl, wy1, wm1, rfl, t1⟩ := open_span (hval 1 23 v1 rfl rfl) h1
  obtain ⟨a2, rfl, rfl, rfl, w2⟩ := open_int Try.underlying3 (hval 2 3 v2 rfl rfl) h2
  obtain ⟨a3, rfl, rfl, rfl, w3⟩ := open_int Try.underlying3 (hval 3 3 v3 rfl rfl) h3
  obtain ⟨a4, rfl, rfl, rfl, w4⟩ := open_int Try.underlying3 (hval 4 3 v4 rfl rfl) h4
  obtain ⟨a5, rfl, rfl, rfl, w5⟩ := open_int Try.underlying3 (hval 5 3 v5 rfl rfl) h5
  clear hA0 hval0
  simp only [List.append_nil] at hW'
  refine (walk y0 m0 wy0 wm0 y1 m1 wy1 wm1 a2 (i64_of_wf w2) a3 (i64_of_wf w3) a4 (i64_of_wf w4) a5 (i64_of_wf w5) W).mono fun e W' ⟨he, hb⟩ => ?_
  subst he
  exact ⟨_, rfl, _, _, _, [], _, [], hW', (trodAll_cons_mk (shut_bool Try.underlying4 _) trodAll_mk0), (trodAll_cons_mk (t0 _ _ _ _) (trodAll_cons_mk (t1 _ _ _ _) (trodAll_cons_mk (shut_int Try.underlying3 w2) (trodAll_cons_mk (shut_int Try.underlying3 w3) (trodAll_cons_mk (shut_int Try.underlying3 w4) (trodAll_cons_mk (shut_int Try.underlying3 w5) trodAll_mk0)))))), rfl, hb.frame _, fun h => by cases h⟩
theorem over : Rows.spanEnclosesRow.holds Try.pinned (OpenSpec.ofChange Rows.spanEnclosesSpec) :=
  OpenClaim.holds_of_wide 4 Try.f4 rfl rfl rfl rfl rfl rfl rfl ⟨rfl, rfl, rfl, rfl, rfl⟩ rfl rfl rfl rfl rfl (by kernel_rfl) Try.func4 (by kernel_rfl)
    (of_decide_eq_true (by kernel_rfl)) (by unfold Func.isWrapper; first | (rw [if_pos (by decide +kernel)]; kernel_rfl) | (rw [if_neg (by decide +kernel)]; exact ⟨rfl, rfl⟩))
    (fun os started H enc _ => lifted os started H enc)
theorem proved : Rows.SpanEnclosesSaid := over
end Go.Proofs.Ytecnonmcmdaopaa.spanEncloses
