/- The statement SpanTells: every function of span returns what the reference returns, for all spans and ints. Conditions: none. -/
import Derived.Test.YtecnonmcmdaopaaSpCard
namespace Go.Proofs.Ytecnonmcmdaopaa.spanTells
open Go.ChangeShapes Go.WideShapes Go.ChangeAt Go.RowKit Go.Joins Go.Deep Sp
set_option linter.unusedVariables false
set_option maxRecDepth 100000
set_option maxHeartbeats 4000000 in
theorem walk (a b : Int) (wa : I64 a) (wb : I64 b) (c d : Int) (wc : I64 c) (wd : I64 d) (n : Int) (wn : I64 n) (x : Int) (wx : I64 x) (y : Int) (wy : I64 y) (w : World) :
    Calls Try.prog 3 #[sp a b, sp c d, .int .i64 n, .int .i64 x, .int .i64 y] w (IsTrue w) := by
  have SM := Lib.hid (fun W => small_any W)
  have S1 := Lib.hid (fun W => scale_sp a b x y W)
  have S2 := Lib.hid (fun W => rscale_sp a b x y W)
  have M1 := Lib.hid (fun W => meet_any a b c d W)
  have M2 := Lib.hid (fun W => rmeet_any a b c d W)
  have R1 := Lib.hid (fun W => right_any a b W)
  have R2 := Lib.hid (fun W => rright_any a b W)
  have O1 := Lib.hid (fun W => of_any n W)
  have O2 := Lib.hid (fun W => rof_any n W)
  have H1 := Lib.hid (fun W => has_any a b n W)
  have H2 := Lib.hid (fun W => rhas_any a b n W)
  have A1 := Lib.hid (fun W => add_sp a b c d wa wb wc wd W)
  have A2 := Lib.hid (fun W => radd_sp a b c d wa wb wc wd W)
  have U1 := Lib.hid (fun W => sub_sp a b c d wa wb wc wd W)
  have U2 := Lib.hid (fun W => rsub_sp a b c d wa wb wc wd W)
  have J1 := Lib.hid (fun W => join_any a b c d W)
  have J2 := Lib.hid (fun W => rjoin_any a b c d W)
  have W1 := Lib.hid (fun W => within_any a b c d W)
  have W2 := Lib.hid (fun W => rwithin_any a b c d W)
  have D1 := Lib.hid (fun W => width_any a b wa wb W)
  have D2 := Lib.hid (fun W => rwidth_any a b wa wb W)
  clear wa wb wc wd wn wx wy
  unfold sp at *
  generalize loV a b x y = s0 at *
  generalize hiV a b x y = s1 at *
  generalize okB a b x y = ok at *
  generalize mL a b c d = m0 at *
  generalize mH a b c d = m1 at *
  generalize mB a b c d = mk at *
  generalize lim (a + c) = p0 at *
  generalize lim (b + d) = p1 at *
  generalize lim (a - d) = q0 at *
  generalize lim (b - c) = q1 at *
  generalize min a c = j0 at *
  generalize max b d = j1 at *
  generalize lim (b - a) = e0 at *
  generalize decide (a ≤ b) = f0 at *
  generalize decide (a ≤ n ∧ n ≤ b) = f1 at *
  generalize decide (c ≤ a ∧ b ≤ d) = f2 at *
  have HB0 := Lib.hid (below_self w)
  have HB1 := Lib.hid (below_trans HB0.out (below_alloc w (.cells #[.int .i64 a, .int .i64 b] 23)))
  have A_1 := Lib.hid (Cl.at (w := w) (x := a) (y := b) (g := w.heap.size) (by simp))
  clear HB0 
  have HB2 := Lib.hid (below_trans HB1.out (below_alloc (w.alloc (.cells #[.int .i64 a, .int .i64 b] 23)) (.cells #[.int .i64 c, .int .i64 d] 23)))
  have A_2 := Lib.hid (A_1.out.alloc (.cells #[.int .i64 c, .int .i64 d] 23))
  have B_2 := Lib.hid (Cl.at (w := (w.alloc (.cells #[.int .i64 a, .int .i64 b] 23))) (x := c) (y := d) (g := w.heap.size + 1) (by simp))
  clear HB1 A_1
  go_enter Try.func3, Try.ntmps3
  have cA0 := A_2.out.1
  have cA1 := A_2.out.2
  have cB0 := B_2.out.1
  have cB1 := B_2.out.2
  go_wp2_with fail
  clear cA0 cA1 cB0 cB1
  refine (SM.out _).mono ?_
  rintro e w3 ⟨rfl, hb⟩
  have HB3 := Lib.hid (below_trans HB2.out hb)
  have A_3 := Lib.hid (A_2.out.below hb)
  have B_3 := Lib.hid (B_2.out.below hb)
  clear hb HB2 A_2 B_2
  have cA0 := A_3.out.1
  have cA1 := A_3.out.2
  have cB0 := B_3.out.1
  have cB1 := B_3.out.2
  go_wp2_with fail
  clear cA0 cA1 cB0 cB1
  refine (S1.out _).mono ?_
  rintro e w4 ⟨rfl, hb⟩
  have HB4 := Lib.hid (below_trans HB3.out hb)
  have A_4 := Lib.hid (A_3.out.below hb)
  have B_4 := Lib.hid (B_3.out.below hb)
  clear hb HB3 A_3 B_3
  have HB5 := Lib.hid (below_trans HB4.out (below_alloc w4 (.cells #[.int .i64 s0, .int .i64 s1] 23)))
  have A_5 := Lib.hid (A_4.out.alloc (.cells #[.int .i64 s0, .int .i64 s1] 23))
  have B_5 := Lib.hid (B_4.out.alloc (.cells #[.int .i64 s0, .int .i64 s1] 23))
  have S_5 := Lib.hid (Cl.at (w := w4) (x := s0) (y := s1) (g := w4.heap.size) (by simp))
  clear HB4 A_4 B_4
  have cA0 := A_5.out.1
  have cA1 := A_5.out.2
  have cB0 := B_5.out.1
  have cB1 := B_5.out.2
  have cS0 := S_5.out.1
  have cS1 := S_5.out.2
  go_wp2_with fail
  clear cA0 cA1 cB0 cB1 cS0 cS1
  refine (S2.out _).mono ?_
  rintro e w6 ⟨rfl, hb⟩
  have HB6 := Lib.hid (below_trans HB5.out hb)
  have A_6 := Lib.hid (A_5.out.below hb)
  have B_6 := Lib.hid (B_5.out.below hb)
  have S_6 := Lib.hid (S_5.out.below hb)
  clear hb HB5 A_5 B_5 S_5
  have HB7 := Lib.hid (below_trans HB6.out (below_alloc w6 (.cells #[.int .i64 s0, .int .i64 s1] 23)))
  have A_7 := Lib.hid (A_6.out.alloc (.cells #[.int .i64 s0, .int .i64 s1] 23))
  have B_7 := Lib.hid (B_6.out.alloc (.cells #[.int .i64 s0, .int .i64 s1] 23))
  have S_7 := Lib.hid (S_6.out.alloc (.cells #[.int .i64 s0, .int .i64 s1] 23))
  have T_7 := Lib.hid (Cl.at (w := w6) (x := s0) (y := s1) (g := w6.heap.size) (by simp))
  clear HB6 A_6 B_6 S_6
  have cA0 := A_7.out.1
  have cA1 := A_7.out.2
  have cB0 := B_7.out.1
  have cB1 := B_7.out.2
  have cS0 := S_7.out.1
  have cS1 := S_7.out.2
  have cT0 := T_7.out.1
  have cT1 := T_7.out.2
  go_wp2_with fail
  clear cA0 cA1 cB0 cB1 cS0 cS1 cT0 cT1
  refine (M1.out _).mono ?_
  rintro e w8 ⟨rfl, hb⟩
  have HB8 := Lib.hid (below_trans HB7.out hb)
  have A_8 := Lib.hid (A_7.out.below hb)
  have B_8 := Lib.hid (B_7.out.below hb)
  have S_8 := Lib.hid (S_7.out.below hb)
  have T_8 := Lib.hid (T_7.out.below hb)
  clear hb HB7 A_7 B_7 S_7 T_7
  have HB9 := Lib.hid (below_trans HB8.out (below_alloc w8 (.cells #[.int .i64 m0, .int .i64 m1] 23)))
  have A_9 := Lib.hid (A_8.out.alloc (.cells #[.int .i64 m0, .int .i64 m1] 23))
  have B_9 := Lib.hid (B_8.out.alloc (.cells #[.int .i64 m0, .int .i64 m1] 23))
  have S_9 := Lib.hid (S_8.out.alloc (.cells #[.int .i64 m0, .int .i64 m1] 23))
  have T_9 := Lib.hid (T_8.out.alloc (.cells #[.int .i64 m0, .int .i64 m1] 23))
  have M_9 := Lib.hid (Cl.at (w := w8) (x := m0) (y := m1) (g := w8.heap.size) (by simp))
  clear HB8 A_8 B_8 S_8 T_8
  have cA0 := A_9.out.1
  have cA1 := A_9.out.2
  have cB0 := B_9.out.1
  have cB1 := B_9.out.2
  have cS0 := S_9.out.1
  have cS1 := S_9.out.2
  have cT0 := T_9.out.1
  have cT1 := T_9.out.2
  have cM0 := M_9.out.1
  have cM1 := M_9.out.2
  go_wp2_with fail
  clear cA0 cA1 cB0 cB1 cS0 cS1 cT0 cT1 cM0 cM1
  refine (M2.out _).mono ?_
  rintro e w10 ⟨rfl, hb⟩
  have HB10 := Lib.hid (below_trans HB9.out hb)
  have A_10 := Lib.hid (A_9.out.below hb)
  have B_10 := Lib.hid (B_9.out.below hb)
  have S_10 := Lib.hid (S_9.out.below hb)
  have T_10 := Lib.hid (T_9.out.below hb)
  have M_10 := Lib.hid (M_9.out.below hb)
  clear hb HB9 A_9 B_9 S_9 T_9 M_9
  have HB11 := Lib.hid (below_trans HB10.out (below_alloc w10 (.cells #[.int .i64 m0, .int .i64 m1] 23)))
  have A_11 := Lib.hid (A_10.out.alloc (.cells #[.int .i64 m0, .int .i64 m1] 23))
  have B_11 := Lib.hid (B_10.out.alloc (.cells #[.int .i64 m0, .int .i64 m1] 23))
  have S_11 := Lib.hid (S_10.out.alloc (.cells #[.int .i64 m0, .int .i64 m1] 23))
  have T_11 := Lib.hid (T_10.out.alloc (.cells #[.int .i64 m0, .int .i64 m1] 23))
  have M_11 := Lib.hid (M_10.out.alloc (.cells #[.int .i64 m0, .int .i64 m1] 23))
  have O_11 := Lib.hid (Cl.at (w := w10) (x := m0) (y := m1) (g := w10.heap.size) (by simp))
  clear HB10 A_10 B_10 S_10 T_10 M_10
  have cA0 := A_11.out.1
  have cA1 := A_11.out.2
  have cB0 := B_11.out.1
  have cB1 := B_11.out.2
  have cS0 := S_11.out.1
  have cS1 := S_11.out.2
  have cT0 := T_11.out.1
  have cT1 := T_11.out.2
  have cM0 := M_11.out.1
  have cM1 := M_11.out.2
  have cO0 := O_11.out.1
  have cO1 := O_11.out.2
  go_wp2_with fail
  clear cA0 cA1 cB0 cB1 cS0 cS1 cT0 cT1 cM0 cM1 cO0 cO1
  have HSa := Lib.hid (show ∀ W W', Below W.heap.size W W' → (W.cell? ⟨w.heap.size, 0, none⟩ = some (.int .i64 a) ∧ W.cell? ⟨w.heap.size, 1, none⟩ = some (.int .i64 b) ∧ W.cell? ⟨w.heap.size + 1, 0, none⟩ = some (.int .i64 c) ∧ W.cell? ⟨w.heap.size + 1, 1, none⟩ = some (.int .i64 d) ∧ Below w.heap.size w W) → (W'.cell? ⟨w.heap.size, 0, none⟩ = some (.int .i64 a) ∧ W'.cell? ⟨w.heap.size, 1, none⟩ = some (.int .i64 b) ∧ W'.cell? ⟨w.heap.size + 1, 0, none⟩ = some (.int .i64 c) ∧ W'.cell? ⟨w.heap.size + 1, 1, none⟩ = some (.int .i64 d) ∧ Below w.heap.size w W') from fun W W' hb h => by obtain ⟨h0, h1, h2, h3, h4⟩ := h; exact ⟨cell_below hb h0, cell_below hb h1, cell_below hb h2, cell_below hb h3, below_trans h4 hb⟩)
  have ta0 := s_call (S := (fun W => W.cell? ⟨w.heap.size, 0, none⟩ = some (.int .i64 a) ∧ W.cell? ⟨w.heap.size, 1, none⟩ = some (.int .i64 b) ∧ W.cell? ⟨w.heap.size + 1, 0, none⟩ = some (.int .i64 c) ∧ W.cell? ⟨w.heap.size + 1, 1, none⟩ = some (.int .i64 d) ∧ Below w.heap.size w W)) HSa.out R1.out
  try dsimp only at ta0
  have Qa0 := Lib.hid ta0
  clear ta0
  have ta1 := s_call (S := (fun W => W.cell? ⟨w.heap.size, 0, none⟩ = some (.int .i64 a) ∧ W.cell? ⟨w.heap.size, 1, none⟩ = some (.int .i64 b) ∧ W.cell? ⟨w.heap.size + 1, 0, none⟩ = some (.int .i64 c) ∧ W.cell? ⟨w.heap.size + 1, 1, none⟩ = some (.int .i64 d) ∧ Below w.heap.size w W)) HSa.out R2.out
  try dsimp only at ta1
  have Qa1 := Lib.hid ta1
  clear ta1
  have ta2 := s_call (S := (fun W => W.cell? ⟨w.heap.size, 0, none⟩ = some (.int .i64 a) ∧ W.cell? ⟨w.heap.size, 1, none⟩ = some (.int .i64 b) ∧ W.cell? ⟨w.heap.size + 1, 0, none⟩ = some (.int .i64 c) ∧ W.cell? ⟨w.heap.size + 1, 1, none⟩ = some (.int .i64 d) ∧ Below w.heap.size w W)) HSa.out O1.out
  try dsimp only at ta2
  have Qa2 := Lib.hid ta2
  clear ta2
  have ta3 := s_call (S := (fun W => W.cell? ⟨w.heap.size, 0, none⟩ = some (.int .i64 a) ∧ W.cell? ⟨w.heap.size, 1, none⟩ = some (.int .i64 b) ∧ W.cell? ⟨w.heap.size + 1, 0, none⟩ = some (.int .i64 c) ∧ W.cell? ⟨w.heap.size + 1, 1, none⟩ = some (.int .i64 d) ∧ Below w.heap.size w W)) HSa.out O2.out
  try dsimp only at ta3
  have Qa3 := Lib.hid ta3
  clear ta3
  have ta4 := s_call (S := (fun W => W.cell? ⟨w.heap.size, 0, none⟩ = some (.int .i64 a) ∧ W.cell? ⟨w.heap.size, 1, none⟩ = some (.int .i64 b) ∧ W.cell? ⟨w.heap.size + 1, 0, none⟩ = some (.int .i64 c) ∧ W.cell? ⟨w.heap.size + 1, 1, none⟩ = some (.int .i64 d) ∧ Below w.heap.size w W)) HSa.out H1.out
  try dsimp only at ta4
  have Qa4 := Lib.hid ta4
  clear ta4
  have ta5 := s_call (S := (fun W => W.cell? ⟨w.heap.size, 0, none⟩ = some (.int .i64 a) ∧ W.cell? ⟨w.heap.size, 1, none⟩ = some (.int .i64 b) ∧ W.cell? ⟨w.heap.size + 1, 0, none⟩ = some (.int .i64 c) ∧ W.cell? ⟨w.heap.size + 1, 1, none⟩ = some (.int .i64 d) ∧ Below w.heap.size w W)) HSa.out H2.out
  try dsimp only at ta5
  have Qa5 := Lib.hid ta5
  clear ta5
  go_region_held3 (fun W => W.cell? ⟨w.heap.size, 0, none⟩ = some (.int .i64 a) ∧ W.cell? ⟨w.heap.size, 1, none⟩ = some (.int .i64 b) ∧ W.cell? ⟨w.heap.size + 1, 0, none⟩ = some (.int .i64 c) ∧ W.cell? ⟨w.heap.size + 1, 1, none⟩ = some (.int .i64 d) ∧ Below w.heap.size w W)
    (((try dsimp only); (refine ⟨?_, ?_, ?_, ?_, ?_⟩ <;> (first | assumption | exact A_11.out.1 | exact A_11.out.2 | exact B_11.out.1 | exact B_11.out.2 | exact ⟨HB11.out.os, HB11.out.tape, HB11.out.output, HB11.out.size, HB11.out.block⟩ | go_keep))))
    ((first
      | (go_at_call 13; with_reducible refine (Qa0.out _ ?_).mono ?_; assumption; rintro e w' ⟨rfl, q0, q1, q2, q3, q4⟩)
      | (go_at_call 14; with_reducible refine (Qa1.out _ ?_).mono ?_; assumption; rintro e w' ⟨rfl, q0, q1, q2, q3, q4⟩)
      | (go_at_call 15; with_reducible refine (Qa2.out _ ?_).mono ?_; assumption; rintro e w' ⟨rfl, q0, q1, q2, q3, q4⟩)
      | (go_at_call 16; with_reducible refine (Qa3.out _ ?_).mono ?_; assumption; rintro e w' ⟨rfl, q0, q1, q2, q3, q4⟩)
      | (go_at_call 17; with_reducible refine (Qa4.out _ ?_).mono ?_; assumption; rintro e w' ⟨rfl, q0, q1, q2, q3, q4⟩)
      | (go_at_call 18; with_reducible refine (Qa5.out _ ?_).mono ?_; assumption; rintro e w' ⟨rfl, q0, q1, q2, q3, q4⟩)))
  have A_12 := Lib.hid (show Cl _ (w.heap.size) (a) (b) from ⟨q0, q1⟩)
  have B_12 := Lib.hid (show Cl _ (w.heap.size + 1) (c) (d) from ⟨q2, q3⟩)
  have HB12 := Lib.hid q4
  clear q0 q1 q2 q3 q4
  clear HSa Qa0 Qa1 Qa2 Qa3 Qa4 Qa5
  clear A_11 B_11 S_11 T_11 M_11 O_11 HB11
  go_wp2_with fail
  have HSb := Lib.hid (show ∀ W W', Below W.heap.size W W' → (W.cell? ⟨w.heap.size, 0, none⟩ = some (.int .i64 a) ∧ W.cell? ⟨w.heap.size, 1, none⟩ = some (.int .i64 b) ∧ W.cell? ⟨w.heap.size + 1, 0, none⟩ = some (.int .i64 c) ∧ W.cell? ⟨w.heap.size + 1, 1, none⟩ = some (.int .i64 d) ∧ Below w.heap.size w W) → (W'.cell? ⟨w.heap.size, 0, none⟩ = some (.int .i64 a) ∧ W'.cell? ⟨w.heap.size, 1, none⟩ = some (.int .i64 b) ∧ W'.cell? ⟨w.heap.size + 1, 0, none⟩ = some (.int .i64 c) ∧ W'.cell? ⟨w.heap.size + 1, 1, none⟩ = some (.int .i64 d) ∧ Below w.heap.size w W') from fun W W' hb h => by obtain ⟨h0, h1, h2, h3, h4⟩ := h; exact ⟨cell_below hb h0, cell_below hb h1, cell_below hb h2, cell_below hb h3, below_trans h4 hb⟩)
  have tb0 := s_call (S := (fun W => W.cell? ⟨w.heap.size, 0, none⟩ = some (.int .i64 a) ∧ W.cell? ⟨w.heap.size, 1, none⟩ = some (.int .i64 b) ∧ W.cell? ⟨w.heap.size + 1, 0, none⟩ = some (.int .i64 c) ∧ W.cell? ⟨w.heap.size + 1, 1, none⟩ = some (.int .i64 d) ∧ Below w.heap.size w W)) HSb.out A1.out
  try dsimp only at tb0
  have Qb0 := Lib.hid tb0
  clear tb0
  have tb1 := s_call (S := (fun W => W.cell? ⟨w.heap.size, 0, none⟩ = some (.int .i64 a) ∧ W.cell? ⟨w.heap.size, 1, none⟩ = some (.int .i64 b) ∧ W.cell? ⟨w.heap.size + 1, 0, none⟩ = some (.int .i64 c) ∧ W.cell? ⟨w.heap.size + 1, 1, none⟩ = some (.int .i64 d) ∧ Below w.heap.size w W)) HSb.out A2.out
  try dsimp only at tb1
  have Qb1 := Lib.hid tb1
  clear tb1
  have tb2 := s_call (S := (fun W => W.cell? ⟨w.heap.size, 0, none⟩ = some (.int .i64 a) ∧ W.cell? ⟨w.heap.size, 1, none⟩ = some (.int .i64 b) ∧ W.cell? ⟨w.heap.size + 1, 0, none⟩ = some (.int .i64 c) ∧ W.cell? ⟨w.heap.size + 1, 1, none⟩ = some (.int .i64 d) ∧ Below w.heap.size w W)) HSb.out U1.out
  try dsimp only at tb2
  have Qb2 := Lib.hid tb2
  clear tb2
  have tb3 := s_call (S := (fun W => W.cell? ⟨w.heap.size, 0, none⟩ = some (.int .i64 a) ∧ W.cell? ⟨w.heap.size, 1, none⟩ = some (.int .i64 b) ∧ W.cell? ⟨w.heap.size + 1, 0, none⟩ = some (.int .i64 c) ∧ W.cell? ⟨w.heap.size + 1, 1, none⟩ = some (.int .i64 d) ∧ Below w.heap.size w W)) HSb.out U2.out
  try dsimp only at tb3
  have Qb3 := Lib.hid tb3
  clear tb3
  have tb4 := s_call (S := (fun W => W.cell? ⟨w.heap.size, 0, none⟩ = some (.int .i64 a) ∧ W.cell? ⟨w.heap.size, 1, none⟩ = some (.int .i64 b) ∧ W.cell? ⟨w.heap.size + 1, 0, none⟩ = some (.int .i64 c) ∧ W.cell? ⟨w.heap.size + 1, 1, none⟩ = some (.int .i64 d) ∧ Below w.heap.size w W)) HSb.out J1.out
  try dsimp only at tb4
  have Qb4 := Lib.hid tb4
  clear tb4
  have tb5 := s_call (S := (fun W => W.cell? ⟨w.heap.size, 0, none⟩ = some (.int .i64 a) ∧ W.cell? ⟨w.heap.size, 1, none⟩ = some (.int .i64 b) ∧ W.cell? ⟨w.heap.size + 1, 0, none⟩ = some (.int .i64 c) ∧ W.cell? ⟨w.heap.size + 1, 1, none⟩ = some (.int .i64 d) ∧ Below w.heap.size w W)) HSb.out J2.out
  try dsimp only at tb5
  have Qb5 := Lib.hid tb5
  clear tb5
  go_region_held3 (fun W => W.cell? ⟨w.heap.size, 0, none⟩ = some (.int .i64 a) ∧ W.cell? ⟨w.heap.size, 1, none⟩ = some (.int .i64 b) ∧ W.cell? ⟨w.heap.size + 1, 0, none⟩ = some (.int .i64 c) ∧ W.cell? ⟨w.heap.size + 1, 1, none⟩ = some (.int .i64 d) ∧ Below w.heap.size w W)
    (((try dsimp only); (refine ⟨?_, ?_, ?_, ?_, ?_⟩ <;> (first | assumption | exact A_12.out.1 | exact A_12.out.2 | exact B_12.out.1 | exact B_12.out.2 | exact ⟨HB12.out.os, HB12.out.tape, HB12.out.output, HB12.out.size, HB12.out.block⟩ | go_keep))))
    ((first
      | (go_at_call 19; with_reducible refine (Qb0.out _ ?_).mono ?_; assumption; rintro e w' ⟨rfl, q0, q1, q2, q3, q4⟩)
      | (go_at_call 20; with_reducible refine (Qb1.out _ ?_).mono ?_; assumption; rintro e w' ⟨rfl, q0, q1, q2, q3, q4⟩)
      | (go_at_call 21; with_reducible refine (Qb2.out _ ?_).mono ?_; assumption; rintro e w' ⟨rfl, q0, q1, q2, q3, q4⟩)
      | (go_at_call 22; with_reducible refine (Qb3.out _ ?_).mono ?_; assumption; rintro e w' ⟨rfl, q0, q1, q2, q3, q4⟩)
      | (go_at_call 23; with_reducible refine (Qb4.out _ ?_).mono ?_; assumption; rintro e w' ⟨rfl, q0, q1, q2, q3, q4⟩)
      | (go_at_call 24; with_reducible refine (Qb5.out _ ?_).mono ?_; assumption; rintro e w' ⟨rfl, q0, q1, q2, q3, q4⟩)))
  have A_13 := Lib.hid (show Cl _ (w.heap.size) (a) (b) from ⟨q0, q1⟩)
  have B_13 := Lib.hid (show Cl _ (w.heap.size + 1) (c) (d) from ⟨q2, q3⟩)
  have HB13 := Lib.hid q4
  clear q0 q1 q2 q3 q4
  clear HSb Qb0 Qb1 Qb2 Qb3 Qb4 Qb5
  clear A_12 B_12 HB12
  go_wp2_with fail
  have HSc := Lib.hid (show ∀ W W', Below W.heap.size W W' → (W.cell? ⟨w.heap.size, 0, none⟩ = some (.int .i64 a) ∧ W.cell? ⟨w.heap.size, 1, none⟩ = some (.int .i64 b) ∧ W.cell? ⟨w.heap.size + 1, 0, none⟩ = some (.int .i64 c) ∧ W.cell? ⟨w.heap.size + 1, 1, none⟩ = some (.int .i64 d) ∧ Below w.heap.size w W) → (W'.cell? ⟨w.heap.size, 0, none⟩ = some (.int .i64 a) ∧ W'.cell? ⟨w.heap.size, 1, none⟩ = some (.int .i64 b) ∧ W'.cell? ⟨w.heap.size + 1, 0, none⟩ = some (.int .i64 c) ∧ W'.cell? ⟨w.heap.size + 1, 1, none⟩ = some (.int .i64 d) ∧ Below w.heap.size w W') from fun W W' hb h => by obtain ⟨h0, h1, h2, h3, h4⟩ := h; exact ⟨cell_below hb h0, cell_below hb h1, cell_below hb h2, cell_below hb h3, below_trans h4 hb⟩)
  have tc0 := s_call (S := (fun W => W.cell? ⟨w.heap.size, 0, none⟩ = some (.int .i64 a) ∧ W.cell? ⟨w.heap.size, 1, none⟩ = some (.int .i64 b) ∧ W.cell? ⟨w.heap.size + 1, 0, none⟩ = some (.int .i64 c) ∧ W.cell? ⟨w.heap.size + 1, 1, none⟩ = some (.int .i64 d) ∧ Below w.heap.size w W)) HSc.out W1.out
  try dsimp only at tc0
  have Qc0 := Lib.hid tc0
  clear tc0
  have tc1 := s_call (S := (fun W => W.cell? ⟨w.heap.size, 0, none⟩ = some (.int .i64 a) ∧ W.cell? ⟨w.heap.size, 1, none⟩ = some (.int .i64 b) ∧ W.cell? ⟨w.heap.size + 1, 0, none⟩ = some (.int .i64 c) ∧ W.cell? ⟨w.heap.size + 1, 1, none⟩ = some (.int .i64 d) ∧ Below w.heap.size w W)) HSc.out W2.out
  try dsimp only at tc1
  have Qc1 := Lib.hid tc1
  clear tc1
  have tc2 := s_call (S := (fun W => W.cell? ⟨w.heap.size, 0, none⟩ = some (.int .i64 a) ∧ W.cell? ⟨w.heap.size, 1, none⟩ = some (.int .i64 b) ∧ W.cell? ⟨w.heap.size + 1, 0, none⟩ = some (.int .i64 c) ∧ W.cell? ⟨w.heap.size + 1, 1, none⟩ = some (.int .i64 d) ∧ Below w.heap.size w W)) HSc.out D1.out
  try dsimp only at tc2
  have Qc2 := Lib.hid tc2
  clear tc2
  have tc3 := s_call (S := (fun W => W.cell? ⟨w.heap.size, 0, none⟩ = some (.int .i64 a) ∧ W.cell? ⟨w.heap.size, 1, none⟩ = some (.int .i64 b) ∧ W.cell? ⟨w.heap.size + 1, 0, none⟩ = some (.int .i64 c) ∧ W.cell? ⟨w.heap.size + 1, 1, none⟩ = some (.int .i64 d) ∧ Below w.heap.size w W)) HSc.out D2.out
  try dsimp only at tc3
  have Qc3 := Lib.hid tc3
  clear tc3
  go_region_held3 (fun W => W.cell? ⟨w.heap.size, 0, none⟩ = some (.int .i64 a) ∧ W.cell? ⟨w.heap.size, 1, none⟩ = some (.int .i64 b) ∧ W.cell? ⟨w.heap.size + 1, 0, none⟩ = some (.int .i64 c) ∧ W.cell? ⟨w.heap.size + 1, 1, none⟩ = some (.int .i64 d) ∧ Below w.heap.size w W)
    (((try dsimp only); (refine ⟨?_, ?_, ?_, ?_, ?_⟩ <;> (first | assumption | exact A_13.out.1 | exact A_13.out.2 | exact B_13.out.1 | exact B_13.out.2 | exact ⟨HB13.out.os, HB13.out.tape, HB13.out.output, HB13.out.size, HB13.out.block⟩ | go_keep))))
    ((first
      | (go_at_call 25; with_reducible refine (Qc0.out _ ?_).mono ?_; assumption; rintro e w' ⟨rfl, q0, q1, q2, q3, q4⟩)
      | (go_at_call 26; with_reducible refine (Qc1.out _ ?_).mono ?_; assumption; rintro e w' ⟨rfl, q0, q1, q2, q3, q4⟩)
      | (go_at_call 27; with_reducible refine (Qc2.out _ ?_).mono ?_; assumption; rintro e w' ⟨rfl, q0, q1, q2, q3, q4⟩)
      | (go_at_call 28; with_reducible refine (Qc3.out _ ?_).mono ?_; assumption; rintro e w' ⟨rfl, q0, q1, q2, q3, q4⟩)))
  have A_14 := Lib.hid (show Cl _ (w.heap.size) (a) (b) from ⟨q0, q1⟩)
  have B_14 := Lib.hid (show Cl _ (w.heap.size + 1) (c) (d) from ⟨q2, q3⟩)
  have HB14 := Lib.hid q4
  clear q0 q1 q2 q3 q4
  clear HSc Qc0 Qc1 Qc2 Qc3
  clear A_13 B_13 HB13
  go_wp2_with fail
  --GG
  go_ret
  exact ⟨rfl, HB14.out⟩
set_option maxRecDepth 100000 in
theorem lifted (os : Os) (started : os.Started) (H : Type) (enc : TypeId × Value → H) :
    ReturnsInHanded {} Try.checked os 3 .any (Rows.spanTellsSpec.pre6 enc Try.prog Try.f3 Rows.spanTellsRow.domain false) (Rows.spanTellsSpec.post enc Try.prog Try.f3 false true false false) := by
  refine returnsInHanded_of_change_sized (C := Try.checked) own started (by kernel_rfl) Try.func3
    (ChangeSpec.witness6 (enc := enc) (C := Try.checked) false ⟨#[], #[.agg #[.int .i64 0, .int .i64 0], .agg #[.int .i64 0, .int .i64 0], .int .i64 0, .int .i64 0, .int .i64 0], []⟩ 8 (by kernel_rfl) (by kernel_rfl) (by kernel_rfl) (by kernel_rfl)) ?_
  intro W base args ds gs before hval0 hW hcnd hsz0 _
  have hval : ∀ (j : Nat) t v, Try.f3.params[j]? = some t → args[j]? = some v → Value.okWide Try.prog W .any base t v := hval0
  have hW' := hW
  obtain ⟨p, q, hA0, hV, rfl, hfz, hnd⟩ := hW
  have hA : DataW.TrodAll enc Try.prog W 0 (fun _ => true) true Try.f3.params.toList args.toList ds p := hA0
  rw [Try.params3] at hA hval
  obtain ⟨v0, vs0, d0, ds0, p0, q0, hargs, rfl, rfl, h0, r0⟩ := trodAll_cons hA
  obtain ⟨v1, vs1, d1, ds1, p1, q1, rfl, rfl, rfl, h1, r1⟩ := trodAll_cons r0
  obtain ⟨v2, vs2, d2, ds2, p2, q2, rfl, rfl, rfl, h2, r2⟩ := trodAll_cons r1
  obtain ⟨v3, vs3, d3, ds3, p3, q3, rfl, rfl, rfl, h3, r3⟩ := trodAll_cons r2
  obtain ⟨v4, vs4, d4, ds4, p4, q4, rfl, rfl, rfl, h4, r4⟩ := trodAll_cons r3
  obtain ⟨rfl, rfl, rfl⟩ := trodAll_nil r4
  obtain rfl : args = #[v0, v1, v2, v3, v4] := by cases args; simp_all
  obtain ⟨rfl, rfl⟩ := trodVars_none hV
  obtain ⟨y0, m0, rfl, wy0, wm0, rfl, t0⟩ := open_span (hval 0 23 v0 rfl rfl) h0
  obtain ⟨y1, m1, rfl, wy1, wm1, rfl, t1⟩ := open_span (hval 1 23 v1 rfl rfl) h1
  obtain ⟨a2, rfl, rfl, rfl, w2⟩ := open_int Try.underlying3 (hval 2 3 v2 rfl rfl) h2
  obtain ⟨a3, rfl, rfl, rfl, w3⟩ := open_int Try.underlying3 (hval 3 3 v3 rfl rfl) h3
  obtain ⟨a4, rfl, rfl, rfl, w4⟩ := open_int Try.underlying3 (hval 4 3 v4 rfl rfl) h4
  clear hA0 hval0
  simp only [List.append_nil] at hW'
  refine (walk y0 m0 wy0 wm0 y1 m1 wy1 wm1 a2 (i64_of_wf w2) a3 (i64_of_wf w3) a4 (i64_of_wf w4) W).mono fun e W' ⟨he, hb⟩ => ?_
  subst he
  exact ⟨_, rfl, _, _, _, [], _, [], hW', (trodAll_cons_mk (shut_bool Try.underlying4 _) trodAll_mk0), (trodAll_cons_mk (t0 _ _ _ _) (trodAll_cons_mk (t1 _ _ _ _) (trodAll_cons_mk (shut_int Try.underlying3 w2) (trodAll_cons_mk (shut_int Try.underlying3 w3) (trodAll_cons_mk (shut_int Try.underlying3 w4) trodAll_mk0))))), rfl, hb.frame _, fun h => by cases h⟩
theorem over : Rows.spanTellsRow.holds Try.pinned (OpenSpec.ofChange Rows.spanTellsSpec) :=
  OpenClaim.holds_of_wide 3 Try.f3 rfl rfl rfl rfl rfl rfl rfl ⟨rfl, rfl, rfl, rfl, rfl⟩ rfl rfl rfl rfl rfl (by kernel_rfl) Try.func3 (by kernel_rfl)
    (of_decide_eq_true (by kernel_rfl)) (by unfold Func.isWrapper; first | (rw [if_pos (by decide +kernel)]; kernel_rfl) | (rw [if_neg (by decide +kernel)]; exact ⟨rfl, rfl⟩))
    (fun os started H enc _ => lifted os started H enc)
theorem proved : Rows.SpanTellsSaid := over
end Go.Proofs.Ytecnonmcmdaopaa.spanTells
