/- The statement SpanMeets: for right spans, an integer is in both exactly if Meet is true and it is in its result, which lies in both; and what is in one of them is in Join, in which both lie. Conditions: none. -/
import Derived.Test.YtecnonmcmdaopaaSpCard
namespace Go.Proofs.Ytecnonmcmdaopaa.spanMeets
open Go.ChangeShapes Go.WideShapes Go.ChangeAt Go.RowKit Go.Joins Go.Deep Sp
set_option linter.unusedVariables false
set_option maxRecDepth 100000
set_option maxHeartbeats 4000000 in
theorem walk_out (a b : Int) (wa : I64 a) (wb : I64 b) (c d : Int) (wc : I64 c) (wd : I64 d) (n : Int) (wn : I64 n) (w : World) (ho : decide (a ≤ b) = false ∨ decide (c ≤ d) = false) : Calls Try.prog 5 #[sp a b, sp c d, .int .i64 n] w (IsTrue w) := by
  have SM := Lib.hid (fun W => small_any W)
  have R1 := Lib.hid (fun W => right_any a b W)
  have R2 := Lib.hid (fun W => right_any c d W)
  unfold sp at *
  clear wa wb wc wd wn
  generalize decide (a ≤ b) = f1 at *
  generalize decide (c ≤ d) = f2 at *
  cases f1 with
  | false =>
    clear ho
    have HB0 := Lib.hid (below_self w)
    have HB1 := Lib.hid (below_trans HB0.out (below_alloc w (.cells #[.int .i64 a, .int .i64 b] 23)))
    have A_1 := Lib.hid (Cl.at (w := w) (x := a) (y := b) (g := w.heap.size) (by simp))
    clear HB0 
    have HB2 := Lib.hid (below_trans HB1.out (below_alloc (w.alloc (.cells #[.int .i64 a, .int .i64 b] 23)) (.cells #[.int .i64 c, .int .i64 d] 23)))
    have A_2 := Lib.hid (A_1.out.alloc (.cells #[.int .i64 c, .int .i64 d] 23))
    have B_2 := Lib.hid (Cl.at (w := (w.alloc (.cells #[.int .i64 a, .int .i64 b] 23))) (x := c) (y := d) (g := w.heap.size + 1) (by simp))
    clear HB1 A_1
    go_enter Try.func5, Try.ntmps5
    have cA0 := A_2.out.1
    have cA1 := A_2.out.2
    have cB0 := B_2.out.1
    have cB1 := B_2.out.2
    go_wp2_with fail
    clear cA0 cA1 cB0 cB1
    refine (SM.out _).mono ?_
    rintro e w3 ⟨rfl, hb⟩
    have HB3 := Lib.hid (below_trans HB2.out hb)
    have A_3 := Lib.hid (A_2.out.below hb)
    have B_3 := Lib.hid (B_2.out.below hb)
    clear hb HB2 A_2 B_2
    have cA0 := A_3.out.1
    have cA1 := A_3.out.2
    have cB0 := B_3.out.1
    have cB1 := B_3.out.2
    go_wp2_with fail
    clear cA0 cA1 cB0 cB1
    refine (R1.out _).mono ?_
    rintro e w4 ⟨rfl, hb⟩
    have HB4 := Lib.hid (below_trans HB3.out hb)
    have A_4 := Lib.hid (A_3.out.below hb)
    have B_4 := Lib.hid (B_3.out.below hb)
    clear hb HB3 A_3 B_3
    have cA0 := A_4.out.1
    have cA1 := A_4.out.2
    have cB0 := B_4.out.1
    have cB1 := B_4.out.2
    go_wp2_with fail
    go_ret
    exact ⟨rfl, HB4.out⟩
  | true =>
    obtain rfl : f2 = false := by simpa using ho
    clear ho
    have HB0 := Lib.hid (below_self w)
    have HB1 := Lib.hid (below_trans HB0.out (below_alloc w (.cells #[.int .i64 a, .int .i64 b] 23)))
    have A_1 := Lib.hid (Cl.at (w := w) (x := a) (y := b) (g := w.heap.size) (by simp))
    clear HB0 
    have HB2 := Lib.hid (below_trans HB1.out (below_alloc (w.alloc (.cells #[.int .i64 a, .int .i64 b] 23)) (.cells #[.int .i64 c, .int .i64 d] 23)))
    have A_2 := Lib.hid (A_1.out.alloc (.cells #[.int .i64 c, .int .i64 d] 23))
    have B_2 := Lib.hid (Cl.at (w := (w.alloc (.cells #[.int .i64 a, .int .i64 b] 23))) (x := c) (y := d) (g := w.heap.size + 1) (by simp))
    clear HB1 A_1
    go_enter Try.func5, Try.ntmps5
    have cA0 := A_2.out.1
    have cA1 := A_2.out.2
    have cB0 := B_2.out.1
    have cB1 := B_2.out.2
    go_wp2_with fail
    clear cA0 cA1 cB0 cB1
    refine (SM.out _).mono ?_
    rintro e w3 ⟨rfl, hb⟩
    have HB3 := Lib.hid (below_trans HB2.out hb)
    have A_3 := Lib.hid (A_2.out.below hb)
    have B_3 := Lib.hid (B_2.out.below hb)
    clear hb HB2 A_2 B_2
    have cA0 := A_3.out.1
    have cA1 := A_3.out.2
    have cB0 := B_3.out.1
    have cB1 := B_3.out.2
    go_wp2_with fail
    clear cA0 cA1 cB0 cB1
    refine (R1.out _).mono ?_
    rintro e w4 ⟨rfl, hb⟩
    have HB4 := Lib.hid (below_trans HB3.out hb)
    have A_4 := Lib.hid (A_3.out.below hb)
    have B_4 := Lib.hid (B_3.out.below hb)
    clear hb HB3 A_3 B_3
    have cA0 := A_4.out.1
    have cA1 := A_4.out.2
    have cB0 := B_4.out.1
    have cB1 := B_4.out.2
    go_wp2_with fail
    clear cA0 cA1 cB0 cB1
    refine (R2.out _).mono ?_
    rintro e w5 ⟨rfl, hb⟩
    have HB5 := Lib.hid (below_trans HB4.out hb)
    have A_5 := Lib.hid (A_4.out.below hb)
    have B_5 := Lib.hid (B_4.out.below hb)
    clear hb HB4 A_4 B_4
    have cA0 := A_5.out.1
    have cA1 := A_5.out.2
    have cB0 := B_5.out.1
    have cB1 := B_5.out.2
    go_wp2_with fail
    go_ret
    exact ⟨rfl, HB5.out⟩
theorem facts {a b c d n : Int} (h1 : a ≤ b) (h2 : c ≤ d) :
    ((decide (a ≤ n ∧ n ≤ b) && decide (c ≤ n ∧ n ≤ d)) = (mB a b c d && decide (mL a b c d ≤ n ∧ n ≤ mH a b c d))) ∧
    (mB a b c d = true → decide (a ≤ mL a b c d ∧ mH a b c d ≤ b) = true ∧ decide (c ≤ mL a b c d ∧ mH a b c d ≤ d) = true ∧ decide (mL a b c d ≤ mH a b c d) = true) ∧
    (mB a b c d = false → mL a b c d = 0 ∧ mH a b c d = 0) ∧
    ((decide (a ≤ n ∧ n ≤ b) || decide (c ≤ n ∧ n ≤ d)) = true → decide (min a c ≤ n ∧ n ≤ max b d) = true) ∧
    decide (min a c ≤ a ∧ b ≤ max b d) = true ∧ decide (min a c ≤ c ∧ d ≤ max b d) = true ∧ (min a c = a ∨ min a c = c) ∧ (max b d = b ∨ max b d = d) := by
  have key : mB a b c d = true ↔ max a c ≤ min b d := by unfold mB; simp
  refine ⟨?_, ?_, ?_, ?_, ?_, ?_, by omega, by omega⟩
  · unfold mL mH
    by_cases hm : mB a b c d = true
    · have := key.1 hm
      rw [if_pos hm, if_pos hm, hm, Bool.true_and, ← Bool.decide_and]
      exact decide_eq_decide.2 (by omega)
    · have hm' : ¬ max a c ≤ min b d := fun h => hm (key.2 h)
      rw [show mB a b c d = false by simpa using hm, Bool.false_and, ← Bool.decide_and]
      exact decide_eq_false (by omega)
  · intro hm
    have := key.1 hm
    unfold mL mH
    rw [if_pos hm, if_pos hm]
    exact ⟨decide_eq_true (by omega), decide_eq_true (by omega), decide_eq_true (by omega)⟩
  · intro hm
    unfold mL mH
    rw [hm]
    exact ⟨rfl, rfl⟩
  · intro h
    simp only [Bool.or_eq_true, decide_eq_true_eq] at h ⊢
    omega
  · exact decide_eq_true (by omega)
  · exact decide_eq_true (by omega)
set_option maxHeartbeats 16000000 in
theorem walk_in (a b : Int) (wa : I64 a) (wb : I64 b) (c d : Int) (wc : I64 c) (wd : I64 d) (n : Int) (wn : I64 n) (w : World) (h1 : a ≤ b) (h2 : c ≤ d) : Calls Try.prog 5 #[sp a b, sp c d, .int .i64 n] w (IsTrue w) := by
  obtain ⟨k1, k2, k3, k4, k5, k6, k7, k8⟩ := facts (n := n) h1 h2
  have SM := Lib.hid (fun W => small_any W)
  have R1 := Lib.hid (fun W => right_any a b W)
  have R2 := Lib.hid (fun W => right_any c d W)
  rw [decide_eq_true h1] at R1
  rw [decide_eq_true h2] at R2
  have ME := Lib.hid (fun W => meet_any a b c d W)
  have JO := Lib.hid (fun W => join_any a b c d W)
  have H1 := Lib.hid (fun W => has_any a b n W)
  have H2 := Lib.hid (fun W => has_any c d n W)
  have H3 := Lib.hid (fun W => has_any (mL a b c d) (mH a b c d) n W)
  have H4 := Lib.hid (fun W => has_any (min a c) (max b d) n W)
  have W1 := Lib.hid (fun W => within_any (mL a b c d) (mH a b c d) a b W)
  have W2 := Lib.hid (fun W => within_any (mL a b c d) (mH a b c d) c d W)
  have W3 := Lib.hid (fun W => within_any a b (min a c) (max b d) W)
  have W4 := Lib.hid (fun W => within_any c d (min a c) (max b d) W)
  have R3 := Lib.hid (fun W => right_any (mL a b c d) (mH a b c d) W)
  rw [k5] at W3
  rw [k6] at W4
  clear k5 k6 h1 h2 wa wb wc wd wn
  unfold sp at *
  generalize decide (a ≤ n ∧ n ≤ b) = f1 at *
  generalize decide (c ≤ n ∧ n ≤ d) = f2 at *
  generalize decide (mL a b c d ≤ n ∧ n ≤ mH a b c d) = f3 at *
  generalize decide (min a c ≤ n ∧ n ≤ max b d) = f4 at *
  generalize decide (a ≤ mL a b c d ∧ mH a b c d ≤ b) = g1 at *
  generalize decide (c ≤ mL a b c d ∧ mH a b c d ≤ d) = g2 at *
  generalize decide (mL a b c d ≤ mH a b c d) = g3 at *
  generalize mL a b c d = m0 at *
  generalize mH a b c d = m1 at *
  generalize mB a b c d = ok at *
  generalize min a c = j0 at *
  generalize max b d = j1 at *
  have K7 := Lib.hid k7
  have K8 := Lib.hid k8
  clear k7 k8
  cases ok with
  | false =>
    cases f1 with
    | false =>
      cases f2 with
      | false =>
        obtain ⟨rfl, rfl⟩ := k3 rfl
        clear k1 k2 k3 k4
        have HB0 := Lib.hid (below_self w)
        have HB1 := Lib.hid (below_trans HB0.out (below_alloc w (.cells #[.int .i64 a, .int .i64 b] 23)))
        have A_1 := Lib.hid (Cl.at (w := w) (x := a) (y := b) (g := w.heap.size) (by simp))
        clear HB0 
        have HB2 := Lib.hid (below_trans HB1.out (below_alloc (w.alloc (.cells #[.int .i64 a, .int .i64 b] 23)) (.cells #[.int .i64 c, .int .i64 d] 23)))
        have A_2 := Lib.hid (A_1.out.alloc (.cells #[.int .i64 c, .int .i64 d] 23))
        have B_2 := Lib.hid (Cl.at (w := (w.alloc (.cells #[.int .i64 a, .int .i64 b] 23))) (x := c) (y := d) (g := w.heap.size + 1) (by simp))
        clear HB1 A_1
        go_enter Try.func5, Try.ntmps5
        have cA0 := A_2.out.1
        have cA1 := A_2.out.2
        have cB0 := B_2.out.1
        have cB1 := B_2.out.2
        go_wp2_with fail
        clear cA0 cA1 cB0 cB1
        refine (SM.out _).mono ?_
        rintro e w3 ⟨rfl, hb⟩
        have HB3 := Lib.hid (below_trans HB2.out hb)
        have A_3 := Lib.hid (A_2.out.below hb)
        have B_3 := Lib.hid (B_2.out.below hb)
        clear hb HB2 A_2 B_2
        have cA0 := A_3.out.1
        have cA1 := A_3.out.2
        have cB0 := B_3.out.1
        have cB1 := B_3.out.2
        go_wp2_with fail
        clear cA0 cA1 cB0 cB1
        refine (R1.out _).mono ?_
        rintro e w4 ⟨rfl, hb⟩
        have HB4 := Lib.hid (below_trans HB3.out hb)
        have A_4 := Lib.hid (A_3.out.below hb)
        have B_4 := Lib.hid (B_3.out.below hb)
        clear hb HB3 A_3 B_3
        have cA0 := A_4.out.1
        have cA1 := A_4.out.2
        have cB0 := B_4.out.1
        have cB1 := B_4.out.2
        go_wp2_with fail
        clear cA0 cA1 cB0 cB1
        refine (R2.out _).mono ?_
        rintro e w5 ⟨rfl, hb⟩
        have HB5 := Lib.hid (below_trans HB4.out hb)
        have A_5 := Lib.hid (A_4.out.below hb)
        have B_5 := Lib.hid (B_4.out.below hb)
        clear hb HB4 A_4 B_4
        have cA0 := A_5.out.1
        have cA1 := A_5.out.2
        have cB0 := B_5.out.1
        have cB1 := B_5.out.2
        go_wp2_with fail
        clear cA0 cA1 cB0 cB1
        refine (ME.out _).mono ?_
        rintro e w6 ⟨rfl, hb⟩
        have HB6 := Lib.hid (below_trans HB5.out hb)
        have A_6 := Lib.hid (A_5.out.below hb)
        have B_6 := Lib.hid (B_5.out.below hb)
        clear hb HB5 A_5 B_5
        have HB7 := Lib.hid (below_trans HB6.out (below_alloc w6 (.cells #[.int .i64 0, .int .i64 0] 23)))
        have A_7 := Lib.hid (A_6.out.alloc (.cells #[.int .i64 0, .int .i64 0] 23))
        have B_7 := Lib.hid (B_6.out.alloc (.cells #[.int .i64 0, .int .i64 0] 23))
        have M_7 := Lib.hid (Cl.at (w := w6) (x := 0) (y := 0) (g := w6.heap.size) (by simp))
        clear HB6 A_6 B_6
        have cA0 := A_7.out.1
        have cA1 := A_7.out.2
        have cB0 := B_7.out.1
        have cB1 := B_7.out.2
        have cM0 := M_7.out.1
        have cM1 := M_7.out.2
        go_wp2_with fail
        clear cA0 cA1 cB0 cB1 cM0 cM1
        refine (JO.out _).mono ?_
        rintro e w8 ⟨rfl, hb⟩
        have HB8 := Lib.hid (below_trans HB7.out hb)
        have A_8 := Lib.hid (A_7.out.below hb)
        have B_8 := Lib.hid (B_7.out.below hb)
        have M_8 := Lib.hid (M_7.out.below hb)
        clear hb HB7 A_7 B_7 M_7
        have HB9 := Lib.hid (below_trans HB8.out (below_alloc w8 (.cells #[.int .i64 j0, .int .i64 j1] 23)))
        have A_9 := Lib.hid (A_8.out.alloc (.cells #[.int .i64 j0, .int .i64 j1] 23))
        have B_9 := Lib.hid (B_8.out.alloc (.cells #[.int .i64 j0, .int .i64 j1] 23))
        have M_9 := Lib.hid (M_8.out.alloc (.cells #[.int .i64 j0, .int .i64 j1] 23))
        have J_9 := Lib.hid (Cl.at (w := w8) (x := j0) (y := j1) (g := w8.heap.size) (by simp))
        clear HB8 A_8 B_8 M_8
        have cA0 := A_9.out.1
        have cA1 := A_9.out.2
        have cB0 := B_9.out.1
        have cB1 := B_9.out.2
        have cM0 := M_9.out.1
        have cM1 := M_9.out.2
        have cJ0 := J_9.out.1
        have cJ1 := J_9.out.2
        go_wp2_with fail
        clear cA0 cA1 cB0 cB1 cM0 cM1 cJ0 cJ1
        refine (H1.out _).mono ?_
        rintro e w10 ⟨rfl, hb⟩
        have HB10 := Lib.hid (below_trans HB9.out hb)
        have A_10 := Lib.hid (A_9.out.below hb)
        have B_10 := Lib.hid (B_9.out.below hb)
        have M_10 := Lib.hid (M_9.out.below hb)
        have J_10 := Lib.hid (J_9.out.below hb)
        clear hb HB9 A_9 B_9 M_9 J_9
        have cA0 := A_10.out.1
        have cA1 := A_10.out.2
        have cB0 := B_10.out.1
        have cB1 := B_10.out.2
        have cM0 := M_10.out.1
        have cM1 := M_10.out.2
        have cJ0 := J_10.out.1
        have cJ1 := J_10.out.2
        go_wp2_with fail
        clear cA0 cA1 cB0 cB1 cM0 cM1 cJ0 cJ1
        refine (H1.out _).mono ?_
        rintro e w11 ⟨rfl, hb⟩
        have HB11 := Lib.hid (below_trans HB10.out hb)
        have A_11 := Lib.hid (A_10.out.below hb)
        have B_11 := Lib.hid (B_10.out.below hb)
        have M_11 := Lib.hid (M_10.out.below hb)
        have J_11 := Lib.hid (J_10.out.below hb)
        clear hb HB10 A_10 B_10 M_10 J_10
        have cA0 := A_11.out.1
        have cA1 := A_11.out.2
        have cB0 := B_11.out.1
        have cB1 := B_11.out.2
        have cM0 := M_11.out.1
        have cM1 := M_11.out.2
        have cJ0 := J_11.out.1
        have cJ1 := J_11.out.2
        go_wp2_with fail
        clear cA0 cA1 cB0 cB1 cM0 cM1 cJ0 cJ1
        refine (H2.out _).mono ?_
        rintro e w12 ⟨rfl, hb⟩
        have HB12 := Lib.hid (below_trans HB11.out hb)
        have A_12 := Lib.hid (A_11.out.below hb)
        have B_12 := Lib.hid (B_11.out.below hb)
        have M_12 := Lib.hid (M_11.out.below hb)
        have J_12 := Lib.hid (J_11.out.below hb)
        clear hb HB11 A_11 B_11 M_11 J_11
        have cA0 := A_12.out.1
        have cA1 := A_12.out.2
        have cB0 := B_12.out.1
        have cB1 := B_12.out.2
        have cM0 := M_12.out.1
        have cM1 := M_12.out.2
        have cJ0 := J_12.out.1
        have cJ1 := J_12.out.2
        go_wp2_with fail
        clear cA0 cA1 cB0 cB1 cM0 cM1 cJ0 cJ1
        refine (W3.out _).mono ?_
        rintro e w13 ⟨rfl, hb⟩
        have HB13 := Lib.hid (below_trans HB12.out hb)
        have A_13 := Lib.hid (A_12.out.below hb)
        have B_13 := Lib.hid (B_12.out.below hb)
        have M_13 := Lib.hid (M_12.out.below hb)
        have J_13 := Lib.hid (J_12.out.below hb)
        clear hb HB12 A_12 B_12 M_12 J_12
        have cA0 := A_13.out.1
        have cA1 := A_13.out.2
        have cB0 := B_13.out.1
        have cB1 := B_13.out.2
        have cM0 := M_13.out.1
        have cM1 := M_13.out.2
        have cJ0 := J_13.out.1
        have cJ1 := J_13.out.2
        go_wp2_with fail
        clear cA0 cA1 cB0 cB1 cM0 cM1 cJ0 cJ1
        refine (W4.out _).mono ?_
        rintro e w14 ⟨rfl, hb⟩
        have HB14 := Lib.hid (below_trans HB13.out hb)
        have A_14 := Lib.hid (A_13.out.below hb)
        have B_14 := Lib.hid (B_13.out.below hb)
        have M_14 := Lib.hid (M_13.out.below hb)
        have J_14 := Lib.hid (J_13.out.below hb)
        clear hb HB13 A_13 B_13 M_13 J_13
        rcases K7.out with e | e
        · subst e
          rcases K8.out with e | e
          · subst e
            have cA0 := A_14.out.1
            have cA1 := A_14.out.2
            have cB0 := B_14.out.1
            have cB1 := B_14.out.2
            have cM0 := M_14.out.1
            have cM1 := M_14.out.2
            have cJ0 := J_14.out.1
            have cJ1 := J_14.out.2
            go_wp2_with fail
            go_ret
            exact ⟨rfl, HB14.out⟩
          · by_cases e2 : j1 = b
            · subst e2
              clear e
              have cA0 := A_14.out.1
              have cA1 := A_14.out.2
              have cB0 := B_14.out.1
              have cB1 := B_14.out.2
              have cM0 := M_14.out.1
              have cM1 := M_14.out.2
              have cJ0 := J_14.out.1
              have cJ1 := J_14.out.2
              go_wp2_with fail
              go_ret
              exact ⟨rfl, HB14.out⟩
            · have d8 : (j1 == b) = false := beq_eq_false_iff_ne.2 e2
              clear e2
              subst e
              have cA0 := A_14.out.1
              have cA1 := A_14.out.2
              have cB0 := B_14.out.1
              have cB1 := B_14.out.2
              have cM0 := M_14.out.1
              have cM1 := M_14.out.2
              have cJ0 := J_14.out.1
              have cJ1 := J_14.out.2
              go_wp2_with fail
              go_ret
              exact ⟨rfl, HB14.out⟩
        · by_cases e2 : j0 = a
          · subst e2
            clear e
            rcases K8.out with e | e
            · subst e
              have cA0 := A_14.out.1
              have cA1 := A_14.out.2
              have cB0 := B_14.out.1
              have cB1 := B_14.out.2
              have cM0 := M_14.out.1
              have cM1 := M_14.out.2
              have cJ0 := J_14.out.1
              have cJ1 := J_14.out.2
              go_wp2_with fail
              go_ret
              exact ⟨rfl, HB14.out⟩
            · by_cases e2 : j1 = b
              · subst e2
                clear e
                have cA0 := A_14.out.1
                have cA1 := A_14.out.2
                have cB0 := B_14.out.1
                have cB1 := B_14.out.2
                have cM0 := M_14.out.1
                have cM1 := M_14.out.2
                have cJ0 := J_14.out.1
                have cJ1 := J_14.out.2
                go_wp2_with fail
                go_ret
                exact ⟨rfl, HB14.out⟩
              · have d8 : (j1 == b) = false := beq_eq_false_iff_ne.2 e2
                clear e2
                subst e
                have cA0 := A_14.out.1
                have cA1 := A_14.out.2
                have cB0 := B_14.out.1
                have cB1 := B_14.out.2
                have cM0 := M_14.out.1
                have cM1 := M_14.out.2
                have cJ0 := J_14.out.1
                have cJ1 := J_14.out.2
                go_wp2_with fail
                go_ret
                exact ⟨rfl, HB14.out⟩
          · have d7 : (j0 == a) = false := beq_eq_false_iff_ne.2 e2
            clear e2
            subst e
            rcases K8.out with e | e
            · subst e
              have cA0 := A_14.out.1
              have cA1 := A_14.out.2
              have cB0 := B_14.out.1
              have cB1 := B_14.out.2
              have cM0 := M_14.out.1
              have cM1 := M_14.out.2
              have cJ0 := J_14.out.1
              have cJ1 := J_14.out.2
              go_wp2_with fail
              go_ret
              exact ⟨rfl, HB14.out⟩
            · by_cases e2 : j1 = b
              · subst e2
                clear e
                have cA0 := A_14.out.1
                have cA1 := A_14.out.2
                have cB0 := B_14.out.1
                have cB1 := B_14.out.2
                have cM0 := M_14.out.1
                have cM1 := M_14.out.2
                have cJ0 := J_14.out.1
                have cJ1 := J_14.out.2
                go_wp2_with fail
                go_ret
                exact ⟨rfl, HB14.out⟩
              · have d8 : (j1 == b) = false := beq_eq_false_iff_ne.2 e2
                clear e2
                subst e
                have cA0 := A_14.out.1
                have cA1 := A_14.out.2
                have cB0 := B_14.out.1
                have cB1 := B_14.out.2
                have cM0 := M_14.out.1
                have cM1 := M_14.out.2
                have cJ0 := J_14.out.1
                have cJ1 := J_14.out.2
                go_wp2_with fail
                go_ret
                exact ⟨rfl, HB14.out⟩
      | true =>
        obtain rfl : f4 = true := k4 rfl
        obtain ⟨rfl, rfl⟩ := k3 rfl
        clear k1 k2 k3 k4
        have HB0 := Lib.hid (below_self w)
        have HB1 := Lib.hid (below_trans HB0.out (below_alloc w (.cells #[.int .i64 a, .int .i64 b] 23)))
        have A_1 := Lib.hid (Cl.at (w := w) (x := a) (y := b) (g := w.heap.size) (by simp))
        clear HB0 
        have HB2 := Lib.hid (below_trans HB1.out (below_alloc (w.alloc (.cells #[.int .i64 a, .int .i64 b] 23)) (.cells #[.int .i64 c, .int .i64 d] 23)))
        have A_2 := Lib.hid (A_1.out.alloc (.cells #[.int .i64 c, .int .i64 d] 23))
        have B_2 := Lib.hid (Cl.at (w := (w.alloc (.cells #[.int .i64 a, .int .i64 b] 23))) (x := c) (y := d) (g := w.heap.size + 1) (by simp))
        clear HB1 A_1
        go_enter Try.func5, Try.ntmps5
        have cA0 := A_2.out.1
        have cA1 := A_2.out.2
        have cB0 := B_2.out.1
        have cB1 := B_2.out.2
        go_wp2_with fail
        clear cA0 cA1 cB0 cB1
        refine (SM.out _).mono ?_
        rintro e w3 ⟨rfl, hb⟩
        have HB3 := Lib.hid (below_trans HB2.out hb)
        have A_3 := Lib.hid (A_2.out.below hb)
        have B_3 := Lib.hid (B_2.out.below hb)
        clear hb HB2 A_2 B_2
        have cA0 := A_3.out.1
        have cA1 := A_3.out.2
        have cB0 := B_3.out.1
        have cB1 := B_3.out.2
        go_wp2_with fail
        clear cA0 cA1 cB0 cB1
        refine (R1.out _).mono ?_
        rintro e w4 ⟨rfl, hb⟩
        have HB4 := Lib.hid (below_trans HB3.out hb)
        have A_4 := Lib.hid (A_3.out.below hb)
        have B_4 := Lib.hid (B_3.out.below hb)
        clear hb HB3 A_3 B_3
        have cA0 := A_4.out.1
        have cA1 := A_4.out.2
        have cB0 := B_4.out.1
        have cB1 := B_4.out.2
        go_wp2_with fail
        clear cA0 cA1 cB0 cB1
        refine (R2.out _).mono ?_
        rintro e w5 ⟨rfl, hb⟩
        have HB5 := Lib.hid (below_trans HB4.out hb)
        have A_5 := Lib.hid (A_4.out.below hb)
        have B_5 := Lib.hid (B_4.out.below hb)
        clear hb HB4 A_4 B_4
        have cA0 := A_5.out.1
        have cA1 := A_5.out.2
        have cB0 := B_5.out.1
        have cB1 := B_5.out.2
        go_wp2_with fail
        clear cA0 cA1 cB0 cB1
        refine (ME.out _).mono ?_
        rintro e w6 ⟨rfl, hb⟩
        have HB6 := Lib.hid (below_trans HB5.out hb)
        have A_6 := Lib.hid (A_5.out.below hb)
        have B_6 := Lib.hid (B_5.out.below hb)
        clear hb HB5 A_5 B_5
        have HB7 := Lib.hid (below_trans HB6.out (below_alloc w6 (.cells #[.int .i64 0, .int .i64 0] 23)))
        have A_7 := Lib.hid (A_6.out.alloc (.cells #[.int .i64 0, .int .i64 0] 23))
        have B_7 := Lib.hid (B_6.out.alloc (.cells #[.int .i64 0, .int .i64 0] 23))
        have M_7 := Lib.hid (Cl.at (w := w6) (x := 0) (y := 0) (g := w6.heap.size) (by simp))
        clear HB6 A_6 B_6
        have cA0 := A_7.out.1
        have cA1 := A_7.out.2
        have cB0 := B_7.out.1
        have cB1 := B_7.out.2
        have cM0 := M_7.out.1
        have cM1 := M_7.out.2
        go_wp2_with fail
        clear cA0 cA1 cB0 cB1 cM0 cM1
        refine (JO.out _).mono ?_
        rintro e w8 ⟨rfl, hb⟩
        have HB8 := Lib.hid (below_trans HB7.out hb)
        have A_8 := Lib.hid (A_7.out.below hb)
        have B_8 := Lib.hid (B_7.out.below hb)
        have M_8 := Lib.hid (M_7.out.below hb)
        clear hb HB7 A_7 B_7 M_7
        have HB9 := Lib.hid (below_trans HB8.out (below_alloc w8 (.cells #[.int .i64 j0, .int .i64 j1] 23)))
        have A_9 := Lib.hid (A_8.out.alloc (.cells #[.int .i64 j0, .int .i64 j1] 23))
        have B_9 := Lib.hid (B_8.out.alloc (.cells #[.int .i64 j0, .int .i64 j1] 23))
        have M_9 := Lib.hid (M_8.out.alloc (.cells #[.int .i64 j0, .int .i64 j1] 23))
        have J_9 := Lib.hid (Cl.at (w := w8) (x := j0) (y := j1) (g := w8.heap.size) (by simp))
        clear HB8 A_8 B_8 M_8
        have cA0 := A_9.out.1
        have cA1 := A_9.out.2
        have cB0 := B_9.out.1
        have cB1 := B_9.out.2
        have cM0 := M_9.out.1
        have cM1 := M_9.out.2
        have cJ0 := J_9.out.1
        have cJ1 := J_9.out.2
        go_wp2_with fail
        clear cA0 cA1 cB0 cB1 cM0 cM1 cJ0 cJ1
        refine (H1.out _).mono ?_
        rintro e w10 ⟨rfl, hb⟩
        have HB10 := Lib.hid (below_trans HB9.out hb)
        have A_10 := Lib.hid (A_9.out.below hb)
        have B_10 := Lib.hid (B_9.out.below hb)
        have M_10 := Lib.hid (M_9.out.below hb)
        have J_10 := Lib.hid (J_9.out.below hb)
        clear hb HB9 A_9 B_9 M_9 J_9
        have cA0 := A_10.out.1
        have cA1 := A_10.out.2
        have cB0 := B_10.out.1
        have cB1 := B_10.out.2
        have cM0 := M_10.out.1
        have cM1 := M_10.out.2
        have cJ0 := J_10.out.1
        have cJ1 := J_10.out.2
        go_wp2_with fail
        clear cA0 cA1 cB0 cB1 cM0 cM1 cJ0 cJ1
        refine (H1.out _).mono ?_
        rintro e w11 ⟨rfl, hb⟩
        have HB11 := Lib.hid (below_trans HB10.out hb)
        have A_11 := Lib.hid (A_10.out.below hb)
        have B_11 := Lib.hid (B_10.out.below hb)
        have M_11 := Lib.hid (M_10.out.below hb)
        have J_11 := Lib.hid (J_10.out.below hb)
        clear hb HB10 A_10 B_10 M_10 J_10
        have cA0 := A_11.out.1
        have cA1 := A_11.out.2
        have cB0 := B_11.out.1
        have cB1 := B_11.out.2
        have cM0 := M_11.out.1
        have cM1 := M_11.out.2
        have cJ0 := J_11.out.1
        have cJ1 := J_11.out.2
        go_wp2_with fail
        clear cA0 cA1 cB0 cB1 cM0 cM1 cJ0 cJ1
        refine (H2.out _).mono ?_
        rintro e w12 ⟨rfl, hb⟩
        have HB12 := Lib.hid (below_trans HB11.out hb)
        have A_12 := Lib.hid (A_11.out.below hb)
        have B_12 := Lib.hid (B_11.out.below hb)
        have M_12 := Lib.hid (M_11.out.below hb)
        have J_12 := Lib.hid (J_11.out.below hb)
        clear hb HB11 A_11 B_11 M_11 J_11
        have cA0 := A_12.out.1
        have cA1 := A_12.out.2
        have cB0 := B_12.out.1
        have cB1 := B_12.out.2
        have cM0 := M_12.out.1
        have cM1 := M_12.out.2
        have cJ0 := J_12.out.1
        have cJ1 := J_12.out.2
        go_wp2_with fail
        clear cA0 cA1 cB0 cB1 cM0 cM1 cJ0 cJ1
        refine (H4.out _).mono ?_
        rintro e w13 ⟨rfl, hb⟩
        have HB13 := Lib.hid (below_trans HB12.out hb)
        have A_13 := Lib.hid (A_12.out.below hb)
        have B_13 := Lib.hid (B_12.out.below hb)
        have M_13 := Lib.hid (M_12.out.below hb)
        have J_13 := Lib.hid (J_12.out.below hb)
        clear hb HB12 A_12 B_12 M_12 J_12
        have cA0 := A_13.out.1
        have cA1 := A_13.out.2
        have cB0 := B_13.out.1
        have cB1 := B_13.out.2
        have cM0 := M_13.out.1
        have cM1 := M_13.out.2
        have cJ0 := J_13.out.1
        have cJ1 := J_13.out.2
        go_wp2_with fail
        clear cA0 cA1 cB0 cB1 cM0 cM1 cJ0 cJ1
        refine (W3.out _).mono ?_
        rintro e w14 ⟨rfl, hb⟩
        have HB14 := Lib.hid (below_trans HB13.out hb)
        have A_14 := Lib.hid (A_13.out.below hb)
        have B_14 := Lib.hid (B_13.out.below hb)
        have M_14 := Lib.hid (M_13.out.below hb)
        have J_14 := Lib.hid (J_13.out.below hb)
        clear hb HB13 A_13 B_13 M_13 J_13
        have cA0 := A_14.out.1
        have cA1 := A_14.out.2
        have cB0 := B_14.out.1
        have cB1 := B_14.out.2
        have cM0 := M_14.out.1
        have cM1 := M_14.out.2
        have cJ0 := J_14.out.1
        have cJ1 := J_14.out.2
        go_wp2_with fail
        clear cA0 cA1 cB0 cB1 cM0 cM1 cJ0 cJ1
        refine (W4.out _).mono ?_
        rintro e w15 ⟨rfl, hb⟩
        have HB15 := Lib.hid (below_trans HB14.out hb)
        have A_15 := Lib.hid (A_14.out.below hb)
        have B_15 := Lib.hid (B_14.out.below hb)
        have M_15 := Lib.hid (M_14.out.below hb)
        have J_15 := Lib.hid (J_14.out.below hb)
        clear hb HB14 A_14 B_14 M_14 J_14
        rcases K7.out with e | e
        · subst e
          rcases K8.out with e | e
          · subst e
            have cA0 := A_15.out.1
            have cA1 := A_15.out.2
            have cB0 := B_15.out.1
            have cB1 := B_15.out.2
            have cM0 := M_15.out.1
            have cM1 := M_15.out.2
            have cJ0 := J_15.out.1
            have cJ1 := J_15.out.2
            go_wp2_with fail
            go_ret
            exact ⟨rfl, HB15.out⟩
          · by_cases e2 : j1 = b
            · subst e2
              clear e
              have cA0 := A_15.out.1
              have cA1 := A_15.out.2
              have cB0 := B_15.out.1
              have cB1 := B_15.out.2
              have cM0 := M_15.out.1
              have cM1 := M_15.out.2
              have cJ0 := J_15.out.1
              have cJ1 := J_15.out.2
              go_wp2_with fail
              go_ret
              exact ⟨rfl, HB15.out⟩
            · have d8 : (j1 == b) = false := beq_eq_false_iff_ne.2 e2
              clear e2
              subst e
              have cA0 := A_15.out.1
              have cA1 := A_15.out.2
              have cB0 := B_15.out.1
              have cB1 := B_15.out.2
              have cM0 := M_15.out.1
              have cM1 := M_15.out.2
              have cJ0 := J_15.out.1
              have cJ1 := J_15.out.2
              go_wp2_with fail
              go_ret
              exact ⟨rfl, HB15.out⟩
        · by_cases e2 : j0 = a
          · subst e2
            clear e
            rcases K8.out with e | e
            · subst e
              have cA0 := A_15.out.1
              have cA1 := A_15.out.2
              have cB0 := B_15.out.1
              have cB1 := B_15.out.2
              have cM0 := M_15.out.1
              have cM1 := M_15.out.2
              have cJ0 := J_15.out.1
              have cJ1 := J_15.out.2
              go_wp2_with fail
              go_ret
              exact ⟨rfl, HB15.out⟩
            · by_cases e2 : j1 = b
              · subst e2
                clear e
                have cA0 := A_15.out.1
                have cA1 := A_15.out.2
                have cB0 := B_15.out.1
                have cB1 := B_15.out.2
                have cM0 := M_15.out.1
                have cM1 := M_15.out.2
                have cJ0 := J_15.out.1
                have cJ1 := J_15.out.2
                go_wp2_with fail
                go_ret
                exact ⟨rfl, HB15.out⟩
              · have d8 : (j1 == b) = false := beq_eq_false_iff_ne.2 e2
                clear e2
                subst e
                have cA0 := A_15.out.1
                have cA1 := A_15.out.2
                have cB0 := B_15.out.1
                have cB1 := B_15.out.2
                have cM0 := M_15.out.1
                have cM1 := M_15.out.2
                have cJ0 := J_15.out.1
                have cJ1 := J_15.out.2
                go_wp2_with fail
                go_ret
                exact ⟨rfl, HB15.out⟩
          · have d7 : (j0 == a) = false := beq_eq_false_iff_ne.2 e2
            clear e2
            subst e
            rcases K8.out with e | e
            · subst e
              have cA0 := A_15.out.1
              have cA1 := A_15.out.2
              have cB0 := B_15.out.1
              have cB1 := B_15.out.2
              have cM0 := M_15.out.1
              have cM1 := M_15.out.2
              have cJ0 := J_15.out.1
              have cJ1 := J_15.out.2
              go_wp2_with fail
              go_ret
              exact ⟨rfl, HB15.out⟩
            · by_cases e2 : j1 = b
              · subst e2
                clear e
                have cA0 := A_15.out.1
                have cA1 := A_15.out.2
                have cB0 := B_15.out.1
                have cB1 := B_15.out.2
                have cM0 := M_15.out.1
                have cM1 := M_15.out.2
                have cJ0 := J_15.out.1
                have cJ1 := J_15.out.2
                go_wp2_with fail
                go_ret
                exact ⟨rfl, HB15.out⟩
              · have d8 : (j1 == b) = false := beq_eq_false_iff_ne.2 e2
                clear e2
                subst e
                have cA0 := A_15.out.1
                have cA1 := A_15.out.2
                have cB0 := B_15.out.1
                have cB1 := B_15.out.2
                have cM0 := M_15.out.1
                have cM1 := M_15.out.2
                have cJ0 := J_15.out.1
                have cJ1 := J_15.out.2
                go_wp2_with fail
                go_ret
                exact ⟨rfl, HB15.out⟩
    | true =>
      cases f2 with
      | false =>
        obtain rfl : f4 = true := k4 rfl
        obtain ⟨rfl, rfl⟩ := k3 rfl
        clear k1 k2 k3 k4
        have HB0 := Lib.hid (below_self w)
        have HB1 := Lib.hid (below_trans HB0.out (below_alloc w (.cells #[.int .i64 a, .int .i64 b] 23)))
        have A_1 := Lib.hid (Cl.at (w := w) (x := a) (y := b) (g := w.heap.size) (by simp))
        clear HB0 
        have HB2 := Lib.hid (below_trans HB1.out (below_alloc (w.alloc (.cells #[.int .i64 a, .int .i64 b] 23)) (.cells #[.int .i64 c, .int .i64 d] 23)))
        have A_2 := Lib.hid (A_1.out.alloc (.cells #[.int .i64 c, .int .i64 d] 23))
        have B_2 := Lib.hid (Cl.at (w := (w.alloc (.cells #[.int .i64 a, .int .i64 b] 23))) (x := c) (y := d) (g := w.heap.size + 1) (by simp))
        clear HB1 A_1
        go_enter Try.func5, Try.ntmps5
        have cA0 := A_2.out.1
        have cA1 := A_2.out.2
        have cB0 := B_2.out.1
        have cB1 := B_2.out.2
        go_wp2_with fail
        clear cA0 cA1 cB0 cB1
        refine (SM.out _).mono ?_
        rintro e w3 ⟨rfl, hb⟩
        have HB3 := Lib.hid (below_trans HB2.out hb)
        have A_3 := Lib.hid (A_2.out.below hb)
        have B_3 := Lib.hid (B_2.out.below hb)
        clear hb HB2 A_2 B_2
        have cA0 := A_3.out.1
        have cA1 := A_3.out.2
        have cB0 := B_3.out.1
        have cB1 := B_3.out.2
        go_wp2_with fail
        clear cA0 cA1 cB0 cB1
        refine (R1.out _).mono ?_
        rintro e w4 ⟨rfl, hb⟩
        have HB4 := Lib.hid (below_trans HB3.out hb)
        have A_4 := Lib.hid (A_3.out.below hb)
        have B_4 := Lib.hid (B_3.out.below hb)
        clear hb HB3 A_3 B_3
        have cA0 := A_4.out.1
        have cA1 := A_4.out.2
        have cB0 := B_4.out.1
        have cB1 := B_4.out.2
        go_wp2_with fail
        clear cA0 cA1 cB0 cB1
        refine (R2.out _).mono ?_
        rintro e w5 ⟨rfl, hb⟩
        have HB5 := Lib.hid (below_trans HB4.out hb)
        have A_5 := Lib.hid (A_4.out.below hb)
        have B_5 := Lib.hid (B_4.out.below hb)
        clear hb HB4 A_4 B_4
        have cA0 := A_5.out.1
        have cA1 := A_5.out.2
        have cB0 := B_5.out.1
        have cB1 := B_5.out.2
        go_wp2_with fail
        clear cA0 cA1 cB0 cB1
        refine (ME.out _).mono ?_
        rintro e w6 ⟨rfl, hb⟩
        have HB6 := Lib.hid (below_trans HB5.out hb)
        have A_6 := Lib.hid (A_5.out.below hb)
        have B_6 := Lib.hid (B_5.out.below hb)
        clear hb HB5 A_5 B_5
        have HB7 := Lib.hid (below_trans HB6.out (below_alloc w6 (.cells #[.int .i64 0, .int .i64 0] 23)))
        have A_7 := Lib.hid (A_6.out.alloc (.cells #[.int .i64 0, .int .i64 0] 23))
        have B_7 := Lib.hid (B_6.out.alloc (.cells #[.int .i64 0, .int .i64 0] 23))
        have M_7 := Lib.hid (Cl.at (w := w6) (x := 0) (y := 0) (g := w6.heap.size) (by simp))
        clear HB6 A_6 B_6
        have cA0 := A_7.out.1
        have cA1 := A_7.out.2
        have cB0 := B_7.out.1
        have cB1 := B_7.out.2
        have cM0 := M_7.out.1
        have cM1 := M_7.out.2
        go_wp2_with fail
        clear cA0 cA1 cB0 cB1 cM0 cM1
        refine (JO.out _).mono ?_
        rintro e w8 ⟨rfl, hb⟩
        have HB8 := Lib.hid (below_trans HB7.out hb)
        have A_8 := Lib.hid (A_7.out.below hb)
        have B_8 := Lib.hid (B_7.out.below hb)
        have M_8 := Lib.hid (M_7.out.below hb)
        clear hb HB7 A_7 B_7 M_7
        have HB9 := Lib.hid (below_trans HB8.out (below_alloc w8 (.cells #[.int .i64 j0, .int .i64 j1] 23)))
        have A_9 := Lib.hid (A_8.out.alloc (.cells #[.int .i64 j0, .int .i64 j1] 23))
        have B_9 := Lib.hid (B_8.out.alloc (.cells #[.int .i64 j0, .int .i64 j1] 23))
        have M_9 := Lib.hid (M_8.out.alloc (.cells #[.int .i64 j0, .int .i64 j1] 23))
        have J_9 := Lib.hid (Cl.at (w := w8) (x := j0) (y := j1) (g := w8.heap.size) (by simp))
        clear HB8 A_8 B_8 M_8
        have cA0 := A_9.out.1
        have cA1 := A_9.out.2
        have cB0 := B_9.out.1
        have cB1 := B_9.out.2
        have cM0 := M_9.out.1
        have cM1 := M_9.out.2
        have cJ0 := J_9.out.1
        have cJ1 := J_9.out.2
        go_wp2_with fail
        clear cA0 cA1 cB0 cB1 cM0 cM1 cJ0 cJ1
        refine (H1.out _).mono ?_
        rintro e w10 ⟨rfl, hb⟩
        have HB10 := Lib.hid (below_trans HB9.out hb)
        have A_10 := Lib.hid (A_9.out.below hb)
        have B_10 := Lib.hid (B_9.out.below hb)
        have M_10 := Lib.hid (M_9.out.below hb)
        have J_10 := Lib.hid (J_9.out.below hb)
        clear hb HB9 A_9 B_9 M_9 J_9
        have cA0 := A_10.out.1
        have cA1 := A_10.out.2
        have cB0 := B_10.out.1
        have cB1 := B_10.out.2
        have cM0 := M_10.out.1
        have cM1 := M_10.out.2
        have cJ0 := J_10.out.1
        have cJ1 := J_10.out.2
        go_wp2_with fail
        clear cA0 cA1 cB0 cB1 cM0 cM1 cJ0 cJ1
        refine (H2.out _).mono ?_
        rintro e w11 ⟨rfl, hb⟩
        have HB11 := Lib.hid (below_trans HB10.out hb)
        have A_11 := Lib.hid (A_10.out.below hb)
        have B_11 := Lib.hid (B_10.out.below hb)
        have M_11 := Lib.hid (M_10.out.below hb)
        have J_11 := Lib.hid (J_10.out.below hb)
        clear hb HB10 A_10 B_10 M_10 J_10
        have cA0 := A_11.out.1
        have cA1 := A_11.out.2
        have cB0 := B_11.out.1
        have cB1 := B_11.out.2
        have cM0 := M_11.out.1
        have cM1 := M_11.out.2
        have cJ0 := J_11.out.1
        have cJ1 := J_11.out.2
        go_wp2_with fail
        clear cA0 cA1 cB0 cB1 cM0 cM1 cJ0 cJ1
        refine (H1.out _).mono ?_
        rintro e w12 ⟨rfl, hb⟩
        have HB12 := Lib.hid (below_trans HB11.out hb)
        have A_12 := Lib.hid (A_11.out.below hb)
        have B_12 := Lib.hid (B_11.out.below hb)
        have M_12 := Lib.hid (M_11.out.below hb)
        have J_12 := Lib.hid (J_11.out.below hb)
        clear hb HB11 A_11 B_11 M_11 J_11
        have cA0 := A_12.out.1
        have cA1 := A_12.out.2
        have cB0 := B_12.out.1
        have cB1 := B_12.out.2
        have cM0 := M_12.out.1
        have cM1 := M_12.out.2
        have cJ0 := J_12.out.1
        have cJ1 := J_12.out.2
        go_wp2_with fail
        clear cA0 cA1 cB0 cB1 cM0 cM1 cJ0 cJ1
        refine (H4.out _).mono ?_
        rintro e w13 ⟨rfl, hb⟩
        have HB13 := Lib.hid (below_trans HB12.out hb)
        have A_13 := Lib.hid (A_12.out.below hb)
        have B_13 := Lib.hid (B_12.out.below hb)
        have M_13 := Lib.hid (M_12.out.below hb)
        have J_13 := Lib.hid (J_12.out.below hb)
        clear hb HB12 A_12 B_12 M_12 J_12
        have cA0 := A_13.out.1
        have cA1 := A_13.out.2
        have cB0 := B_13.out.1
        have cB1 := B_13.out.2
        have cM0 := M_13.out.1
        have cM1 := M_13.out.2
        have cJ0 := J_13.out.1
        have cJ1 := J_13.out.2
        go_wp2_with fail
        clear cA0 cA1 cB0 cB1 cM0 cM1 cJ0 cJ1
        refine (W3.out _).mono ?_
        rintro e w14 ⟨rfl, hb⟩
        have HB14 := Lib.hid (below_trans HB13.out hb)
        have A_14 := Lib.hid (A_13.out.below hb)
        have B_14 := Lib.hid (B_13.out.below hb)
        have M_14 := Lib.hid (M_13.out.below hb)
        have J_14 := Lib.hid (J_13.out.below hb)
        clear hb HB13 A_13 B_13 M_13 J_13
        have cA0 := A_14.out.1
        have cA1 := A_14.out.2
        have cB0 := B_14.out.1
        have cB1 := B_14.out.2
        have cM0 := M_14.out.1
        have cM1 := M_14.out.2
        have cJ0 := J_14.out.1
        have cJ1 := J_14.out.2
        go_wp2_with fail
        clear cA0 cA1 cB0 cB1 cM0 cM1 cJ0 cJ1
        refine (W4.out _).mono ?_
        rintro e w15 ⟨rfl, hb⟩
        have HB15 := Lib.hid (below_trans HB14.out hb)
        have A_15 := Lib.hid (A_14.out.below hb)
        have B_15 := Lib.hid (B_14.out.below hb)
        have M_15 := Lib.hid (M_14.out.below hb)
        have J_15 := Lib.hid (J_14.out.below hb)
        clear hb HB14 A_14 B_14 M_14 J_14
        rcases K7.out with e | e
        · subst e
          rcases K8.out with e | e
          · subst e
            have cA0 := A_15.out.1
            have cA1 := A_15.out.2
            have cB0 := B_15.out.1
            have cB1 := B_15.out.2
            have cM0 := M_15.out.1
            have cM1 := M_15.out.2
            have cJ0 := J_15.out.1
            have cJ1 := J_15.out.2
            go_wp2_with fail
            go_ret
            exact ⟨rfl, HB15.out⟩
          · by_cases e2 : j1 = b
            · subst e2
              clear e
              have cA0 := A_15.out.1
              have cA1 := A_15.out.2
              have cB0 := B_15.out.1
              have cB1 := B_15.out.2
              have cM0 := M_15.out.1
              have cM1 := M_15.out.2
              have cJ0 := J_15.out.1
              have cJ1 := J_15.out.2
              go_wp2_with fail
              go_ret
              exact ⟨rfl, HB15.out⟩
            · have d8 : (j1 == b) = false := beq_eq_false_iff_ne.2 e2
              clear e2
              subst e
              have cA0 := A_15.out.1
              have cA1 := A_15.out.2
              have cB0 := B_15.out.1
              have cB1 := B_15.out.2
              have cM0 := M_15.out.1
              have cM1 := M_15.out.2
              have cJ0 := J_15.out.1
              have cJ1 := J_15.out.2
              go_wp2_with fail
              go_ret
              exact ⟨rfl, HB15.out⟩
        · by_cases e2 : j0 = a
          · subst e2
            clear e
            rcases K8.out with e | e
            · subst e
              have cA0 := A_15.out.1
              have cA1 := A_15.out.2
              have cB0 := B_15.out.1
              have cB1 := B_15.out.2
              have cM0 := M_15.out.1
              have cM1 := M_15.out.2
              have cJ0 := J_15.out.1
              have cJ1 := J_15.out.2
              go_wp2_with fail
              go_ret
              exact ⟨rfl, HB15.out⟩
            · by_cases e2 : j1 = b
              · subst e2
                clear e
                have cA0 := A_15.out.1
                have cA1 := A_15.out.2
                have cB0 := B_15.out.1
                have cB1 := B_15.out.2
                have cM0 := M_15.out.1
                have cM1 := M_15.out.2
                have cJ0 := J_15.out.1
                have cJ1 := J_15.out.2
                go_wp2_with fail
                go_ret
                exact ⟨rfl, HB15.out⟩
              · have d8 : (j1 == b) = false := beq_eq_false_iff_ne.2 e2
                clear e2
                subst e
                have cA0 := A_15.out.1
                have cA1 := A_15.out.2
                have cB0 := B_15.out.1
                have cB1 := B_15.out.2
                have cM0 := M_15.out.1
                have cM1 := M_15.out.2
                have cJ0 := J_15.out.1
                have cJ1 := J_15.out.2
                go_wp2_with fail
                go_ret
                exact ⟨rfl, HB15.out⟩
          · have d7 : (j0 == a) = false := beq_eq_false_iff_ne.2 e2
            clear e2
            subst e
            rcases K8.out with e | e
            · subst e
              have cA0 := A_15.out.1
              have cA1 := A_15.out.2
              have cB0 := B_15.out.1
              have cB1 := B_15.out.2
              have cM0 := M_15.out.1
              have cM1 := M_15.out.2
              have cJ0 := J_15.out.1
              have cJ1 := J_15.out.2
              go_wp2_with fail
              go_ret
              exact ⟨rfl, HB15.out⟩
            · by_cases e2 : j1 = b
              · subst e2
                clear e
                have cA0 := A_15.out.1
                have cA1 := A_15.out.2
                have cB0 := B_15.out.1
                have cB1 := B_15.out.2
                have cM0 := M_15.out.1
                have cM1 := M_15.out.2
                have cJ0 := J_15.out.1
                have cJ1 := J_15.out.2
                go_wp2_with fail
                go_ret
                exact ⟨rfl, HB15.out⟩
              · have d8 : (j1 == b) = false := beq_eq_false_iff_ne.2 e2
                clear e2
                subst e
                have cA0 := A_15.out.1
                have cA1 := A_15.out.2
                have cB0 := B_15.out.1
                have cB1 := B_15.out.2
                have cM0 := M_15.out.1
                have cM1 := M_15.out.2
                have cJ0 := J_15.out.1
                have cJ1 := J_15.out.2
                go_wp2_with fail
                go_ret
                exact ⟨rfl, HB15.out⟩
      | true =>
        exact absurd k1 (by simp)
  | true =>
    cases f1 with
    | false =>
      cases f2 with
      | false =>
        obtain ⟨rfl, rfl, rfl⟩ := k2 rfl
        obtain rfl : f3 = false := by simpa using k1.symm
        clear k1 k2 k3 k4
        have HB0 := Lib.hid (below_self w)
        have HB1 := Lib.hid (below_trans HB0.out (below_alloc w (.cells #[.int .i64 a, .int .i64 b] 23)))
        have A_1 := Lib.hid (Cl.at (w := w) (x := a) (y := b) (g := w.heap.size) (by simp))
        clear HB0 
        have HB2 := Lib.hid (below_trans HB1.out (below_alloc (w.alloc (.cells #[.int .i64 a, .int .i64 b] 23)) (.cells #[.int .i64 c, .int .i64 d] 23)))
        have A_2 := Lib.hid (A_1.out.alloc (.cells #[.int .i64 c, .int .i64 d] 23))
        have B_2 := Lib.hid (Cl.at (w := (w.alloc (.cells #[.int .i64 a, .int .i64 b] 23))) (x := c) (y := d) (g := w.heap.size + 1) (by simp))
        clear HB1 A_1
        go_enter Try.func5, Try.ntmps5
        have cA0 := A_2.out.1
        have cA1 := A_2.out.2
        have cB0 := B_2.out.1
        have cB1 := B_2.out.2
        go_wp2_with fail
        clear cA0 cA1 cB0 cB1
        refine (SM.out _).mono ?_
        rintro e w3 ⟨rfl, hb⟩
        have HB3 := Lib.hid (below_trans HB2.out hb)
        have A_3 := Lib.hid (A_2.out.below hb)
        have B_3 := Lib.hid (B_2.out.below hb)
        clear hb HB2 A_2 B_2
        have cA0 := A_3.out.1
        have cA1 := A_3.out.2
        have cB0 := B_3.out.1
        have cB1 := B_3.out.2
        go_wp2_with fail
        clear cA0 cA1 cB0 cB1
        refine (R1.out _).mono ?_
        rintro e w4 ⟨rfl, hb⟩
        have HB4 := Lib.hid (below_trans HB3.out hb)
        have A_4 := Lib.hid (A_3.out.below hb)
        have B_4 := Lib.hid (B_3.out.below hb)
        clear hb HB3 A_3 B_3
        have cA0 := A_4.out.1
        have cA1 := A_4.out.2
        have cB0 := B_4.out.1
        have cB1 := B_4.out.2
        go_wp2_with fail
        clear cA0 cA1 cB0 cB1
        refine (R2.out _).mono ?_
        rintro e w5 ⟨rfl, hb⟩
        have HB5 := Lib.hid (below_trans HB4.out hb)
        have A_5 := Lib.hid (A_4.out.below hb)
        have B_5 := Lib.hid (B_4.out.below hb)
        clear hb HB4 A_4 B_4
        have cA0 := A_5.out.1
        have cA1 := A_5.out.2
        have cB0 := B_5.out.1
        have cB1 := B_5.out.2
        go_wp2_with fail
        clear cA0 cA1 cB0 cB1
        refine (ME.out _).mono ?_
        rintro e w6 ⟨rfl, hb⟩
        have HB6 := Lib.hid (below_trans HB5.out hb)
        have A_6 := Lib.hid (A_5.out.below hb)
        have B_6 := Lib.hid (B_5.out.below hb)
        clear hb HB5 A_5 B_5
        have HB7 := Lib.hid (below_trans HB6.out (below_alloc w6 (.cells #[.int .i64 m0, .int .i64 m1] 23)))
        have A_7 := Lib.hid (A_6.out.alloc (.cells #[.int .i64 m0, .int .i64 m1] 23))
        have B_7 := Lib.hid (B_6.out.alloc (.cells #[.int .i64 m0, .int .i64 m1] 23))
        have M_7 := Lib.hid (Cl.at (w := w6) (x := m0) (y := m1) (g := w6.heap.size) (by simp))
        clear HB6 A_6 B_6
        have cA0 := A_7.out.1
        have cA1 := A_7.out.2
        have cB0 := B_7.out.1
        have cB1 := B_7.out.2
        have cM0 := M_7.out.1
        have cM1 := M_7.out.2
        go_wp2_with fail
        clear cA0 cA1 cB0 cB1 cM0 cM1
        refine (JO.out _).mono ?_
        rintro e w8 ⟨rfl, hb⟩
        have HB8 := Lib.hid (below_trans HB7.out hb)
        have A_8 := Lib.hid (A_7.out.below hb)
        have B_8 := Lib.hid (B_7.out.below hb)
        have M_8 := Lib.hid (M_7.out.below hb)
        clear hb HB7 A_7 B_7 M_7
        have HB9 := Lib.hid (below_trans HB8.out (below_alloc w8 (.cells #[.int .i64 j0, .int .i64 j1] 23)))
        have A_9 := Lib.hid (A_8.out.alloc (.cells #[.int .i64 j0, .int .i64 j1] 23))
        have B_9 := Lib.hid (B_8.out.alloc (.cells #[.int .i64 j0, .int .i64 j1] 23))
        have M_9 := Lib.hid (M_8.out.alloc (.cells #[.int .i64 j0, .int .i64 j1] 23))
        have J_9 := Lib.hid (Cl.at (w := w8) (x := j0) (y := j1) (g := w8.heap.size) (by simp))
        clear HB8 A_8 B_8 M_8
        have cA0 := A_9.out.1
        have cA1 := A_9.out.2
        have cB0 := B_9.out.1
        have cB1 := B_9.out.2
        have cM0 := M_9.out.1
        have cM1 := M_9.out.2
        have cJ0 := J_9.out.1
        have cJ1 := J_9.out.2
        go_wp2_with fail
        clear cA0 cA1 cB0 cB1 cM0 cM1 cJ0 cJ1
        refine (H1.out _).mono ?_
        rintro e w10 ⟨rfl, hb⟩
        have HB10 := Lib.hid (below_trans HB9.out hb)
        have A_10 := Lib.hid (A_9.out.below hb)
        have B_10 := Lib.hid (B_9.out.below hb)
        have M_10 := Lib.hid (M_9.out.below hb)
        have J_10 := Lib.hid (J_9.out.below hb)
        clear hb HB9 A_9 B_9 M_9 J_9
        have cA0 := A_10.out.1
        have cA1 := A_10.out.2
        have cB0 := B_10.out.1
        have cB1 := B_10.out.2
        have cM0 := M_10.out.1
        have cM1 := M_10.out.2
        have cJ0 := J_10.out.1
        have cJ1 := J_10.out.2
        go_wp2_with fail
        clear cA0 cA1 cB0 cB1 cM0 cM1 cJ0 cJ1
        refine (H3.out _).mono ?_
        rintro e w11 ⟨rfl, hb⟩
        have HB11 := Lib.hid (below_trans HB10.out hb)
        have A_11 := Lib.hid (A_10.out.below hb)
        have B_11 := Lib.hid (B_10.out.below hb)
        have M_11 := Lib.hid (M_10.out.below hb)
        have J_11 := Lib.hid (J_10.out.below hb)
        clear hb HB10 A_10 B_10 M_10 J_10
        have cA0 := A_11.out.1
        have cA1 := A_11.out.2
        have cB0 := B_11.out.1
        have cB1 := B_11.out.2
        have cM0 := M_11.out.1
        have cM1 := M_11.out.2
        have cJ0 := J_11.out.1
        have cJ1 := J_11.out.2
        go_wp2_with fail
        clear cA0 cA1 cB0 cB1 cM0 cM1 cJ0 cJ1
        refine (W1.out _).mono ?_
        rintro e w12 ⟨rfl, hb⟩
        have HB12 := Lib.hid (below_trans HB11.out hb)
        have A_12 := Lib.hid (A_11.out.below hb)
        have B_12 := Lib.hid (B_11.out.below hb)
        have M_12 := Lib.hid (M_11.out.below hb)
        have J_12 := Lib.hid (J_11.out.below hb)
        clear hb HB11 A_11 B_11 M_11 J_11
        have cA0 := A_12.out.1
        have cA1 := A_12.out.2
        have cB0 := B_12.out.1
        have cB1 := B_12.out.2
        have cM0 := M_12.out.1
        have cM1 := M_12.out.2
        have cJ0 := J_12.out.1
        have cJ1 := J_12.out.2
        go_wp2_with fail
        clear cA0 cA1 cB0 cB1 cM0 cM1 cJ0 cJ1
        refine (W2.out _).mono ?_
        rintro e w13 ⟨rfl, hb⟩
        have HB13 := Lib.hid (below_trans HB12.out hb)
        have A_13 := Lib.hid (A_12.out.below hb)
        have B_13 := Lib.hid (B_12.out.below hb)
        have M_13 := Lib.hid (M_12.out.below hb)
        have J_13 := Lib.hid (J_12.out.below hb)
        clear hb HB12 A_12 B_12 M_12 J_12
        have cA0 := A_13.out.1
        have cA1 := A_13.out.2
        have cB0 := B_13.out.1
        have cB1 := B_13.out.2
        have cM0 := M_13.out.1
        have cM1 := M_13.out.2
        have cJ0 := J_13.out.1
        have cJ1 := J_13.out.2
        go_wp2_with fail
        clear cA0 cA1 cB0 cB1 cM0 cM1 cJ0 cJ1
        refine (R3.out _).mono ?_
        rintro e w14 ⟨rfl, hb⟩
        have HB14 := Lib.hid (below_trans HB13.out hb)
        have A_14 := Lib.hid (A_13.out.below hb)
        have B_14 := Lib.hid (B_13.out.below hb)
        have M_14 := Lib.hid (M_13.out.below hb)
        have J_14 := Lib.hid (J_13.out.below hb)
        clear hb HB13 A_13 B_13 M_13 J_13
        have cA0 := A_14.out.1
        have cA1 := A_14.out.2
        have cB0 := B_14.out.1
        have cB1 := B_14.out.2
        have cM0 := M_14.out.1
        have cM1 := M_14.out.2
        have cJ0 := J_14.out.1
        have cJ1 := J_14.out.2
        go_wp2_with fail
        clear cA0 cA1 cB0 cB1 cM0 cM1 cJ0 cJ1
        refine (H1.out _).mono ?_
        rintro e w15 ⟨rfl, hb⟩
        have HB15 := Lib.hid (below_trans HB14.out hb)
        have A_15 := Lib.hid (A_14.out.below hb)
        have B_15 := Lib.hid (B_14.out.below hb)
        have M_15 := Lib.hid (M_14.out.below hb)
        have J_15 := Lib.hid (J_14.out.below hb)
        clear hb HB14 A_14 B_14 M_14 J_14
        have cA0 := A_15.out.1
        have cA1 := A_15.out.2
        have cB0 := B_15.out.1
        have cB1 := B_15.out.2
        have cM0 := M_15.out.1
        have cM1 := M_15.out.2
        have cJ0 := J_15.out.1
        have cJ1 := J_15.out.2
        go_wp2_with fail
        clear cA0 cA1 cB0 cB1 cM0 cM1 cJ0 cJ1
        refine (H2.out _).mono ?_
        rintro e w16 ⟨rfl, hb⟩
        have HB16 := Lib.hid (below_trans HB15.out hb)
        have A_16 := Lib.hid (A_15.out.below hb)
        have B_16 := Lib.hid (B_15.out.below hb)
        have M_16 := Lib.hid (M_15.out.below hb)
        have J_16 := Lib.hid (J_15.out.below hb)
        clear hb HB15 A_15 B_15 M_15 J_15
        have cA0 := A_16.out.1
        have cA1 := A_16.out.2
        have cB0 := B_16.out.1
        have cB1 := B_16.out.2
        have cM0 := M_16.out.1
        have cM1 := M_16.out.2
        have cJ0 := J_16.out.1
        have cJ1 := J_16.out.2
        go_wp2_with fail
        clear cA0 cA1 cB0 cB1 cM0 cM1 cJ0 cJ1
        refine (W3.out _).mono ?_
        rintro e w17 ⟨rfl, hb⟩
        have HB17 := Lib.hid (below_trans HB16.out hb)
        have A_17 := Lib.hid (A_16.out.below hb)
        have B_17 := Lib.hid (B_16.out.below hb)
        have M_17 := Lib.hid (M_16.out.below hb)
        have J_17 := Lib.hid (J_16.out.below hb)
        clear hb HB16 A_16 B_16 M_16 J_16
        have cA0 := A_17.out.1
        have cA1 := A_17.out.2
        have cB0 := B_17.out.1
        have cB1 := B_17.out.2
        have cM0 := M_17.out.1
        have cM1 := M_17.out.2
        have cJ0 := J_17.out.1
        have cJ1 := J_17.out.2
        go_wp2_with fail
        clear cA0 cA1 cB0 cB1 cM0 cM1 cJ0 cJ1
        refine (W4.out _).mono ?_
        rintro e w18 ⟨rfl, hb⟩
        have HB18 := Lib.hid (below_trans HB17.out hb)
        have A_18 := Lib.hid (A_17.out.below hb)
        have B_18 := Lib.hid (B_17.out.below hb)
        have M_18 := Lib.hid (M_17.out.below hb)
        have J_18 := Lib.hid (J_17.out.below hb)
        clear hb HB17 A_17 B_17 M_17 J_17
        rcases K7.out with e | e
        · subst e
          rcases K8.out with e | e
          · subst e
            have cA0 := A_18.out.1
            have cA1 := A_18.out.2
            have cB0 := B_18.out.1
            have cB1 := B_18.out.2
            have cM0 := M_18.out.1
            have cM1 := M_18.out.2
            have cJ0 := J_18.out.1
            have cJ1 := J_18.out.2
            go_wp2_with fail
            go_ret
            exact ⟨rfl, HB18.out⟩
          · by_cases e2 : j1 = b
            · subst e2
              clear e
              have cA0 := A_18.out.1
              have cA1 := A_18.out.2
              have cB0 := B_18.out.1
              have cB1 := B_18.out.2
              have cM0 := M_18.out.1
              have cM1 := M_18.out.2
              have cJ0 := J_18.out.1
              have cJ1 := J_18.out.2
              go_wp2_with fail
              go_ret
              exact ⟨rfl, HB18.out⟩
            · have d8 : (j1 == b) = false := beq_eq_false_iff_ne.2 e2
              clear e2
              subst e
              have cA0 := A_18.out.1
              have cA1 := A_18.out.2
              have cB0 := B_18.out.1
              have cB1 := B_18.out.2
              have cM0 := M_18.out.1
              have cM1 := M_18.out.2
              have cJ0 := J_18.out.1
              have cJ1 := J_18.out.2
              go_wp2_with fail
              go_ret
              exact ⟨rfl, HB18.out⟩
        · by_cases e2 : j0 = a
          · subst e2
            clear e
            rcases K8.out with e | e
            · subst e
              have cA0 := A_18.out.1
              have cA1 := A_18.out.2
              have cB0 := B_18.out.1
              have cB1 := B_18.out.2
              have cM0 := M_18.out.1
              have cM1 := M_18.out.2
              have cJ0 := J_18.out.1
              have cJ1 := J_18.out.2
              go_wp2_with fail
              go_ret
              exact ⟨rfl, HB18.out⟩
            · by_cases e2 : j1 = b
              · subst e2
                clear e
                have cA0 := A_18.out.1
                have cA1 := A_18.out.2
                have cB0 := B_18.out.1
                have cB1 := B_18.out.2
                have cM0 := M_18.out.1
                have cM1 := M_18.out.2
                have cJ0 := J_18.out.1
                have cJ1 := J_18.out.2
                go_wp2_with fail
                go_ret
                exact ⟨rfl, HB18.out⟩
              · have d8 : (j1 == b) = false := beq_eq_false_iff_ne.2 e2
                clear e2
                subst e
                have cA0 := A_18.out.1
                have cA1 := A_18.out.2
                have cB0 := B_18.out.1
                have cB1 := B_18.out.2
                have cM0 := M_18.out.1
                have cM1 := M_18.out.2
                have cJ0 := J_18.out.1
                have cJ1 := J_18.out.2
                go_wp2_with fail
                go_ret
                exact ⟨rfl, HB18.out⟩
          · have d7 : (j0 == a) = false := beq_eq_false_iff_ne.2 e2
            clear e2
            subst e
            rcases K8.out with e | e
            · subst e
              have cA0 := A_18.out.1
              have cA1 := A_18.out.2
              have cB0 := B_18.out.1
              have cB1 := B_18.out.2
              have cM0 := M_18.out.1
              have cM1 := M_18.out.2
              have cJ0 := J_18.out.1
              have cJ1 := J_18.out.2
              go_wp2_with fail
              go_ret
              exact ⟨rfl, HB18.out⟩
            · by_cases e2 : j1 = b
              · subst e2
                clear e
                have cA0 := A_18.out.1
                have cA1 := A_18.out.2
                have cB0 := B_18.out.1
                have cB1 := B_18.out.2
                have cM0 := M_18.out.1
                have cM1 := M_18.out.2
                have cJ0 := J_18.out.1
                have cJ1 := J_18.out.2
                go_wp2_with fail
                go_ret
                exact ⟨rfl, HB18.out⟩
              · have d8 : (j1 == b) = false := beq_eq_false_iff_ne.2 e2
                clear e2
                subst e
                have cA0 := A_18.out.1
                have cA1 := A_18.out.2
                have cB0 := B_18.out.1
                have cB1 := B_18.out.2
                have cM0 := M_18.out.1
                have cM1 := M_18.out.2
                have cJ0 := J_18.out.1
                have cJ1 := J_18.out.2
                go_wp2_with fail
                go_ret
                exact ⟨rfl, HB18.out⟩
      | true =>
        obtain rfl : f4 = true := k4 rfl
        obtain ⟨rfl, rfl, rfl⟩ := k2 rfl
        obtain rfl : f3 = false := by simpa using k1.symm
        clear k1 k2 k3 k4
        have HB0 := Lib.hid (below_self w)
        have HB1 := Lib.hid (below_trans HB0.out (below_alloc w (.cells #[.int .i64 a, .int .i64 b] 23)))
        have A_1 := Lib.hid (Cl.at (w := w) (x := a) (y := b) (g := w.heap.size) (by simp))
        clear HB0 
        have HB2 := Lib.hid (below_trans HB1.out (below_alloc (w.alloc (.cells #[.int .i64 a, .int .i64 b] 23)) (.cells #[.int .i64 c, .int .i64 d] 23)))
        have A_2 := Lib.hid (A_1.out.alloc (.cells #[.int .i64 c, .int .i64 d] 23))
        have B_2 := Lib.hid (Cl.at (w := (w.alloc (.cells #[.int .i64 a, .int .i64 b] 23))) (x := c) (y := d) (g := w.heap.size + 1) (by simp))
        clear HB1 A_1
        go_enter Try.func5, Try.ntmps5
        have cA0 := A_2.out.1
        have cA1 := A_2.out.2
        have cB0 := B_2.out.1
        have cB1 := B_2.out.2
        go_wp2_with fail
        clear cA0 cA1 cB0 cB1
        refine (SM.out _).mono ?_
        rintro e w3 ⟨rfl, hb⟩
        have HB3 := Lib.hid (below_trans HB2.out hb)
        have A_3 := Lib.hid (A_2.out.below hb)
        have B_3 := Lib.hid (B_2.out.below hb)
        clear hb HB2 A_2 B_2
        have cA0 := A_3.out.1
        have cA1 := A_3.out.2
        have cB0 := B_3.out.1
        have cB1 := B_3.out.2
        go_wp2_with fail
        clear cA0 cA1 cB0 cB1
        refine (R1.out _).mono ?_
        rintro e w4 ⟨rfl, hb⟩
        have HB4 := Lib.hid (below_trans HB3.out hb)
        have A_4 := Lib.hid (A_3.out.below hb)
        have B_4 := Lib.hid (B_3.out.below hb)
        clear hb HB3 A_3 B_3
        have cA0 := A_4.out.1
        have cA1 := A_4.out.2
        have cB0 := B_4.out.1
        have cB1 := B_4.out.2
        go_wp2_with fail
        clear cA0 cA1 cB0 cB1
        refine (R2.out _).mono ?_
        rintro e w5 ⟨rfl, hb⟩
        have HB5 := Lib.hid (below_trans HB4.out hb)
        have A_5 := Lib.hid (A_4.out.below hb)
        have B_5 := Lib.hid (B_4.out.below hb)
        clear hb HB4 A_4 B_4
        have cA0 := A_5.out.1
        have cA1 := A_5.out.2
        have cB0 := B_5.out.1
        have cB1 := B_5.out.2
        go_wp2_with fail
        clear cA0 cA1 cB0 cB1
        refine (ME.out _).mono ?_
        rintro e w6 ⟨rfl, hb⟩
        have HB6 := Lib.hid (below_trans HB5.out hb)
        have A_6 := Lib.hid (A_5.out.below hb)
        have B_6 := Lib.hid (B_5.out.below hb)
        clear hb HB5 A_5 B_5
        have HB7 := Lib.hid (below_trans HB6.out (below_alloc w6 (.cells #[.int .i64 m0, .int .i64 m1] 23)))
        have A_7 := Lib.hid (A_6.out.alloc (.cells #[.int .i64 m0, .int .i64 m1] 23))
        have B_7 := Lib.hid (B_6.out.alloc (.cells #[.int .i64 m0, .int .i64 m1] 23))
        have M_7 := Lib.hid (Cl.at (w := w6) (x := m0) (y := m1) (g := w6.heap.size) (by simp))
        clear HB6 A_6 B_6
        have cA0 := A_7.out.1
        have cA1 := A_7.out.2
        have cB0 := B_7.out.1
        have cB1 := B_7.out.2
        have cM0 := M_7.out.1
        have cM1 := M_7.out.2
        go_wp2_with fail
        clear cA0 cA1 cB0 cB1 cM0 cM1
        refine (JO.out _).mono ?_
        rintro e w8 ⟨rfl, hb⟩
        have HB8 := Lib.hid (below_trans HB7.out hb)
        have A_8 := Lib.hid (A_7.out.below hb)
        have B_8 := Lib.hid (B_7.out.below hb)
        have M_8 := Lib.hid (M_7.out.below hb)
        clear hb HB7 A_7 B_7 M_7
        have HB9 := Lib.hid (below_trans HB8.out (below_alloc w8 (.cells #[.int .i64 j0, .int .i64 j1] 23)))
        have A_9 := Lib.hid (A_8.out.alloc (.cells #[.int .i64 j0, .int .i64 j1] 23))
        have B_9 := Lib.hid (B_8.out.alloc (.cells #[.int .i64 j0, .int .i64 j1] 23))
        have M_9 := Lib.hid (M_8.out.alloc (.cells #[.int .i64 j0, .int .i64 j1] 23))
        have J_9 := Lib.hid (Cl.at (w := w8) (x := j0) (y := j1) (g := w8.heap.size) (by simp))
        clear HB8 A_8 B_8 M_8
        have cA0 := A_9.out.1
        have cA1 := A_9.out.2
        have cB0 := B_9.out.1
        have cB1 := B_9.out.2
        have cM0 := M_9.out.1
        have cM1 := M_9.out.2
        have cJ0 := J_9.out.1
        have cJ1 := J_9.out.2
        go_wp2_with fail
        clear cA0 cA1 cB0 cB1 cM0 cM1 cJ0 cJ1
        refine (H1.out _).mono ?_
        rintro e w10 ⟨rfl, hb⟩
        have HB10 := Lib.hid (below_trans HB9.out hb)
        have A_10 := Lib.hid (A_9.out.below hb)
        have B_10 := Lib.hid (B_9.out.below hb)
        have M_10 := Lib.hid (M_9.out.below hb)
        have J_10 := Lib.hid (J_9.out.below hb)
        clear hb HB9 A_9 B_9 M_9 J_9
        have cA0 := A_10.out.1
        have cA1 := A_10.out.2
        have cB0 := B_10.out.1
        have cB1 := B_10.out.2
        have cM0 := M_10.out.1
        have cM1 := M_10.out.2
        have cJ0 := J_10.out.1
        have cJ1 := J_10.out.2
        go_wp2_with fail
        clear cA0 cA1 cB0 cB1 cM0 cM1 cJ0 cJ1
        refine (H3.out _).mono ?_
        rintro e w11 ⟨rfl, hb⟩
        have HB11 := Lib.hid (below_trans HB10.out hb)
        have A_11 := Lib.hid (A_10.out.below hb)
        have B_11 := Lib.hid (B_10.out.below hb)
        have M_11 := Lib.hid (M_10.out.below hb)
        have J_11 := Lib.hid (J_10.out.below hb)
        clear hb HB10 A_10 B_10 M_10 J_10
        have cA0 := A_11.out.1
        have cA1 := A_11.out.2
        have cB0 := B_11.out.1
        have cB1 := B_11.out.2
        have cM0 := M_11.out.1
        have cM1 := M_11.out.2
        have cJ0 := J_11.out.1
        have cJ1 := J_11.out.2
        go_wp2_with fail
        clear cA0 cA1 cB0 cB1 cM0 cM1 cJ0 cJ1
        refine (W1.out _).mono ?_
        rintro e w12 ⟨rfl, hb⟩
        have HB12 := Lib.hid (below_trans HB11.out hb)
        have A_12 := Lib.hid (A_11.out.below hb)
        have B_12 := Lib.hid (B_11.out.below hb)
        have M_12 := Lib.hid (M_11.out.below hb)
        have J_12 := Lib.hid (J_11.out.below hb)
        clear hb HB11 A_11 B_11 M_11 J_11
        have cA0 := A_12.out.1
        have cA1 := A_12.out.2
        have cB0 := B_12.out.1
        have cB1 := B_12.out.2
        have cM0 := M_12.out.1
        have cM1 := M_12.out.2
        have cJ0 := J_12.out.1
        have cJ1 := J_12.out.2
        go_wp2_with fail
        clear cA0 cA1 cB0 cB1 cM0 cM1 cJ0 cJ1
        refine (W2.out _).mono ?_
        rintro e w13 ⟨rfl, hb⟩
        have HB13 := Lib.hid (below_trans HB12.out hb)
        have A_13 := Lib.hid (A_12.out.below hb)
        have B_13 := Lib.hid (B_12.out.below hb)
        have M_13 := Lib.hid (M_12.out.below hb)
        have J_13 := Lib.hid (J_12.out.below hb)
        clear hb HB12 A_12 B_12 M_12 J_12
        have cA0 := A_13.out.1
        have cA1 := A_13.out.2
        have cB0 := B_13.out.1
        have cB1 := B_13.out.2
        have cM0 := M_13.out.1
        have cM1 := M_13.out.2
        have cJ0 := J_13.out.1
        have cJ1 := J_13.out.2
        go_wp2_with fail
        clear cA0 cA1 cB0 cB1 cM0 cM1 cJ0 cJ1
        refine (R3.out _).mono ?_
        rintro e w14 ⟨rfl, hb⟩
        have HB14 := Lib.hid (below_trans HB13.out hb)
        have A_14 := Lib.hid (A_13.out.below hb)
        have B_14 := Lib.hid (B_13.out.below hb)
        have M_14 := Lib.hid (M_13.out.below hb)
        have J_14 := Lib.hid (J_13.out.below hb)
        clear hb HB13 A_13 B_13 M_13 J_13
        have cA0 := A_14.out.1
        have cA1 := A_14.out.2
        have cB0 := B_14.out.1
        have cB1 := B_14.out.2
        have cM0 := M_14.out.1
        have cM1 := M_14.out.2
        have cJ0 := J_14.out.1
        have cJ1 := J_14.out.2
        go_wp2_with fail
        clear cA0 cA1 cB0 cB1 cM0 cM1 cJ0 cJ1
        refine (H1.out _).mono ?_
        rintro e w15 ⟨rfl, hb⟩
        have HB15 := Lib.hid (below_trans HB14.out hb)
        have A_15 := Lib.hid (A_14.out.below hb)
        have B_15 := Lib.hid (B_14.out.below hb)
        have M_15 := Lib.hid (M_14.out.below hb)
        have J_15 := Lib.hid (J_14.out.below hb)
        clear hb HB14 A_14 B_14 M_14 J_14
        have cA0 := A_15.out.1
        have cA1 := A_15.out.2
        have cB0 := B_15.out.1
        have cB1 := B_15.out.2
        have cM0 := M_15.out.1
        have cM1 := M_15.out.2
        have cJ0 := J_15.out.1
        have cJ1 := J_15.out.2
        go_wp2_with fail
        clear cA0 cA1 cB0 cB1 cM0 cM1 cJ0 cJ1
        refine (H2.out _).mono ?_
        rintro e w16 ⟨rfl, hb⟩
        have HB16 := Lib.hid (below_trans HB15.out hb)
        have A_16 := Lib.hid (A_15.out.below hb)
        have B_16 := Lib.hid (B_15.out.below hb)
        have M_16 := Lib.hid (M_15.out.below hb)
        have J_16 := Lib.hid (J_15.out.below hb)
        clear hb HB15 A_15 B_15 M_15 J_15
        have cA0 := A_16.out.1
        have cA1 := A_16.out.2
        have cB0 := B_16.out.1
        have cB1 := B_16.out.2
        have cM0 := M_16.out.1
        have cM1 := M_16.out.2
        have cJ0 := J_16.out.1
        have cJ1 := J_16.out.2
        go_wp2_with fail
        clear cA0 cA1 cB0 cB1 cM0 cM1 cJ0 cJ1
        refine (H4.out _).mono ?_
        rintro e w17 ⟨rfl, hb⟩
        have HB17 := Lib.hid (below_trans HB16.out hb)
        have A_17 := Lib.hid (A_16.out.below hb)
        have B_17 := Lib.hid (B_16.out.below hb)
        have M_17 := Lib.hid (M_16.out.below hb)
        have J_17 := Lib.hid (J_16.out.below hb)
        clear hb HB16 A_16 B_16 M_16 J_16
        have cA0 := A_17.out.1
        have cA1 := A_17.out.2
        have cB0 := B_17.out.1
        have cB1 := B_17.out.2
        have cM0 := M_17.out.1
        have cM1 := M_17.out.2
        have cJ0 := J_17.out.1
        have cJ1 := J_17.out.2
        go_wp2_with fail
        clear cA0 cA1 cB0 cB1 cM0 cM1 cJ0 cJ1
        refine (W3.out _).mono ?_
        rintro e w18 ⟨rfl, hb⟩
        have HB18 := Lib.hid (below_trans HB17.out hb)
        have A_18 := Lib.hid (A_17.out.below hb)
        have B_18 := Lib.hid (B_17.out.below hb)
        have M_18 := Lib.hid (M_17.out.below hb)
        have J_18 := Lib.hid (J_17.out.below hb)
        clear hb HB17 A_17 B_17 M_17 J_17
        have cA0 := A_18.out.1
        have cA1 := A_18.out.2
        have cB0 := B_18.out.1
        have cB1 := B_18.out.2
        have cM0 := M_18.out.1
        have cM1 := M_18.out.2
        have cJ0 := J_18.out.1
        have cJ1 := J_18.out.2
        go_wp2_with fail
        clear cA0 cA1 cB0 cB1 cM0 cM1 cJ0 cJ1
        refine (W4.out _).mono ?_
        rintro e w19 ⟨rfl, hb⟩
        have HB19 := Lib.hid (below_trans HB18.out hb)
        have A_19 := Lib.hid (A_18.out.below hb)
        have B_19 := Lib.hid (B_18.out.below hb)
        have M_19 := Lib.hid (M_18.out.below hb)
        have J_19 := Lib.hid (J_18.out.below hb)
        clear hb HB18 A_18 B_18 M_18 J_18
        rcases K7.out with e | e
        · subst e
          rcases K8.out with e | e
          · subst e
            have cA0 := A_19.out.1
            have cA1 := A_19.out.2
            have cB0 := B_19.out.1
            have cB1 := B_19.out.2
            have cM0 := M_19.out.1
            have cM1 := M_19.out.2
            have cJ0 := J_19.out.1
            have cJ1 := J_19.out.2
            go_wp2_with fail
            go_ret
            exact ⟨rfl, HB19.out⟩
          · by_cases e2 : j1 = b
            · subst e2
              clear e
              have cA0 := A_19.out.1
              have cA1 := A_19.out.2
              have cB0 := B_19.out.1
              have cB1 := B_19.out.2
              have cM0 := M_19.out.1
              have cM1 := M_19.out.2
              have cJ0 := J_19.out.1
              have cJ1 := J_19.out.2
              go_wp2_with fail
              go_ret
              exact ⟨rfl, HB19.out⟩
            · have d8 : (j1 == b) = false := beq_eq_false_iff_ne.2 e2
              clear e2
              subst e
              have cA0 := A_19.out.1
              have cA1 := A_19.out.2
              have cB0 := B_19.out.1
              have cB1 := B_19.out.2
              have cM0 := M_19.out.1
              have cM1 := M_19.out.2
              have cJ0 := J_19.out.1
              have cJ1 := J_19.out.2
              go_wp2_with fail
              go_ret
              exact ⟨rfl, HB19.out⟩
        · by_cases e2 : j0 = a
          · subst e2
            clear e
            rcases K8.out with e | e
            · subst e
              have cA0 := A_19.out.1
              have cA1 := A_19.out.2
              have cB0 := B_19.out.1
              have cB1 := B_19.out.2
              have cM0 := M_19.out.1
              have cM1 := M_19.out.2
              have cJ0 := J_19.out.1
              have cJ1 := J_19.out.2
              go_wp2_with fail
              go_ret
              exact ⟨rfl, HB19.out⟩
            · by_cases e2 : j1 = b
              · subst e2
                clear e
                have cA0 := A_19.out.1
                have cA1 := A_19.out.2
                have cB0 := B_19.out.1
                have cB1 := B_19.out.2
                have cM0 := M_19.out.1
                have cM1 := M_19.out.2
                have cJ0 := J_19.out.1
                have cJ1 := J_19.out.2
                go_wp2_with fail
                go_ret
                exact ⟨rfl, HB19.out⟩
              · have d8 : (j1 == b) = false := beq_eq_false_iff_ne.2 e2
                clear e2
                subst e
                have cA0 := A_19.out.1
                have cA1 := A_19.out.2
                have cB0 := B_19.out.1
                have cB1 := B_19.out.2
                have cM0 := M_19.out.1
                have cM1 := M_19.out.2
                have cJ0 := J_19.out.1
                have cJ1 := J_19.out.2
                go_wp2_with fail
                go_ret
                exact ⟨rfl, HB19.out⟩
          · have d7 : (j0 == a) = false := beq_eq_false_iff_ne.2 e2
            clear e2
            subst e
            rcases K8.out with e | e
            · subst e
              have cA0 := A_19.out.1
              have cA1 := A_19.out.2
              have cB0 := B_19.out.1
              have cB1 := B_19.out.2
              have cM0 := M_19.out.1
              have cM1 := M_19.out.2
              have cJ0 := J_19.out.1
              have cJ1 := J_19.out.2
              go_wp2_with fail
              go_ret
              exact ⟨rfl, HB19.out⟩
            · by_cases e2 : j1 = b
              · subst e2
                clear e
                have cA0 := A_19.out.1
                have cA1 := A_19.out.2
                have cB0 := B_19.out.1
                have cB1 := B_19.out.2
                have cM0 := M_19.out.1
                have cM1 := M_19.out.2
                have cJ0 := J_19.out.1
                have cJ1 := J_19.out.2
                go_wp2_with fail
                go_ret
                exact ⟨rfl, HB19.out⟩
              · have d8 : (j1 == b) = false := beq_eq_false_iff_ne.2 e2
                clear e2
                subst e
                have cA0 := A_19.out.1
                have cA1 := A_19.out.2
                have cB0 := B_19.out.1
                have cB1 := B_19.out.2
                have cM0 := M_19.out.1
                have cM1 := M_19.out.2
                have cJ0 := J_19.out.1
                have cJ1 := J_19.out.2
                go_wp2_with fail
                go_ret
                exact ⟨rfl, HB19.out⟩
    | true =>
      cases f2 with
      | false =>
        obtain rfl : f4 = true := k4 rfl
        obtain ⟨rfl, rfl, rfl⟩ := k2 rfl
        obtain rfl : f3 = false := by simpa using k1.symm
        clear k1 k2 k3 k4
        have HB0 := Lib.hid (below_self w)
        have HB1 := Lib.hid (below_trans HB0.out (below_alloc w (.cells #[.int .i64 a, .int .i64 b] 23)))
        have A_1 := Lib.hid (Cl.at (w := w) (x := a) (y := b) (g := w.heap.size) (by simp))
        clear HB0 
        have HB2 := Lib.hid (below_trans HB1.out (below_alloc (w.alloc (.cells #[.int .i64 a, .int .i64 b] 23)) (.cells #[.int .i64 c, .int .i64 d] 23)))
        have A_2 := Lib.hid (A_1.out.alloc (.cells #[.int .i64 c, .int .i64 d] 23))
        have B_2 := Lib.hid (Cl.at (w := (w.alloc (.cells #[.int .i64 a, .int .i64 b] 23))) (x := c) (y := d) (g := w.heap.size + 1) (by simp))
        clear HB1 A_1
        go_enter Try.func5, Try.ntmps5
        have cA0 := A_2.out.1
        have cA1 := A_2.out.2
        have cB0 := B_2.out.1
        have cB1 := B_2.out.2
        go_wp2_with fail
        clear cA0 cA1 cB0 cB1
        refine (SM.out _).mono ?_
        rintro e w3 ⟨rfl, hb⟩
        have HB3 := Lib.hid (below_trans HB2.out hb)
        have A_3 := Lib.hid (A_2.out.below hb)
        have B_3 := Lib.hid (B_2.out.below hb)
        clear hb HB2 A_2 B_2
        have cA0 := A_3.out.1
        have cA1 := A_3.out.2
        have cB0 := B_3.out.1
        have cB1 := B_3.out.2
        go_wp2_with fail
        clear cA0 cA1 cB0 cB1
        refine (R1.out _).mono ?_
        rintro e w4 ⟨rfl, hb⟩
        have HB4 := Lib.hid (below_trans HB3.out hb)
        have A_4 := Lib.hid (A_3.out.below hb)
        have B_4 := Lib.hid (B_3.out.below hb)
        clear hb HB3 A_3 B_3
        have cA0 := A_4.out.1
        have cA1 := A_4.out.2
        have cB0 := B_4.out.1
        have cB1 := B_4.out.2
        go_wp2_with fail
        clear cA0 cA1 cB0 cB1
        refine (R2.out _).mono ?_
        rintro e w5 ⟨rfl, hb⟩
        have HB5 := Lib.hid (below_trans HB4.out hb)
        have A_5 := Lib.hid (A_4.out.below hb)
        have B_5 := Lib.hid (B_4.out.below hb)
        clear hb HB4 A_4 B_4
        have cA0 := A_5.out.1
        have cA1 := A_5.out.2
        have cB0 := B_5.out.1
        have cB1 := B_5.out.2
        go_wp2_with fail
        clear cA0 cA1 cB0 cB1
        refine (ME.out _).mono ?_
        rintro e w6 ⟨rfl, hb⟩
        have HB6 := Lib.hid (below_trans HB5.out hb)
        have A_6 := Lib.hid (A_5.out.below hb)
        have B_6 := Lib.hid (B_5.out.below hb)
        clear hb HB5 A_5 B_5
        have HB7 := Lib.hid (below_trans HB6.out (below_alloc w6 (.cells #[.int .i64 m0, .int .i64 m1] 23)))
        have A_7 := Lib.hid (A_6.out.alloc (.cells #[.int .i64 m0, .int .i64 m1] 23))
        have B_7 := Lib.hid (B_6.out.alloc (.cells #[.int .i64 m0, .int .i64 m1] 23))
        have M_7 := Lib.hid (Cl.at (w := w6) (x := m0) (y := m1) (g := w6.heap.size) (by simp))
        clear HB6 A_6 B_6
        have cA0 := A_7.out.1
        have cA1 := A_7.out.2
        have cB0 := B_7.out.1
        have cB1 := B_7.out.2
        have cM0 := M_7.out.1
        have cM1 := M_7.out.2
        go_wp2_with fail
        clear cA0 cA1 cB0 cB1 cM0 cM1
        refine (JO.out _).mono ?_
        rintro e w8 ⟨rfl, hb⟩
        have HB8 := Lib.hid (below_trans HB7.out hb)
        have A_8 := Lib.hid (A_7.out.below hb)
        have B_8 := Lib.hid (B_7.out.below hb)
        have M_8 := Lib.hid (M_7.out.below hb)
        clear hb HB7 A_7 B_7 M_7
        have HB9 := Lib.hid (below_trans HB8.out (below_alloc w8 (.cells #[.int .i64 j0, .int .i64 j1] 23)))
        have A_9 := Lib.hid (A_8.out.alloc (.cells #[.int .i64 j0, .int .i64 j1] 23))
        have B_9 := Lib.hid (B_8.out.alloc (.cells #[.int .i64 j0, .int .i64 j1] 23))
        have M_9 := Lib.hid (M_8.out.alloc (.cells #[.int .i64 j0, .int .i64 j1] 23))
        have J_9 := Lib.hid (Cl.at (w := w8) (x := j0) (y := j1) (g := w8.heap.size) (by simp))
        clear HB8 A_8 B_8 M_8
        have cA0 := A_9.out.1
        have cA1 := A_9.out.2
        have cB0 := B_9.out.1
        have cB1 := B_9.out.2
        have cM0 := M_9.out.1
        have cM1 := M_9.out.2
        have cJ0 := J_9.out.1
        have cJ1 := J_9.out.2
        go_wp2_with fail
        clear cA0 cA1 cB0 cB1 cM0 cM1 cJ0 cJ1
        refine (H1.out _).mono ?_
        rintro e w10 ⟨rfl, hb⟩
        have HB10 := Lib.hid (below_trans HB9.out hb)
        have A_10 := Lib.hid (A_9.out.below hb)
        have B_10 := Lib.hid (B_9.out.below hb)
        have M_10 := Lib.hid (M_9.out.below hb)
        have J_10 := Lib.hid (J_9.out.below hb)
        clear hb HB9 A_9 B_9 M_9 J_9
        have cA0 := A_10.out.1
        have cA1 := A_10.out.2
        have cB0 := B_10.out.1
        have cB1 := B_10.out.2
        have cM0 := M_10.out.1
        have cM1 := M_10.out.2
        have cJ0 := J_10.out.1
        have cJ1 := J_10.out.2
        go_wp2_with fail
        clear cA0 cA1 cB0 cB1 cM0 cM1 cJ0 cJ1
        refine (H2.out _).mono ?_
        rintro e w11 ⟨rfl, hb⟩
        have HB11 := Lib.hid (below_trans HB10.out hb)
        have A_11 := Lib.hid (A_10.out.below hb)
        have B_11 := Lib.hid (B_10.out.below hb)
        have M_11 := Lib.hid (M_10.out.below hb)
        have J_11 := Lib.hid (J_10.out.below hb)
        clear hb HB10 A_10 B_10 M_10 J_10
        have cA0 := A_11.out.1
        have cA1 := A_11.out.2
        have cB0 := B_11.out.1
        have cB1 := B_11.out.2
        have cM0 := M_11.out.1
        have cM1 := M_11.out.2
        have cJ0 := J_11.out.1
        have cJ1 := J_11.out.2
        go_wp2_with fail
        clear cA0 cA1 cB0 cB1 cM0 cM1 cJ0 cJ1
        refine (H3.out _).mono ?_
        rintro e w12 ⟨rfl, hb⟩
        have HB12 := Lib.hid (below_trans HB11.out hb)
        have A_12 := Lib.hid (A_11.out.below hb)
        have B_12 := Lib.hid (B_11.out.below hb)
        have M_12 := Lib.hid (M_11.out.below hb)
        have J_12 := Lib.hid (J_11.out.below hb)
        clear hb HB11 A_11 B_11 M_11 J_11
        have cA0 := A_12.out.1
        have cA1 := A_12.out.2
        have cB0 := B_12.out.1
        have cB1 := B_12.out.2
        have cM0 := M_12.out.1
        have cM1 := M_12.out.2
        have cJ0 := J_12.out.1
        have cJ1 := J_12.out.2
        go_wp2_with fail
        clear cA0 cA1 cB0 cB1 cM0 cM1 cJ0 cJ1
        refine (W1.out _).mono ?_
        rintro e w13 ⟨rfl, hb⟩
        have HB13 := Lib.hid (below_trans HB12.out hb)
        have A_13 := Lib.hid (A_12.out.below hb)
        have B_13 := Lib.hid (B_12.out.below hb)
        have M_13 := Lib.hid (M_12.out.below hb)
        have J_13 := Lib.hid (J_12.out.below hb)
        clear hb HB12 A_12 B_12 M_12 J_12
        have cA0 := A_13.out.1
        have cA1 := A_13.out.2
        have cB0 := B_13.out.1
        have cB1 := B_13.out.2
        have cM0 := M_13.out.1
        have cM1 := M_13.out.2
        have cJ0 := J_13.out.1
        have cJ1 := J_13.out.2
        go_wp2_with fail
        clear cA0 cA1 cB0 cB1 cM0 cM1 cJ0 cJ1
        refine (W2.out _).mono ?_
        rintro e w14 ⟨rfl, hb⟩
        have HB14 := Lib.hid (below_trans HB13.out hb)
        have A_14 := Lib.hid (A_13.out.below hb)
        have B_14 := Lib.hid (B_13.out.below hb)
        have M_14 := Lib.hid (M_13.out.below hb)
        have J_14 := Lib.hid (J_13.out.below hb)
        clear hb HB13 A_13 B_13 M_13 J_13
        have cA0 := A_14.out.1
        have cA1 := A_14.out.2
        have cB0 := B_14.out.1
        have cB1 := B_14.out.2
        have cM0 := M_14.out.1
        have cM1 := M_14.out.2
        have cJ0 := J_14.out.1
        have cJ1 := J_14.out.2
        go_wp2_with fail
        clear cA0 cA1 cB0 cB1 cM0 cM1 cJ0 cJ1
        refine (R3.out _).mono ?_
        rintro e w15 ⟨rfl, hb⟩
        have HB15 := Lib.hid (below_trans HB14.out hb)
        have A_15 := Lib.hid (A_14.out.below hb)
        have B_15 := Lib.hid (B_14.out.below hb)
        have M_15 := Lib.hid (M_14.out.below hb)
        have J_15 := Lib.hid (J_14.out.below hb)
        clear hb HB14 A_14 B_14 M_14 J_14
        have cA0 := A_15.out.1
        have cA1 := A_15.out.2
        have cB0 := B_15.out.1
        have cB1 := B_15.out.2
        have cM0 := M_15.out.1
        have cM1 := M_15.out.2
        have cJ0 := J_15.out.1
        have cJ1 := J_15.out.2
        go_wp2_with fail
        clear cA0 cA1 cB0 cB1 cM0 cM1 cJ0 cJ1
        refine (H1.out _).mono ?_
        rintro e w16 ⟨rfl, hb⟩
        have HB16 := Lib.hid (below_trans HB15.out hb)
        have A_16 := Lib.hid (A_15.out.below hb)
        have B_16 := Lib.hid (B_15.out.below hb)
        have M_16 := Lib.hid (M_15.out.below hb)
        have J_16 := Lib.hid (J_15.out.below hb)
        clear hb HB15 A_15 B_15 M_15 J_15
        have cA0 := A_16.out.1
        have cA1 := A_16.out.2
        have cB0 := B_16.out.1
        have cB1 := B_16.out.2
        have cM0 := M_16.out.1
        have cM1 := M_16.out.2
        have cJ0 := J_16.out.1
        have cJ1 := J_16.out.2
        go_wp2_with fail
        clear cA0 cA1 cB0 cB1 cM0 cM1 cJ0 cJ1
        refine (H4.out _).mono ?_
        rintro e w17 ⟨rfl, hb⟩
        have HB17 := Lib.hid (below_trans HB16.out hb)
        have A_17 := Lib.hid (A_16.out.below hb)
        have B_17 := Lib.hid (B_16.out.below hb)
        have M_17 := Lib.hid (M_16.out.below hb)
        have J_17 := Lib.hid (J_16.out.below hb)
        clear hb HB16 A_16 B_16 M_16 J_16
        have cA0 := A_17.out.1
        have cA1 := A_17.out.2
        have cB0 := B_17.out.1
        have cB1 := B_17.out.2
        have cM0 := M_17.out.1
        have cM1 := M_17.out.2
        have cJ0 := J_17.out.1
        have cJ1 := J_17.out.2
        go_wp2_with fail
        clear cA0 cA1 cB0 cB1 cM0 cM1 cJ0 cJ1
        refine (W3.out _).mono ?_
        rintro e w18 ⟨rfl, hb⟩
        have HB18 := Lib.hid (below_trans HB17.out hb)
        have A_18 := Lib.hid (A_17.out.below hb)
        have B_18 := Lib.hid (B_17.out.below hb)
        have M_18 := Lib.hid (M_17.out.below hb)
        have J_18 := Lib.hid (J_17.out.below hb)
        clear hb HB17 A_17 B_17 M_17 J_17
        have cA0 := A_18.out.1
        have cA1 := A_18.out.2
        have cB0 := B_18.out.1
        have cB1 := B_18.out.2
        have cM0 := M_18.out.1
        have cM1 := M_18.out.2
        have cJ0 := J_18.out.1
        have cJ1 := J_18.out.2
        go_wp2_with fail
        clear cA0 cA1 cB0 cB1 cM0 cM1 cJ0 cJ1
        refine (W4.out _).mono ?_
        rintro e w19 ⟨rfl, hb⟩
        have HB19 := Lib.hid (below_trans HB18.out hb)
        have A_19 := Lib.hid (A_18.out.below hb)
        have B_19 := Lib.hid (B_18.out.below hb)
        have M_19 := Lib.hid (M_18.out.below hb)
        have J_19 := Lib.hid (J_18.out.below hb)
        clear hb HB18 A_18 B_18 M_18 J_18
        rcases K7.out with e | e
        · subst e
          rcases K8.out with e | e
          · subst e
            have cA0 := A_19.out.1
            have cA1 := A_19.out.2
            have cB0 := B_19.out.1
            have cB1 := B_19.out.2
            have cM0 := M_19.out.1
            have cM1 := M_19.out.2
            have cJ0 := J_19.out.1
            have cJ1 := J_19.out.2
            go_wp2_with fail
            go_ret
            exact ⟨rfl, HB19.out⟩
          · by_cases e2 : j1 = b
            · subst e2
              clear e
              have cA0 := A_19.out.1
              have cA1 := A_19.out.2
              have cB0 := B_19.out.1
              have cB1 := B_19.out.2
              have cM0 := M_19.out.1
              have cM1 := M_19.out.2
              have cJ0 := J_19.out.1
              have cJ1 := J_19.out.2
              go_wp2_with fail
              go_ret
              exact ⟨rfl, HB19.out⟩
            · have d8 : (j1 == b) = false := beq_eq_false_iff_ne.2 e2
              clear e2
              subst e
              have cA0 := A_19.out.1
              have cA1 := A_19.out.2
              have cB0 := B_19.out.1
              have cB1 := B_19.out.2
              have cM0 := M_19.out.1
              have cM1 := M_19.out.2
              have cJ0 := J_19.out.1
              have cJ1 := J_19.out.2
              go_wp2_with fail
              go_ret
              exact ⟨rfl, HB19.out⟩
        · by_cases e2 : j0 = a
          · subst e2
            clear e
            rcases K8.out with e | e
            · subst e
              have cA0 := A_19.out.1
              have cA1 := A_19.out.2
              have cB0 := B_19.out.1
              have cB1 := B_19.out.2
              have cM0 := M_19.out.1
              have cM1 := M_19.out.2
              have cJ0 := J_19.out.1
              have cJ1 := J_19.out.2
              go_wp2_with fail
              go_ret
              exact ⟨rfl, HB19.out⟩
            · by_cases e2 : j1 = b
              · subst e2
                clear e
                have cA0 := A_19.out.1
                have cA1 := A_19.out.2
                have cB0 := B_19.out.1
                have cB1 := B_19.out.2
                have cM0 := M_19.out.1
                have cM1 := M_19.out.2
                have cJ0 := J_19.out.1
                have cJ1 := J_19.out.2
                go_wp2_with fail
                go_ret
                exact ⟨rfl, HB19.out⟩
              · have d8 : (j1 == b) = false := beq_eq_false_iff_ne.2 e2
                clear e2
                subst e
                have cA0 := A_19.out.1
                have cA1 := A_19.out.2
                have cB0 := B_19.out.1
                have cB1 := B_19.out.2
                have cM0 := M_19.out.1
                have cM1 := M_19.out.2
                have cJ0 := J_19.out.1
                have cJ1 := J_19.out.2
                go_wp2_with fail
                go_ret
                exact ⟨rfl, HB19.out⟩
          · have d7 : (j0 == a) = false := beq_eq_false_iff_ne.2 e2
            clear e2
            subst e
            rcases K8.out with e | e
            · subst e
              have cA0 := A_19.out.1
              have cA1 := A_19.out.2
              have cB0 := B_19.out.1
              have cB1 := B_19.out.2
              have cM0 := M_19.out.1
              have cM1 := M_19.out.2
              have cJ0 := J_19.out.1
              have cJ1 := J_19.out.2
              go_wp2_with fail
              go_ret
              exact ⟨rfl, HB19.out⟩
            · by_cases e2 : j1 = b
              · subst e2
                clear e
                have cA0 := A_19.out.1
                have cA1 := A_19.out.2
                have cB0 := B_19.out.1
                have cB1 := B_19.out.2
                have cM0 := M_19.out.1
                have cM1 := M_19.out.2
                have cJ0 := J_19.out.1
                have cJ1 := J_19.out.2
                go_wp2_with fail
                go_ret
                exact ⟨rfl, HB19.out⟩
              · have d8 : (j1 == b) = false := beq_eq_false_iff_ne.2 e2
                clear e2
                subst e
                have cA0 := A_19.out.1
                have cA1 := A_19.out.2
                have cB0 := B_19.out.1
                have cB1 := B_19.out.2
                have cM0 := M_19.out.1
                have cM1 := M_19.out.2
                have cJ0 := J_19.out.1
                have cJ1 := J_19.out.2
                go_wp2_with fail
                go_ret
                exact ⟨rfl, HB19.out⟩
      | true =>
        obtain rfl : f4 = true := k4 rfl
        obtain ⟨rfl, rfl, rfl⟩ := k2 rfl
        obtain rfl : f3 = true := by simpa using k1.symm
        clear k1 k2 k3 k4
        have HB0 := Lib.hid (below_self w)
        have HB1 := Lib.hid (below_trans HB0.out (below_alloc w (.cells #[.int .i64 a, .int .i64 b] 23)))
        have A_1 := Lib.hid (Cl.at (w := w) (x := a) (y := b) (g := w.heap.size) (by simp))
        clear HB0 
        have HB2 := Lib.hid (below_trans HB1.out (below_alloc (w.alloc (.cells #[.int .i64 a, .int .i64 b] 23)) (.cells #[.int .i64 c, .int .i64 d] 23)))
        have A_2 := Lib.hid (A_1.out.alloc (.cells #[.int .i64 c, .int .i64 d] 23))
        have B_2 := Lib.hid (Cl.at (w := (w.alloc (.cells #[.int .i64 a, .int .i64 b] 23))) (x := c) (y := d) (g := w.heap.size + 1) (by simp))
        clear HB1 A_1
        go_enter Try.func5, Try.ntmps5
        have cA0 := A_2.out.1
        have cA1 := A_2.out.2
        have cB0 := B_2.out.1
        have cB1 := B_2.out.2
        go_wp2_with fail
        clear cA0 cA1 cB0 cB1
        refine (SM.out _).mono ?_
        rintro e w3 ⟨rfl, hb⟩
        have HB3 := Lib.hid (below_trans HB2.out hb)
        have A_3 := Lib.hid (A_2.out.below hb)
        have B_3 := Lib.hid (B_2.out.below hb)
        clear hb HB2 A_2 B_2
        have cA0 := A_3.out.1
        have cA1 := A_3.out.2
        have cB0 := B_3.out.1
        have cB1 := B_3.out.2
        go_wp2_with fail
        clear cA0 cA1 cB0 cB1
        refine (R1.out _).mono ?_
        rintro e w4 ⟨rfl, hb⟩
        have HB4 := Lib.hid (below_trans HB3.out hb)
        have A_4 := Lib.hid (A_3.out.below hb)
        have B_4 := Lib.hid (B_3.out.below hb)
        clear hb HB3 A_3 B_3
        have cA0 := A_4.out.1
        have cA1 := A_4.out.2
        have cB0 := B_4.out.1
        have cB1 := B_4.out.2
        go_wp2_with fail
        clear cA0 cA1 cB0 cB1
        refine (R2.out _).mono ?_
        rintro e w5 ⟨rfl, hb⟩
        have HB5 := Lib.hid (below_trans HB4.out hb)
        have A_5 := Lib.hid (A_4.out.below hb)
        have B_5 := Lib.hid (B_4.out.below hb)
        clear hb HB4 A_4 B_4
        have cA0 := A_5.out.1
        have cA1 := A_5.out.2
        have cB0 := B_5.out.1
        have cB1 := B_5.out.2
        go_wp2_with fail
        clear cA0 cA1 cB0 cB1
        refine (ME.out _).mono ?_
        rintro e w6 ⟨rfl, hb⟩
        have HB6 := Lib.hid (below_trans HB5.out hb)
        have A_6 := Lib.hid (A_5.out.below hb)
        have B_6 := Lib.hid (B_5.out.below hb)
        clear hb HB5 A_5 B_5
        have HB7 := Lib.hid (below_trans HB6.out (below_alloc w6 (.cells #[.int .i64 m0, .int .i64 m1] 23)))
        have A_7 := Lib.hid (A_6.out.alloc (.cells #[.int .i64 m0, .int .i64 m1] 23))
        have B_7 := Lib.hid (B_6.out.alloc (.cells #[.int .i64 m0, .int .i64 m1] 23))
        have M_7 := Lib.hid (Cl.at (w := w6) (x := m0) (y := m1) (g := w6.heap.size) (by simp))
        clear HB6 A_6 B_6
        have cA0 := A_7.out.1
        have cA1 := A_7.out.2
        have cB0 := B_7.out.1
        have cB1 := B_7.out.2
        have cM0 := M_7.out.1
        have cM1 := M_7.out.2
        go_wp2_with fail
        clear cA0 cA1 cB0 cB1 cM0 cM1
        refine (JO.out _).mono ?_
        rintro e w8 ⟨rfl, hb⟩
        have HB8 := Lib.hid (below_trans HB7.out hb)
        have A_8 := Lib.hid (A_7.out.below hb)
        have B_8 := Lib.hid (B_7.out.below hb)
        have M_8 := Lib.hid (M_7.out.below hb)
        clear hb HB7 A_7 B_7 M_7
        have HB9 := Lib.hid (below_trans HB8.out (below_alloc w8 (.cells #[.int .i64 j0, .int .i64 j1] 23)))
        have A_9 := Lib.hid (A_8.out.alloc (.cells #[.int .i64 j0, .int .i64 j1] 23))
        have B_9 := Lib.hid (B_8.out.alloc (.cells #[.int .i64 j0, .int .i64 j1] 23))
        have M_9 := Lib.hid (M_8.out.alloc (.cells #[.int .i64 j0, .int .i64 j1] 23))
        have J_9 := Lib.hid (Cl.at (w := w8) (x := j0) (y := j1) (g := w8.heap.size) (by simp))
        clear HB8 A_8 B_8 M_8
        have cA0 := A_9.out.1
        have cA1 := A_9.out.2
        have cB0 := B_9.out.1
        have cB1 := B_9.out.2
        have cM0 := M_9.out.1
        have cM1 := M_9.out.2
        have cJ0 := J_9.out.1
        have cJ1 := J_9.out.2
        go_wp2_with fail
        clear cA0 cA1 cB0 cB1 cM0 cM1 cJ0 cJ1
        refine (H1.out _).mono ?_
        rintro e w10 ⟨rfl, hb⟩
        have HB10 := Lib.hid (below_trans HB9.out hb)
        have A_10 := Lib.hid (A_9.out.below hb)
        have B_10 := Lib.hid (B_9.out.below hb)
        have M_10 := Lib.hid (M_9.out.below hb)
        have J_10 := Lib.hid (J_9.out.below hb)
        clear hb HB9 A_9 B_9 M_9 J_9
        have cA0 := A_10.out.1
        have cA1 := A_10.out.2
        have cB0 := B_10.out.1
        have cB1 := B_10.out.2
        have cM0 := M_10.out.1
        have cM1 := M_10.out.2
        have cJ0 := J_10.out.1
        have cJ1 := J_10.out.2
        go_wp2_with fail
        clear cA0 cA1 cB0 cB1 cM0 cM1 cJ0 cJ1
        refine (H2.out _).mono ?_
        rintro e w11 ⟨rfl, hb⟩
        have HB11 := Lib.hid (below_trans HB10.out hb)
        have A_11 := Lib.hid (A_10.out.below hb)
        have B_11 := Lib.hid (B_10.out.below hb)
        have M_11 := Lib.hid (M_10.out.below hb)
        have J_11 := Lib.hid (J_10.out.below hb)
        clear hb HB10 A_10 B_10 M_10 J_10
        have cA0 := A_11.out.1
        have cA1 := A_11.out.2
        have cB0 := B_11.out.1
        have cB1 := B_11.out.2
        have cM0 := M_11.out.1
        have cM1 := M_11.out.2
        have cJ0 := J_11.out.1
        have cJ1 := J_11.out.2
        go_wp2_with fail
        clear cA0 cA1 cB0 cB1 cM0 cM1 cJ0 cJ1
        refine (H3.out _).mono ?_
        rintro e w12 ⟨rfl, hb⟩
        have HB12 := Lib.hid (below_trans HB11.out hb)
        have A_12 := Lib.hid (A_11.out.below hb)
        have B_12 := Lib.hid (B_11.out.below hb)
        have M_12 := Lib.hid (M_11.out.below hb)
        have J_12 := Lib.hid (J_11.out.below hb)
        clear hb HB11 A_11 B_11 M_11 J_11
        have cA0 := A_12.out.1
        have cA1 := A_12.out.2
        have cB0 := B_12.out.1
        have cB1 := B_12.out.2
        have cM0 := M_12.out.1
        have cM1 := M_12.out.2
        have cJ0 := J_12.out.1
        have cJ1 := J_12.out.2
        go_wp2_with fail
        clear cA0 cA1 cB0 cB1 cM0 cM1 cJ0 cJ1
        refine (W1.out _).mono ?_
        rintro e w13 ⟨rfl, hb⟩
        have HB13 := Lib.hid (below_trans HB12.out hb)
        have A_13 := Lib.hid (A_12.out.below hb)
        have B_13 := Lib.hid (B_12.out.below hb)
        have M_13 := Lib.hid (M_12.out.below hb)
        have J_13 := Lib.hid (J_12.out.below hb)
        clear hb HB12 A_12 B_12 M_12 J_12
        have cA0 := A_13.out.1
        have cA1 := A_13.out.2
        have cB0 := B_13.out.1
        have cB1 := B_13.out.2
        have cM0 := M_13.out.1
        have cM1 := M_13.out.2
        have cJ0 := J_13.out.1
        have cJ1 := J_13.out.2
        go_wp2_with fail
        clear cA0 cA1 cB0 cB1 cM0 cM1 cJ0 cJ1
        refine (W2.out _).mono ?_
        rintro e w14 ⟨rfl, hb⟩
        have HB14 := Lib.hid (below_trans HB13.out hb)
        have A_14 := Lib.hid (A_13.out.below hb)
        have B_14 := Lib.hid (B_13.out.below hb)
        have M_14 := Lib.hid (M_13.out.below hb)
        have J_14 := Lib.hid (J_13.out.below hb)
        clear hb HB13 A_13 B_13 M_13 J_13
        have cA0 := A_14.out.1
        have cA1 := A_14.out.2
        have cB0 := B_14.out.1
        have cB1 := B_14.out.2
        have cM0 := M_14.out.1
        have cM1 := M_14.out.2
        have cJ0 := J_14.out.1
        have cJ1 := J_14.out.2
        go_wp2_with fail
        clear cA0 cA1 cB0 cB1 cM0 cM1 cJ0 cJ1
        refine (R3.out _).mono ?_
        rintro e w15 ⟨rfl, hb⟩
        have HB15 := Lib.hid (below_trans HB14.out hb)
        have A_15 := Lib.hid (A_14.out.below hb)
        have B_15 := Lib.hid (B_14.out.below hb)
        have M_15 := Lib.hid (M_14.out.below hb)
        have J_15 := Lib.hid (J_14.out.below hb)
        clear hb HB14 A_14 B_14 M_14 J_14
        have cA0 := A_15.out.1
        have cA1 := A_15.out.2
        have cB0 := B_15.out.1
        have cB1 := B_15.out.2
        have cM0 := M_15.out.1
        have cM1 := M_15.out.2
        have cJ0 := J_15.out.1
        have cJ1 := J_15.out.2
        go_wp2_with fail
        clear cA0 cA1 cB0 cB1 cM0 cM1 cJ0 cJ1
        refine (H1.out _).mono ?_
        rintro e w16 ⟨rfl, hb⟩
        have HB16 := Lib.hid (below_trans HB15.out hb)
        have A_16 := Lib.hid (A_15.out.below hb)
        have B_16 := Lib.hid (B_15.out.below hb)
        have M_16 := Lib.hid (M_15.out.below hb)
        have J_16 := Lib.hid (J_15.out.below hb)
        clear hb HB15 A_15 B_15 M_15 J_15
        have cA0 := A_16.out.1
        have cA1 := A_16.out.2
        have cB0 := B_16.out.1
        have cB1 := B_16.out.2
        have cM0 := M_16.out.1
        have cM1 := M_16.out.2
        have cJ0 := J_16.out.1
        have cJ1 := J_16.out.2
        go_wp2_with fail
        clear cA0 cA1 cB0 cB1 cM0 cM1 cJ0 cJ1
        refine (H4.out _).mono ?_
        rintro e w17 ⟨rfl, hb⟩
        have HB17 := Lib.hid (below_trans HB16.out hb)
        have A_17 := Lib.hid (A_16.out.below hb)
        have B_17 := Lib.hid (B_16.out.below hb)
        have M_17 := Lib.hid (M_16.out.below hb)
        have J_17 := Lib.hid (J_16.out.below hb)
        clear hb HB16 A_16 B_16 M_16 J_16
        have cA0 := A_17.out.1
        have cA1 := A_17.out.2
        have cB0 := B_17.out.1
        have cB1 := B_17.out.2
        have cM0 := M_17.out.1
        have cM1 := M_17.out.2
        have cJ0 := J_17.out.1
        have cJ1 := J_17.out.2
        go_wp2_with fail
        clear cA0 cA1 cB0 cB1 cM0 cM1 cJ0 cJ1
        refine (W3.out _).mono ?_
        rintro e w18 ⟨rfl, hb⟩
        have HB18 := Lib.hid (below_trans HB17.out hb)
        have A_18 := Lib.hid (A_17.out.below hb)
        have B_18 := Lib.hid (B_17.out.below hb)
        have M_18 := Lib.hid (M_17.out.below hb)
        have J_18 := Lib.hid (J_17.out.below hb)
        clear hb HB17 A_17 B_17 M_17 J_17
        have cA0 := A_18.out.1
        have cA1 := A_18.out.2
        have cB0 := B_18.out.1
        have cB1 := B_18.out.2
        have cM0 := M_18.out.1
        have cM1 := M_18.out.2
        have cJ0 := J_18.out.1
        have cJ1 := J_18.out.2
        go_wp2_with fail
        clear cA0 cA1 cB0 cB1 cM0 cM1 cJ0 cJ1
        refine (W4.out _).mono ?_
        rintro e w19 ⟨rfl, hb⟩
        have HB19 := Lib.hid (below_trans HB18.out hb)
        have A_19 := Lib.hid (A_18.out.below hb)
        have B_19 := Lib.hid (B_18.out.below hb)
        have M_19 := Lib.hid (M_18.out.below hb)
        have J_19 := Lib.hid (J_18.out.below hb)
        clear hb HB18 A_18 B_18 M_18 J_18
        rcases K7.out with e | e
        · subst e
          rcases K8.out with e | e
          · subst e
            have cA0 := A_19.out.1
            have cA1 := A_19.out.2
            have cB0 := B_19.out.1
            have cB1 := B_19.out.2
            have cM0 := M_19.out.1
            have cM1 := M_19.out.2
            have cJ0 := J_19.out.1
            have cJ1 := J_19.out.2
            go_wp2_with fail
            go_ret
            exact ⟨rfl, HB19.out⟩
          · by_cases e2 : j1 = b
            · subst e2
              clear e
              have cA0 := A_19.out.1
              have cA1 := A_19.out.2
              have cB0 := B_19.out.1
              have cB1 := B_19.out.2
              have cM0 := M_19.out.1
              have cM1 := M_19.out.2
              have cJ0 := J_19.out.1
              have cJ1 := J_19.out.2
              go_wp2_with fail
              go_ret
              exact ⟨rfl, HB19.out⟩
            · have d8 : (j1 == b) = false := beq_eq_false_iff_ne.2 e2
              clear e2
              subst e
              have cA0 := A_19.out.1
              have cA1 := A_19.out.2
              have cB0 := B_19.out.1
              have cB1 := B_19.out.2
              have cM0 := M_19.out.1
              have cM1 := M_19.out.2
              have cJ0 := J_19.out.1
              have cJ1 := J_19.out.2
              go_wp2_with fail
              go_ret
              exact ⟨rfl, HB19.out⟩
        · by_cases e2 : j0 = a
          · subst e2
            clear e
            rcases K8.out with e | e
            · subst e
              have cA0 := A_19.out.1
              have cA1 := A_19.out.2
              have cB0 := B_19.out.1
              have cB1 := B_19.out.2
              have cM0 := M_19.out.1
              have cM1 := M_19.out.2
              have cJ0 := J_19.out.1
              have cJ1 := J_19.out.2
              go_wp2_with fail
              go_ret
              exact ⟨rfl, HB19.out⟩
            · by_cases e2 : j1 = b
              · subst e2
                clear e
                have cA0 := A_19.out.1
                have cA1 := A_19.out.2
                have cB0 := B_19.out.1
                have cB1 := B_19.out.2
                have cM0 := M_19.out.1
                have cM1 := M_19.out.2
                have cJ0 := J_19.out.1
                have cJ1 := J_19.out.2
                go_wp2_with fail
                go_ret
                exact ⟨rfl, HB19.out⟩
              · have d8 : (j1 == b) = false := beq_eq_false_iff_ne.2 e2
                clear e2
                subst e
                have cA0 := A_19.out.1
                have cA1 := A_19.out.2
                have cB0 := B_19.out.1
                have cB1 := B_19.out.2
                have cM0 := M_19.out.1
                have cM1 := M_19.out.2
                have cJ0 := J_19.out.1
                have cJ1 := J_19.out.2
                go_wp2_with fail
                go_ret
                exact ⟨rfl, HB19.out⟩
          · have d7 : (j0 == a) = false := beq_eq_false_iff_ne.2 e2
            clear e2
            subst e
            rcases K8.out with e | e
            · subst e
              have cA0 := A_19.out.1
              have cA1 := A_19.out.2
              have cB0 := B_19.out.1
              have cB1 := B_19.out.2
              have cM0 := M_19.out.1
              have cM1 := M_19.out.2
              have cJ0 := J_19.out.1
              have cJ1 := J_19.out.2
              go_wp2_with fail
              go_ret
              exact ⟨rfl, HB19.out⟩
            · by_cases e2 : j1 = b
              · subst e2
                clear e
                have cA0 := A_19.out.1
                have cA1 := A_19.out.2
                have cB0 := B_19.out.1
                have cB1 := B_19.out.2
                have cM0 := M_19.out.1
                have cM1 := M_19.out.2
                have cJ0 := J_19.out.1
                have cJ1 := J_19.out.2
                go_wp2_with fail
                go_ret
                exact ⟨rfl, HB19.out⟩
              · have d8 : (j1 == b) = false := beq_eq_false_iff_ne.2 e2
                clear e2
                subst e
                have cA0 := A_19.out.1
                have cA1 := A_19.out.2
                have cB0 := B_19.out.1
                have cB1 := B_19.out.2
                have cM0 := M_19.out.1
                have cM1 := M_19.out.2
                have cJ0 := J_19.out.1
                have cJ1 := J_19.out.2
                go_wp2_with fail
                go_ret
                exact ⟨rfl, HB19.out⟩
theorem walk (a b : Int) (wa : I64 a) (wb : I64 b) (c d : Int) (wc : I64 c) (wd : I64 d) (n : Int) (wn : I64 n) (w : World) : Calls Try.prog 5 #[sp a b, sp c d, .int .i64 n] w (IsTrue w) := by
  by_cases h1 : a ≤ b
  · by_cases h2 : c ≤ d
    · exact walk_in a b wa wb c d wc wd n wn w h1 h2
    · exact walk_out a b wa wb c d wc wd n wn w (.inr (decide_eq_false h2))
  · exact walk_out a b wa wb c d wc wd n wn w (.inl (decide_eq_false h1))
set_option maxRecDepth 100000 in
theorem lifted (os : Os) (started : os.Started) (H : Type) (enc : TypeId × Value → H) :
    ReturnsInHanded {} Try.checked os 5 .any (Rows.spanMeetsSpec.pre6 enc Try.prog Try.f5 Rows.spanMeetsRow.domain false) (Rows.spanMeetsSpec.post enc Try.prog Try.f5 false true false false) := by
  refine returnsInHanded_of_change_sized (C := Try.checked) own started (by kernel_rfl) Try.func5
    (ChangeSpec.witness6 (enc := enc) (C := Try.checked) false ⟨#[], #[.agg #[.int .i64 0, .int .i64 0], .agg #[.int .i64 0, .int .i64 0], .int .i64 0], []⟩ 8 (by kernel_rfl) (by kernel_rfl) (by kernel_rfl) (by kernel_rfl)) ?_
  intro W base args ds gs before hval0 hW hcnd hsz0 _
  have hval : ∀ (j : Nat) t v, Try.f5.params[j]? = some t → args[j]? = some v → Value.okWide Try.prog W .any base t v := hval0
  have hW' := hW
  obtain ⟨p, q, hA0, hV, rfl, hfz, hnd⟩ := hW
  have hA : DataW.TrodAll enc Try.prog W 0 (fun _ => true) true Try.f5.params.toList args.toList ds p := hA0
  rw [Try.params5] at hA hval
  obtain ⟨v0, vs0, d0, ds0, p0, q0, hargs, rfl, rfl, h0, r0⟩ := trodAll_cons hA
  obtain ⟨v1, vs1, d1, ds1, p1, q1, rfl, rfl, rfl, h1, r1⟩ := trodAll_cons r0
  obtain ⟨v2, vs2, d2, ds2, p2, q2, rfl, rfl, rfl, h2, r2⟩ := trodAll_cons r1
  obtain ⟨rfl, rfl, rfl⟩ := trodAll_nil r2
  obtain rfl : args = #[v0, v1, v2] := by cases args; simp_all
  obtain ⟨rfl, rfl⟩ := trodVars_none hV
  obtain ⟨y0, m0, rfl, wy0, wm0, rfl, t0⟩ := open_span (hval 0 23 v0 rfl rfl) h0
  obtain ⟨y1, m1, rfl, wy1, wm1, rfl, t1⟩ := open_span (hval 1 23 v1 rfl rfl) h1
  obtain ⟨a2, rfl, rfl, rfl, w2⟩ := open_int Try.underlying3 (hval 2 3 v2 rfl rfl) h2
  clear hA0 hval0
  simp only [List.append_nil] at hW'
  refine (walk y0 m0 wy0 wm0 y1 m1 wy1 wm1 a2 (i64_of_wf w2) W).mono fun e W' ⟨he, hb⟩ => ?_
  subst he
  exact ⟨_, rfl, _, _, _, [], _, [], hW', (trodAll_cons_mk (shut_bool Try.underlying4 _) trodAll_mk0), (trodAll_cons_mk (t0 _ _ _ _) (trodAll_cons_mk (t1 _ _ _ _) (trodAll_cons_mk (shut_int Try.underlying3 w2) trodAll_mk0))), rfl, hb.frame _, fun h => by cases h⟩
theorem over : Rows.spanMeetsRow.holds Try.pinned (OpenSpec.ofChange Rows.spanMeetsSpec) :=
  OpenClaim.holds_of_wide 5 Try.f5 rfl rfl rfl rfl rfl rfl rfl ⟨rfl, rfl, rfl, rfl, rfl⟩ rfl rfl rfl rfl rfl (by kernel_rfl) Try.func5 (by kernel_rfl)
    (of_decide_eq_true (by kernel_rfl)) (by unfold Func.isWrapper; first | (rw [if_pos (by decide +kernel)]; kernel_rfl) | (rw [if_neg (by decide +kernel)]; exact ⟨rfl, rfl⟩))
    (fun os started H enc _ => lifted os started H enc)
theorem proved : Rows.SpanMeetsSaid := over
end Go.Proofs.Ytecnonmcmdaopaa.spanMeets
