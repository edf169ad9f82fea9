/- The statement SpanGrows: of larger spans the sums, differences, meetings, joins and scaled spans are larger, and the width does not decrease. Conditions: none. -/
import Derived.Test.YtecnonmcmdaopaaSpEncloses
namespace Go.Proofs.Ytecnonmcmdaopaa.spanGrows
open Go.ChangeShapes Go.WideShapes Go.ChangeAt Go.RowKit Go.Joins Go.Deep Sp spanEncloses
set_option linter.unusedVariables false
set_option maxRecDepth 100000
set_option maxHeartbeats 8000000 in
theorem walk_out (a0 a1 : Int) (wa0 : I64 a0) (wa1 : I64 a1) (b0 b1 : Int) (wb0 : I64 b0) (wb1 : I64 b1) (c0 c1 : Int) (wc0 : I64 c0) (wc1 : I64 c1) (d0 d1 : Int) (wd0 : I64 d0) (wd1 : I64 d1) (x : Int) (wx : I64 x) (y : Int) (wy : I64 y) (w : World) (ho : (decide (a0 ≤ a1) && decide (b0 ≤ b1) && decide (c0 ≤ a0 ∧ a1 ≤ c1) && decide (d0 ≤ b0 ∧ b1 ≤ d1)) = false) : Calls Try.prog 6 #[sp a0 a1, sp b0 b1, sp c0 c1, sp d0 d1, .int .i64 x, .int .i64 y] w (IsTrue w) := by
  have SM := Lib.hid (fun W => small_any W)
  have R1 := Lib.hid (fun W => right_any a0 a1 W)
  have R2 := Lib.hid (fun W => right_any b0 b1 W)
  have V1 := Lib.hid (fun W => within_any a0 a1 c0 c1 W)
  have V2 := Lib.hid (fun W => within_any b0 b1 d0 d1 W)
  unfold sp at *
  clear wa0 wa1 wb0 wb1 wc0 wc1 wd0 wd1 wx wy
  generalize decide (a0 ≤ a1) = f1 at *
  generalize decide (b0 ≤ b1) = f2 at *
  generalize decide (c0 ≤ a0 ∧ a1 ≤ c1) = f3 at *
  generalize decide (d0 ≤ b0 ∧ b1 ≤ d1) = f4 at *
  cases f1 with
  | false =>
    clear ho
    have HB0 := Lib.hid (below_self w)
    have HB1 := Lib.hid (below_trans HB0.out (below_alloc w (.cells #[.int .i64 a0, .int .i64 a1] 23)))
    have A_1 := Lib.hid (Cl.at (w := w) (x := a0) (y := a1) (g := w.heap.size) (by simp))
    clear HB0 
    have HB2 := Lib.hid (below_trans HB1.out (below_alloc (w.alloc (.cells #[.int .i64 a0, .int .i64 a1] 23)) (.cells #[.int .i64 b0, .int .i64 b1] 23)))
    have A_2 := Lib.hid (A_1.out.alloc (.cells #[.int .i64 b0, .int .i64 b1] 23))
    have B_2 := Lib.hid (Cl.at (w := (w.alloc (.cells #[.int .i64 a0, .int .i64 a1] 23))) (x := b0) (y := b1) (g := w.heap.size + 1) (by simp))
    clear HB1 A_1
    have HB3 := Lib.hid (below_trans HB2.out (below_alloc ((w.alloc (.cells #[.int .i64 a0, .int .i64 a1] 23)).alloc (.cells #[.int .i64 b0, .int .i64 b1] 23)) (.cells #[.int .i64 c0, .int .i64 c1] 23)))
    have A_3 := Lib.hid (A_2.out.alloc (.cells #[.int .i64 c0, .int .i64 c1] 23))
    have B_3 := Lib.hid (B_2.out.alloc (.cells #[.int .i64 c0, .int .i64 c1] 23))
    have C_3 := Lib.hid (Cl.at (w := ((w.alloc (.cells #[.int .i64 a0, .int .i64 a1] 23)).alloc (.cells #[.int .i64 b0, .int .i64 b1] 23))) (x := c0) (y := c1) (g := w.heap.size + 1 + 1) (by simp))
    clear HB2 A_2 B_2
    have HB4 := Lib.hid (below_trans HB3.out (below_alloc (((w.alloc (.cells #[.int .i64 a0, .int .i64 a1] 23)).alloc (.cells #[.int .i64 b0, .int .i64 b1] 23)).alloc (.cells #[.int .i64 c0, .int .i64 c1] 23)) (.cells #[.int .i64 d0, .int .i64 d1] 23)))
    have A_4 := Lib.hid (A_3.out.alloc (.cells #[.int .i64 d0, .int .i64 d1] 23))
    have B_4 := Lib.hid (B_3.out.alloc (.cells #[.int .i64 d0, .int .i64 d1] 23))
    have C_4 := Lib.hid (C_3.out.alloc (.cells #[.int .i64 d0, .int .i64 d1] 23))
    have D_4 := Lib.hid (Cl.at (w := (((w.alloc (.cells #[.int .i64 a0, .int .i64 a1] 23)).alloc (.cells #[.int .i64 b0, .int .i64 b1] 23)).alloc (.cells #[.int .i64 c0, .int .i64 c1] 23))) (x := d0) (y := d1) (g := w.heap.size + 1 + 1 + 1) (by simp))
    clear HB3 A_3 B_3 C_3
    go_enter Try.func6, Try.ntmps6
    have cA0 := A_4.out.1
    have cA1 := A_4.out.2
    have cB0 := B_4.out.1
    have cB1 := B_4.out.2
    have cC0 := C_4.out.1
    have cC1 := C_4.out.2
    have cD0 := D_4.out.1
    have cD1 := D_4.out.2
    go_wp2_with fail
    clear cA0 cA1 cB0 cB1 cC0 cC1 cD0 cD1
    refine (SM.out _).mono ?_
    rintro e w5 ⟨rfl, hb⟩
    have HB5 := Lib.hid (below_trans HB4.out hb)
    have A_5 := Lib.hid (A_4.out.below hb)
    have B_5 := Lib.hid (B_4.out.below hb)
    have C_5 := Lib.hid (C_4.out.below hb)
    have D_5 := Lib.hid (D_4.out.below hb)
    clear hb HB4 A_4 B_4 C_4 D_4
    have cA0 := A_5.out.1
    have cA1 := A_5.out.2
    have cB0 := B_5.out.1
    have cB1 := B_5.out.2
    have cC0 := C_5.out.1
    have cC1 := C_5.out.2
    have cD0 := D_5.out.1
    have cD1 := D_5.out.2
    go_wp2_with fail
    clear cA0 cA1 cB0 cB1 cC0 cC1 cD0 cD1
    refine (R1.out _).mono ?_
    rintro e w6 ⟨rfl, hb⟩
    have HB6 := Lib.hid (below_trans HB5.out hb)
    have A_6 := Lib.hid (A_5.out.below hb)
    have B_6 := Lib.hid (B_5.out.below hb)
    have C_6 := Lib.hid (C_5.out.below hb)
    have D_6 := Lib.hid (D_5.out.below hb)
    clear hb HB5 A_5 B_5 C_5 D_5
    have cA0 := A_6.out.1
    have cA1 := A_6.out.2
    have cB0 := B_6.out.1
    have cB1 := B_6.out.2
    have cC0 := C_6.out.1
    have cC1 := C_6.out.2
    have cD0 := D_6.out.1
    have cD1 := D_6.out.2
    go_wp2_with fail
    go_ret
    exact ⟨rfl, HB6.out⟩
  | true =>
    cases f2 with
    | false =>
      clear ho
      have HB0 := Lib.hid (below_self w)
      have HB1 := Lib.hid (below_trans HB0.out (below_alloc w (.cells #[.int .i64 a0, .int .i64 a1] 23)))
      have A_1 := Lib.hid (Cl.at (w := w) (x := a0) (y := a1) (g := w.heap.size) (by simp))
      clear HB0 
      have HB2 := Lib.hid (below_trans HB1.out (below_alloc (w.alloc (.cells #[.int .i64 a0, .int .i64 a1] 23)) (.cells #[.int .i64 b0, .int .i64 b1] 23)))
      have A_2 := Lib.hid (A_1.out.alloc (.cells #[.int .i64 b0, .int .i64 b1] 23))
      have B_2 := Lib.hid (Cl.at (w := (w.alloc (.cells #[.int .i64 a0, .int .i64 a1] 23))) (x := b0) (y := b1) (g := w.heap.size + 1) (by simp))
      clear HB1 A_1
      have HB3 := Lib.hid (below_trans HB2.out (below_alloc ((w.alloc (.cells #[.int .i64 a0, .int .i64 a1] 23)).alloc (.cells #[.int .i64 b0, .int .i64 b1] 23)) (.cells #[.int .i64 c0, .int .i64 c1] 23)))
      have A_3 := Lib.hid (A_2.out.alloc (.cells #[.int .i64 c0, .int .i64 c1] 23))
      have B_3 := Lib.hid (B_2.out.alloc (.cells #[.int .i64 c0, .int .i64 c1] 23))
      have C_3 := Lib.hid (Cl.at (w := ((w.alloc (.cells #[.int .i64 a0, .int .i64 a1] 23)).alloc (.cells #[.int .i64 b0, .int .i64 b1] 23))) (x := c0) (y := c1) (g := w.heap.size + 1 + 1) (by simp))
      clear HB2 A_2 B_2
      have HB4 := Lib.hid (below_trans HB3.out (below_alloc (((w.alloc (.cells #[.int .i64 a0, .int .i64 a1] 23)).alloc (.cells #[.int .i64 b0, .int .i64 b1] 23)).alloc (.cells #[.int .i64 c0, .int .i64 c1] 23)) (.cells #[.int .i64 d0, .int .i64 d1] 23)))
      have A_4 := Lib.hid (A_3.out.alloc (.cells #[.int .i64 d0, .int .i64 d1] 23))
      have B_4 := Lib.hid (B_3.out.alloc (.cells #[.int .i64 d0, .int .i64 d1] 23))
      have C_4 := Lib.hid (C_3.out.alloc (.cells #[.int .i64 d0, .int .i64 d1] 23))
      have D_4 := Lib.hid (Cl.at (w := (((w.alloc (.cells #[.int .i64 a0, .int .i64 a1] 23)).alloc (.cells #[.int .i64 b0, .int .i64 b1] 23)).alloc (.cells #[.int .i64 c0, .int .i64 c1] 23))) (x := d0) (y := d1) (g := w.heap.size + 1 + 1 + 1) (by simp))
      clear HB3 A_3 B_3 C_3
      go_enter Try.func6, Try.ntmps6
      have cA0 := A_4.out.1
      have cA1 := A_4.out.2
      have cB0 := B_4.out.1
      have cB1 := B_4.out.2
      have cC0 := C_4.out.1
      have cC1 := C_4.out.2
      have cD0 := D_4.out.1
      have cD1 := D_4.out.2
      go_wp2_with fail
      clear cA0 cA1 cB0 cB1 cC0 cC1 cD0 cD1
      refine (SM.out _).mono ?_
      rintro e w5 ⟨rfl, hb⟩
      have HB5 := Lib.hid (below_trans HB4.out hb)
      have A_5 := Lib.hid (A_4.out.below hb)
      have B_5 := Lib.hid (B_4.out.below hb)
      have C_5 := Lib.hid (C_4.out.below hb)
      have D_5 := Lib.hid (D_4.out.below hb)
      clear hb HB4 A_4 B_4 C_4 D_4
      have cA0 := A_5.out.1
      have cA1 := A_5.out.2
      have cB0 := B_5.out.1
      have cB1 := B_5.out.2
      have cC0 := C_5.out.1
      have cC1 := C_5.out.2
      have cD0 := D_5.out.1
      have cD1 := D_5.out.2
      go_wp2_with fail
      clear cA0 cA1 cB0 cB1 cC0 cC1 cD0 cD1
      refine (R1.out _).mono ?_
      rintro e w6 ⟨rfl, hb⟩
      have HB6 := Lib.hid (below_trans HB5.out hb)
      have A_6 := Lib.hid (A_5.out.below hb)
      have B_6 := Lib.hid (B_5.out.below hb)
      have C_6 := Lib.hid (C_5.out.below hb)
      have D_6 := Lib.hid (D_5.out.below hb)
      clear hb HB5 A_5 B_5 C_5 D_5
      have cA0 := A_6.out.1
      have cA1 := A_6.out.2
      have cB0 := B_6.out.1
      have cB1 := B_6.out.2
      have cC0 := C_6.out.1
      have cC1 := C_6.out.2
      have cD0 := D_6.out.1
      have cD1 := D_6.out.2
      go_wp2_with fail
      clear cA0 cA1 cB0 cB1 cC0 cC1 cD0 cD1
      refine (R2.out _).mono ?_
      rintro e w7 ⟨rfl, hb⟩
      have HB7 := Lib.hid (below_trans HB6.out hb)
      have A_7 := Lib.hid (A_6.out.below hb)
      have B_7 := Lib.hid (B_6.out.below hb)
      have C_7 := Lib.hid (C_6.out.below hb)
      have D_7 := Lib.hid (D_6.out.below hb)
      clear hb HB6 A_6 B_6 C_6 D_6
      have cA0 := A_7.out.1
      have cA1 := A_7.out.2
      have cB0 := B_7.out.1
      have cB1 := B_7.out.2
      have cC0 := C_7.out.1
      have cC1 := C_7.out.2
      have cD0 := D_7.out.1
      have cD1 := D_7.out.2
      go_wp2_with fail
      go_ret
      exact ⟨rfl, HB7.out⟩
    | true =>
      cases f3 with
      | false =>
        clear ho
        have HB0 := Lib.hid (below_self w)
        have HB1 := Lib.hid (below_trans HB0.out (below_alloc w (.cells #[.int .i64 a0, .int .i64 a1] 23)))
        have A_1 := Lib.hid (Cl.at (w := w) (x := a0) (y := a1) (g := w.heap.size) (by simp))
        clear HB0 
        have HB2 := Lib.hid (below_trans HB1.out (below_alloc (w.alloc (.cells #[.int .i64 a0, .int .i64 a1] 23)) (.cells #[.int .i64 b0, .int .i64 b1] 23)))
        have A_2 := Lib.hid (A_1.out.alloc (.cells #[.int .i64 b0, .int .i64 b1] 23))
        have B_2 := Lib.hid (Cl.at (w := (w.alloc (.cells #[.int .i64 a0, .int .i64 a1] 23))) (x := b0) (y := b1) (g := w.heap.size + 1) (by simp))
        clear HB1 A_1
        have HB3 := Lib.hid (below_trans HB2.out (below_alloc ((w.alloc (.cells #[.int .i64 a0, .int .i64 a1] 23)).alloc (.cells #[.int .i64 b0, .int .i64 b1] 23)) (.cells #[.int .i64 c0, .int .i64 c1] 23)))
        have A_3 := Lib.hid (A_2.out.alloc (.cells #[.int .i64 c0, .int .i64 c1] 23))
        have B_3 := Lib.hid (B_2.out.alloc (.cells #[.int .i64 c0, .int .i64 c1] 23))
        have C_3 := Lib.hid (Cl.at (w := ((w.alloc (.cells #[.int .i64 a0, .int .i64 a1] 23)).alloc (.cells #[.int .i64 b0, .int .i64 b1] 23))) (x := c0) (y := c1) (g := w.heap.size + 1 + 1) (by simp))
        clear HB2 A_2 B_2
        have HB4 := Lib.hid (below_trans HB3.out (below_alloc (((w.alloc (.cells #[.int .i64 a0, .int .i64 a1] 23)).alloc (.cells #[.int .i64 b0, .int .i64 b1] 23)).alloc (.cells #[.int .i64 c0, .int .i64 c1] 23)) (.cells #[.int .i64 d0, .int .i64 d1] 23)))
        have A_4 := Lib.hid (A_3.out.alloc (.cells #[.int .i64 d0, .int .i64 d1] 23))
        have B_4 := Lib.hid (B_3.out.alloc (.cells #[.int .i64 d0, .int .i64 d1] 23))
        have C_4 := Lib.hid (C_3.out.alloc (.cells #[.int .i64 d0, .int .i64 d1] 23))
        have D_4 := Lib.hid (Cl.at (w := (((w.alloc (.cells #[.int .i64 a0, .int .i64 a1] 23)).alloc (.cells #[.int .i64 b0, .int .i64 b1] 23)).alloc (.cells #[.int .i64 c0, .int .i64 c1] 23))) (x := d0) (y := d1) (g := w.heap.size + 1 + 1 + 1) (by simp))
        clear HB3 A_3 B_3 C_3
        go_enter Try.func6, Try.ntmps6
        have cA0 := A_4.out.1
        have cA1 := A_4.out.2
        have cB0 := B_4.out.1
        have cB1 := B_4.out.2
        have cC0 := C_4.out.1
        have cC1 := C_4.out.2
        have cD0 := D_4.out.1
        have cD1 := D_4.out.2
        go_wp2_with fail
        clear cA0 cA1 cB0 cB1 cC0 cC1 cD0 cD1
        refine (SM.out _).mono ?_
        rintro e w5 ⟨rfl, hb⟩
        have HB5 := Lib.hid (below_trans HB4.out hb)
        have A_5 := Lib.hid (A_4.out.below hb)
        have B_5 := Lib.hid (B_4.out.below hb)
        have C_5 := Lib.hid (C_4.out.below hb)
        have D_5 := Lib.hid (D_4.out.below hb)
        clear hb HB4 A_4 B_4 C_4 D_4
        have cA0 := A_5.out.1
        have cA1 := A_5.out.2
        have cB0 := B_5.out.1
        have cB1 := B_5.out.2
        have cC0 := C_5.out.1
        have cC1 := C_5.out.2
        have cD0 := D_5.out.1
        have cD1 := D_5.out.2
        go_wp2_with fail
        clear cA0 cA1 cB0 cB1 cC0 cC1 cD0 cD1
        refine (R1.out _).mono ?_
        rintro e w6 ⟨rfl, hb⟩
        have HB6 := Lib.hid (below_trans HB5.out hb)
        have A_6 := Lib.hid (A_5.out.below hb)
        have B_6 := Lib.hid (B_5.out.below hb)
        have C_6 := Lib.hid (C_5.out.below hb)
        have D_6 := Lib.hid (D_5.out.below hb)
        clear hb HB5 A_5 B_5 C_5 D_5
        have cA0 := A_6.out.1
        have cA1 := A_6.out.2
        have cB0 := B_6.out.1
        have cB1 := B_6.out.2
        have cC0 := C_6.out.1
        have cC1 := C_6.out.2
        have cD0 := D_6.out.1
        have cD1 := D_6.out.2
        go_wp2_with fail
        clear cA0 cA1 cB0 cB1 cC0 cC1 cD0 cD1
        refine (R2.out _).mono ?_
        rintro e w7 ⟨rfl, hb⟩
        have HB7 := Lib.hid (below_trans HB6.out hb)
        have A_7 := Lib.hid (A_6.out.below hb)
        have B_7 := Lib.hid (B_6.out.below hb)
        have C_7 := Lib.hid (C_6.out.below hb)
        have D_7 := Lib.hid (D_6.out.below hb)
        clear hb HB6 A_6 B_6 C_6 D_6
        have cA0 := A_7.out.1
        have cA1 := A_7.out.2
        have cB0 := B_7.out.1
        have cB1 := B_7.out.2
        have cC0 := C_7.out.1
        have cC1 := C_7.out.2
        have cD0 := D_7.out.1
        have cD1 := D_7.out.2
        go_wp2_with fail
        clear cA0 cA1 cB0 cB1 cC0 cC1 cD0 cD1
        refine (V1.out _).mono ?_
        rintro e w8 ⟨rfl, hb⟩
        have HB8 := Lib.hid (below_trans HB7.out hb)
        have A_8 := Lib.hid (A_7.out.below hb)
        have B_8 := Lib.hid (B_7.out.below hb)
        have C_8 := Lib.hid (C_7.out.below hb)
        have D_8 := Lib.hid (D_7.out.below hb)
        clear hb HB7 A_7 B_7 C_7 D_7
        have cA0 := A_8.out.1
        have cA1 := A_8.out.2
        have cB0 := B_8.out.1
        have cB1 := B_8.out.2
        have cC0 := C_8.out.1
        have cC1 := C_8.out.2
        have cD0 := D_8.out.1
        have cD1 := D_8.out.2
        go_wp2_with fail
        go_ret
        exact ⟨rfl, HB8.out⟩
      | true =>
        obtain rfl : f4 = false := by simpa using ho
        clear ho
        have HB0 := Lib.hid (below_self w)
        have HB1 := Lib.hid (below_trans HB0.out (below_alloc w (.cells #[.int .i64 a0, .int .i64 a1] 23)))
        have A_1 := Lib.hid (Cl.at (w := w) (x := a0) (y := a1) (g := w.heap.size) (by simp))
        clear HB0 
        have HB2 := Lib.hid (below_trans HB1.out (below_alloc (w.alloc (.cells #[.int .i64 a0, .int .i64 a1] 23)) (.cells #[.int .i64 b0, .int .i64 b1] 23)))
        have A_2 := Lib.hid (A_1.out.alloc (.cells #[.int .i64 b0, .int .i64 b1] 23))
        have B_2 := Lib.hid (Cl.at (w := (w.alloc (.cells #[.int .i64 a0, .int .i64 a1] 23))) (x := b0) (y := b1) (g := w.heap.size + 1) (by simp))
        clear HB1 A_1
        have HB3 := Lib.hid (below_trans HB2.out (below_alloc ((w.alloc (.cells #[.int .i64 a0, .int .i64 a1] 23)).alloc (.cells #[.int .i64 b0, .int .i64 b1] 23)) (.cells #[.int .i64 c0, .int .i64 c1] 23)))
        have A_3 := Lib.hid (A_2.out.alloc (.cells #[.int .i64 c0, .int .i64 c1] 23))
        have B_3 := Lib.hid (B_2.out.alloc (.cells #[.int .i64 c0, .int .i64 c1] 23))
        have C_3 := Lib.hid (Cl.at (w := ((w.alloc (.cells #[.int .i64 a0, .int .i64 a1] 23)).alloc (.cells #[.int .i64 b0, .int .i64 b1] 23))) (x := c0) (y := c1) (g := w.heap.size + 1 + 1) (by simp))
        clear HB2 A_2 B_2
        have HB4 := Lib.hid (below_trans HB3.out (below_alloc (((w.alloc (.cells #[.int .i64 a0, .int .i64 a1] 23)).alloc (.cells #[.int .i64 b0, .int .i64 b1] 23)).alloc (.cells #[.int .i64 c0, .int .i64 c1] 23)) (.cells #[.int .i64 d0, .int .i64 d1] 23)))
        have A_4 := Lib.hid (A_3.out.alloc (.cells #[.int .i64 d0, .int .i64 d1] 23))
        have B_4 := Lib.hid (B_3.out.alloc (.cells #[.int .i64 d0, .int .i64 d1] 23))
        have C_4 := Lib.hid (C_3.out.alloc (.cells #[.int .i64 d0, .int .i64 d1] 23))
        have D_4 := Lib.hid (Cl.at (w := (((w.alloc (.cells #[.int .i64 a0, .int .i64 a1] 23)).alloc (.cells #[.int .i64 b0, .int .i64 b1] 23)).alloc (.cells #[.int .i64 c0, .int .i64 c1] 23))) (x := d0) (y := d1) (g := w.heap.size + 1 + 1 + 1) (by simp))
        clear HB3 A_3 B_3 C_3
        go_enter Try.func6, Try.ntmps6
        have cA0 := A_4.out.1
        have cA1 := A_4.out.2
        have cB0 := B_4.out.1
        have cB1 := B_4.out.2
        have cC0 := C_4.out.1
        have cC1 := C_4.out.2
        have cD0 := D_4.out.1
        have cD1 := D_4.out.2
        go_wp2_with fail
        clear cA0 cA1 cB0 cB1 cC0 cC1 cD0 cD1
        refine (SM.out _).mono ?_
        rintro e w5 ⟨rfl, hb⟩
        have HB5 := Lib.hid (below_trans HB4.out hb)
        have A_5 := Lib.hid (A_4.out.below hb)
        have B_5 := Lib.hid (B_4.out.below hb)
        have C_5 := Lib.hid (C_4.out.below hb)
        have D_5 := Lib.hid (D_4.out.below hb)
        clear hb HB4 A_4 B_4 C_4 D_4
        have cA0 := A_5.out.1
        have cA1 := A_5.out.2
        have cB0 := B_5.out.1
        have cB1 := B_5.out.2
        have cC0 := C_5.out.1
        have cC1 := C_5.out.2
        have cD0 := D_5.out.1
        have cD1 := D_5.out.2
        go_wp2_with fail
        clear cA0 cA1 cB0 cB1 cC0 cC1 cD0 cD1
        refine (R1.out _).mono ?_
        rintro e w6 ⟨rfl, hb⟩
        have HB6 := Lib.hid (below_trans HB5.out hb)
        have A_6 := Lib.hid (A_5.out.below hb)
        have B_6 := Lib.hid (B_5.out.below hb)
        have C_6 := Lib.hid (C_5.out.below hb)
        have D_6 := Lib.hid (D_5.out.below hb)
        clear hb HB5 A_5 B_5 C_5 D_5
        have cA0 := A_6.out.1
        have cA1 := A_6.out.2
        have cB0 := B_6.out.1
        have cB1 := B_6.out.2
        have cC0 := C_6.out.1
        have cC1 := C_6.out.2
        have cD0 := D_6.out.1
        have cD1 := D_6.out.2
        go_wp2_with fail
        clear cA0 cA1 cB0 cB1 cC0 cC1 cD0 cD1
        refine (R2.out _).mono ?_
        rintro e w7 ⟨rfl, hb⟩
        have HB7 := Lib.hid (below_trans HB6.out hb)
        have A_7 := Lib.hid (A_6.out.below hb)
        have B_7 := Lib.hid (B_6.out.below hb)
        have C_7 := Lib.hid (C_6.out.below hb)
        have D_7 := Lib.hid (D_6.out.below hb)
        clear hb HB6 A_6 B_6 C_6 D_6
        have cA0 := A_7.out.1
        have cA1 := A_7.out.2
        have cB0 := B_7.out.1
        have cB1 := B_7.out.2
        have cC0 := C_7.out.1
        have cC1 := C_7.out.2
        have cD0 := D_7.out.1
        have cD1 := D_7.out.2
        go_wp2_with fail
        clear cA0 cA1 cB0 cB1 cC0 cC1 cD0 cD1
        refine (V1.out _).mono ?_
        rintro e w8 ⟨rfl, hb⟩
        have HB8 := Lib.hid (below_trans HB7.out hb)
        have A_8 := Lib.hid (A_7.out.below hb)
        have B_8 := Lib.hid (B_7.out.below hb)
        have C_8 := Lib.hid (C_7.out.below hb)
        have D_8 := Lib.hid (D_7.out.below hb)
        clear hb HB7 A_7 B_7 C_7 D_7
        have cA0 := A_8.out.1
        have cA1 := A_8.out.2
        have cB0 := B_8.out.1
        have cB1 := B_8.out.2
        have cC0 := C_8.out.1
        have cC1 := C_8.out.2
        have cD0 := D_8.out.1
        have cD1 := D_8.out.2
        go_wp2_with fail
        clear cA0 cA1 cB0 cB1 cC0 cC1 cD0 cD1
        refine (V2.out _).mono ?_
        rintro e w9 ⟨rfl, hb⟩
        have HB9 := Lib.hid (below_trans HB8.out hb)
        have A_9 := Lib.hid (A_8.out.below hb)
        have B_9 := Lib.hid (B_8.out.below hb)
        have C_9 := Lib.hid (C_8.out.below hb)
        have D_9 := Lib.hid (D_8.out.below hb)
        clear hb HB8 A_8 B_8 C_8 D_8
        have cA0 := A_9.out.1
        have cA1 := A_9.out.2
        have cB0 := B_9.out.1
        have cB1 := B_9.out.2
        have cC0 := C_9.out.1
        have cC1 := C_9.out.2
        have cD0 := D_9.out.1
        have cD1 := D_9.out.2
        go_wp2_with fail
        go_ret
        exact ⟨rfl, HB9.out⟩
theorem meet_le {a0 a1 b0 b1 c0 c1 d0 d1 : Int} (h3 : c0 ≤ a0 ∧ a1 ≤ c1) (h4 : d0 ≤ b0 ∧ b1 ≤ d1) (h : mB a0 a1 b0 b1 = true) :
    mB c0 c1 d0 d1 = true ∧ mL c0 c1 d0 d1 ≤ mL a0 a1 b0 b1 ∧ mH a0 a1 b0 b1 ≤ mH c0 c1 d0 d1 := by
  have h' : max a0 b0 ≤ min a1 b1 := of_decide_eq_true h
  have h2 : mB c0 c1 d0 d1 = true := decide_eq_true (by omega)
  refine ⟨h2, ?_, ?_⟩
  · unfold mL; rw [if_pos h, if_pos h2]; omega
  · unfold mH; rw [if_pos h, if_pos h2]; omega
theorem scale_le {a0 a1 c0 c1 x y : Int} (h1 : a0 ≤ a1) (h3 : c0 ≤ a0 ∧ a1 ≤ c1) (h : okB c0 c1 x y = true) :
    okB a0 a1 x y = true ∧ loV c0 c1 x y ≤ loV a0 a1 x y ∧ hiV a0 a1 x y ≤ hiV c0 c1 x y := by
  obtain ⟨k1, k2, k3, k4, k5, k6⟩ := ok_of h
  have s0 := scB_of (d := 0) h3.1 (show a0 ≤ c1 by omega) k2 k3
  have s1 := scB_of (d := 0) (show c0 ≤ a1 by omega) h3.2 k2 k3
  have g1 := scQ_le h3.1 k2 s0
  have g2 := scU_le h3.2 s1 k3
  have h2 : okB a0 a1 x y = true := by unfold okB; rw [decide_eq_true h1, s0, s1, decide_eq_true (by omega : hiS a1 x y ≤ 1125899906842624)]; rfl
  obtain ⟨_, _, _, _, l5, l6⟩ := ok_of h2
  exact ⟨h2, by rw [k5, l5]; exact g1, by rw [k6, l6]; exact g2⟩
theorem width_le {a0 a1 c0 c1 : Int} (h3 : c0 ≤ a0 ∧ a1 ≤ c1) : lim (a1 - a0) ≤ lim (c1 - c0) := lim_le (by omega)
set_option maxHeartbeats 16000000 in
theorem walk_in (a0 a1 : Int) (wa0 : I64 a0) (wa1 : I64 a1) (b0 b1 : Int) (wb0 : I64 b0) (wb1 : I64 b1) (c0 c1 : Int) (wc0 : I64 c0) (wc1 : I64 c1) (d0 d1 : Int) (wd0 : I64 d0) (wd1 : I64 d1) (x : Int) (wx : I64 x) (y : Int) (wy : I64 y) (w : World) (h1 : a0 ≤ a1) (h2 : b0 ≤ b1) (h3 : c0 ≤ a0 ∧ a1 ≤ c1) (h4 : d0 ≤ b0 ∧ b1 ≤ d1) : Calls Try.prog 6 #[sp a0 a1, sp b0 b1, sp c0 c1, sp d0 d1, .int .i64 x, .int .i64 y] w (IsTrue w) := by
  have SM := Lib.hid (fun W => small_any W)
  have R1 := Lib.hid (fun W => right_any a0 a1 W)
  have R2 := Lib.hid (fun W => right_any b0 b1 W)
  have V1 := Lib.hid (fun W => within_any a0 a1 c0 c1 W)
  have V2 := Lib.hid (fun W => within_any b0 b1 d0 d1 W)
  rw [decide_eq_true h1] at R1
  rw [decide_eq_true h2] at R2
  rw [decide_eq_true h3] at V1
  rw [decide_eq_true h4] at V2
  have A1 := Lib.hid (fun W => add_sp a0 a1 b0 b1 wa0 wa1 wb0 wb1 W)
  have A2 := Lib.hid (fun W => add_sp c0 c1 d0 d1 wc0 wc1 wd0 wd1 W)
  have U1 := Lib.hid (fun W => sub_sp a0 a1 b0 b1 wa0 wa1 wb0 wb1 W)
  have U2 := Lib.hid (fun W => sub_sp c0 c1 d0 d1 wc0 wc1 wd0 wd1 W)
  have V3 := Lib.hid (fun W => within_any (lim (a0 + b0)) (lim (a1 + b1)) (lim (c0 + d0)) (lim (c1 + d1)) W)
  rw [decide_eq_true ⟨lim_le (by omega), lim_le (by omega)⟩] at V3
  have V4 := Lib.hid (fun W => within_any (lim (a0 - b1)) (lim (a1 - b0)) (lim (c0 - d1)) (lim (c1 - d0)) W)
  rw [decide_eq_true ⟨lim_le (by omega), lim_le (by omega)⟩] at V4
  have D1 := Lib.hid (fun W => width_any a0 a1 wa0 wa1 W)
  have D2 := Lib.hid (fun W => width_any c0 c1 wc0 wc1 W)
  have dw : decide (lim (c1 - c0) < lim (a1 - a0)) = false := decide_eq_false (by have := width_le h3; omega)
  have M1 := Lib.hid (fun W => meet_any a0 a1 b0 b1 W)
  have M2 := Lib.hid (fun W => meet_any c0 c1 d0 d1 W)
  have S1 := Lib.hid (fun W => scale_sp a0 a1 x y W)
  have S2 := Lib.hid (fun W => scale_sp c0 c1 x y W)
  have V5 := Lib.hid (fun W => within_any (mL a0 a1 b0 b1) (mH a0 a1 b0 b1) (mL c0 c1 d0 d1) (mH c0 c1 d0 d1) W)
  have V6 := Lib.hid (fun W => within_any (loV a0 a1 x y) (hiV a0 a1 x y) (loV c0 c1 x y) (hiV c0 c1 x y) W)
  have J1 := Lib.hid (fun W => join_any a0 a1 b0 b1 W)
  have J2 := Lib.hid (fun W => join_any c0 c1 d0 d1 W)
  have V7 := Lib.hid (fun W => within_any (min a0 b0) (max a1 b1) (min c0 d0) (max c1 d1) W)
  rw [decide_eq_true (show min c0 d0 ≤ min a0 b0 ∧ max a1 b1 ≤ max c1 d1 by omega)] at V7
  have k1 : mB a0 a1 b0 b1 = true → mB c0 c1 d0 d1 = true ∧ decide (mL c0 c1 d0 d1 ≤ mL a0 a1 b0 b1 ∧ mH a0 a1 b0 b1 ≤ mH c0 c1 d0 d1) = true := fun h => ⟨(meet_le h3 h4 h).1, decide_eq_true (meet_le h3 h4 h).2⟩
  have k2 : okB c0 c1 x y = true → okB a0 a1 x y = true ∧ decide (loV c0 c1 x y ≤ loV a0 a1 x y ∧ hiV a0 a1 x y ≤ hiV c0 c1 x y) = true := fun h => ⟨(scale_le h1 h3 h).1, decide_eq_true (scale_le h1 h3 h).2⟩
  clear h1 h2 h3 h4 wa0 wa1 wb0 wb1 wc0 wc1 wd0 wd1 wx wy
  unfold sp at *
  generalize decide (mL c0 c1 d0 d1 ≤ mL a0 a1 b0 b1 ∧ mH a0 a1 b0 b1 ≤ mH c0 c1 d0 d1) = f5 at *
  generalize decide (loV c0 c1 x y ≤ loV a0 a1 x y ∧ hiV a0 a1 x y ≤ hiV c0 c1 x y) = f6 at *
  generalize mL a0 a1 b0 b1 = m0 at *
  generalize mH a0 a1 b0 b1 = m1 at *
  generalize mB a0 a1 b0 b1 = one at *
  generalize mL c0 c1 d0 d1 = o0 at *
  generalize mH c0 c1 d0 d1 = o1 at *
  generalize mB c0 c1 d0 d1 = two at *
  generalize loV a0 a1 x y = x0 at *
  generalize hiV a0 a1 x y = x1 at *
  generalize okB a0 a1 x y = three at *
  generalize loV c0 c1 x y = y0 at *
  generalize hiV c0 c1 x y = y1 at *
  generalize okB c0 c1 x y = four at *
  generalize lim (a0 + b0) = p0 at *
  generalize lim (a1 + b1) = p1 at *
  generalize lim (c0 + d0) = p2 at *
  generalize lim (c1 + d1) = p3 at *
  generalize lim (a0 - b1) = q0 at *
  generalize lim (a1 - b0) = q1 at *
  generalize lim (c0 - d1) = q2 at *
  generalize lim (c1 - d0) = q3 at *
  generalize lim (a1 - a0) = e0 at *
  generalize lim (c1 - c0) = e1 at *
  generalize min a0 b0 = j0 at *
  generalize max a1 b1 = j1 at *
  generalize min c0 d0 = j2 at *
  generalize max c1 d1 = j3 at *
  cases one with
  | false =>
    clear k1
    cases four with
    | false =>
      clear k2
      have HB0 := Lib.hid (below_self w)
      have HB1 := Lib.hid (below_trans HB0.out (below_alloc w (.cells #[.int .i64 a0, .int .i64 a1] 23)))
      have A_1 := Lib.hid (Cl.at (w := w) (x := a0) (y := a1) (g := w.heap.size) (by simp))
      clear HB0 
      have HB2 := Lib.hid (below_trans HB1.out (below_alloc (w.alloc (.cells #[.int .i64 a0, .int .i64 a1] 23)) (.cells #[.int .i64 b0, .int .i64 b1] 23)))
      have A_2 := Lib.hid (A_1.out.alloc (.cells #[.int .i64 b0, .int .i64 b1] 23))
      have B_2 := Lib.hid (Cl.at (w := (w.alloc (.cells #[.int .i64 a0, .int .i64 a1] 23))) (x := b0) (y := b1) (g := w.heap.size + 1) (by simp))
      clear HB1 A_1
      have HB3 := Lib.hid (below_trans HB2.out (below_alloc ((w.alloc (.cells #[.int .i64 a0, .int .i64 a1] 23)).alloc (.cells #[.int .i64 b0, .int .i64 b1] 23)) (.cells #[.int .i64 c0, .int .i64 c1] 23)))
      have A_3 := Lib.hid (A_2.out.alloc (.cells #[.int .i64 c0, .int .i64 c1] 23))
      have B_3 := Lib.hid (B_2.out.alloc (.cells #[.int .i64 c0, .int .i64 c1] 23))
      have C_3 := Lib.hid (Cl.at (w := ((w.alloc (.cells #[.int .i64 a0, .int .i64 a1] 23)).alloc (.cells #[.int .i64 b0, .int .i64 b1] 23))) (x := c0) (y := c1) (g := w.heap.size + 1 + 1) (by simp))
      clear HB2 A_2 B_2
      have HB4 := Lib.hid (below_trans HB3.out (below_alloc (((w.alloc (.cells #[.int .i64 a0, .int .i64 a1] 23)).alloc (.cells #[.int .i64 b0, .int .i64 b1] 23)).alloc (.cells #[.int .i64 c0, .int .i64 c1] 23)) (.cells #[.int .i64 d0, .int .i64 d1] 23)))
      have A_4 := Lib.hid (A_3.out.alloc (.cells #[.int .i64 d0, .int .i64 d1] 23))
      have B_4 := Lib.hid (B_3.out.alloc (.cells #[.int .i64 d0, .int .i64 d1] 23))
      have C_4 := Lib.hid (C_3.out.alloc (.cells #[.int .i64 d0, .int .i64 d1] 23))
      have D_4 := Lib.hid (Cl.at (w := (((w.alloc (.cells #[.int .i64 a0, .int .i64 a1] 23)).alloc (.cells #[.int .i64 b0, .int .i64 b1] 23)).alloc (.cells #[.int .i64 c0, .int .i64 c1] 23))) (x := d0) (y := d1) (g := w.heap.size + 1 + 1 + 1) (by simp))
      clear HB3 A_3 B_3 C_3
      go_enter Try.func6, Try.ntmps6
      have cA0 := A_4.out.1
      have cA1 := A_4.out.2
      have cB0 := B_4.out.1
      have cB1 := B_4.out.2
      have cC0 := C_4.out.1
      have cC1 := C_4.out.2
      have cD0 := D_4.out.1
      have cD1 := D_4.out.2
      go_wp2_with fail
      clear cA0 cA1 cB0 cB1 cC0 cC1 cD0 cD1
      refine (SM.out _).mono ?_
      rintro e w5 ⟨rfl, hb⟩
      have HB5 := Lib.hid (below_trans HB4.out hb)
      have A_5 := Lib.hid (A_4.out.below hb)
      have B_5 := Lib.hid (B_4.out.below hb)
      have C_5 := Lib.hid (C_4.out.below hb)
      have D_5 := Lib.hid (D_4.out.below hb)
      clear hb HB4 A_4 B_4 C_4 D_4
      have cA0 := A_5.out.1
      have cA1 := A_5.out.2
      have cB0 := B_5.out.1
      have cB1 := B_5.out.2
      have cC0 := C_5.out.1
      have cC1 := C_5.out.2
      have cD0 := D_5.out.1
      have cD1 := D_5.out.2
      go_wp2_with fail
      clear cA0 cA1 cB0 cB1 cC0 cC1 cD0 cD1
      refine (R1.out _).mono ?_
      rintro e w6 ⟨rfl, hb⟩
      have HB6 := Lib.hid (below_trans HB5.out hb)
      have A_6 := Lib.hid (A_5.out.below hb)
      have B_6 := Lib.hid (B_5.out.below hb)
      have C_6 := Lib.hid (C_5.out.below hb)
      have D_6 := Lib.hid (D_5.out.below hb)
      clear hb HB5 A_5 B_5 C_5 D_5
      have cA0 := A_6.out.1
      have cA1 := A_6.out.2
      have cB0 := B_6.out.1
      have cB1 := B_6.out.2
      have cC0 := C_6.out.1
      have cC1 := C_6.out.2
      have cD0 := D_6.out.1
      have cD1 := D_6.out.2
      go_wp2_with fail
      clear cA0 cA1 cB0 cB1 cC0 cC1 cD0 cD1
      refine (R2.out _).mono ?_
      rintro e w7 ⟨rfl, hb⟩
      have HB7 := Lib.hid (below_trans HB6.out hb)
      have A_7 := Lib.hid (A_6.out.below hb)
      have B_7 := Lib.hid (B_6.out.below hb)
      have C_7 := Lib.hid (C_6.out.below hb)
      have D_7 := Lib.hid (D_6.out.below hb)
      clear hb HB6 A_6 B_6 C_6 D_6
      have cA0 := A_7.out.1
      have cA1 := A_7.out.2
      have cB0 := B_7.out.1
      have cB1 := B_7.out.2
      have cC0 := C_7.out.1
      have cC1 := C_7.out.2
      have cD0 := D_7.out.1
      have cD1 := D_7.out.2
      go_wp2_with fail
      clear cA0 cA1 cB0 cB1 cC0 cC1 cD0 cD1
      refine (V1.out _).mono ?_
      rintro e w8 ⟨rfl, hb⟩
      have HB8 := Lib.hid (below_trans HB7.out hb)
      have A_8 := Lib.hid (A_7.out.below hb)
      have B_8 := Lib.hid (B_7.out.below hb)
      have C_8 := Lib.hid (C_7.out.below hb)
      have D_8 := Lib.hid (D_7.out.below hb)
      clear hb HB7 A_7 B_7 C_7 D_7
      have cA0 := A_8.out.1
      have cA1 := A_8.out.2
      have cB0 := B_8.out.1
      have cB1 := B_8.out.2
      have cC0 := C_8.out.1
      have cC1 := C_8.out.2
      have cD0 := D_8.out.1
      have cD1 := D_8.out.2
      go_wp2_with fail
      clear cA0 cA1 cB0 cB1 cC0 cC1 cD0 cD1
      refine (V2.out _).mono ?_
      rintro e w9 ⟨rfl, hb⟩
      have HB9 := Lib.hid (below_trans HB8.out hb)
      have A_9 := Lib.hid (A_8.out.below hb)
      have B_9 := Lib.hid (B_8.out.below hb)
      have C_9 := Lib.hid (C_8.out.below hb)
      have D_9 := Lib.hid (D_8.out.below hb)
      clear hb HB8 A_8 B_8 C_8 D_8
      have cA0 := A_9.out.1
      have cA1 := A_9.out.2
      have cB0 := B_9.out.1
      have cB1 := B_9.out.2
      have cC0 := C_9.out.1
      have cC1 := C_9.out.2
      have cD0 := D_9.out.1
      have cD1 := D_9.out.2
      go_wp2_with fail
      clear cA0 cA1 cB0 cB1 cC0 cC1 cD0 cD1
      --GG
      have HSa := Lib.hid (show ∀ W W', Below W.heap.size W W' → (W.cell? ⟨w.heap.size, 0, none⟩ = some (.int .i64 a0) ∧ W.cell? ⟨w.heap.size, 1, none⟩ = some (.int .i64 a1) ∧ W.cell? ⟨w.heap.size + 1, 0, none⟩ = some (.int .i64 b0) ∧ W.cell? ⟨w.heap.size + 1, 1, none⟩ = some (.int .i64 b1) ∧ W.cell? ⟨w.heap.size + 1 + 1, 0, none⟩ = some (.int .i64 c0) ∧ W.cell? ⟨w.heap.size + 1 + 1, 1, none⟩ = some (.int .i64 c1) ∧ W.cell? ⟨w.heap.size + 1 + 1 + 1, 0, none⟩ = some (.int .i64 d0) ∧ W.cell? ⟨w.heap.size + 1 + 1 + 1, 1, none⟩ = some (.int .i64 d1) ∧ Below w.heap.size w W) → (W'.cell? ⟨w.heap.size, 0, none⟩ = some (.int .i64 a0) ∧ W'.cell? ⟨w.heap.size, 1, none⟩ = some (.int .i64 a1) ∧ W'.cell? ⟨w.heap.size + 1, 0, none⟩ = some (.int .i64 b0) ∧ W'.cell? ⟨w.heap.size + 1, 1, none⟩ = some (.int .i64 b1) ∧ W'.cell? ⟨w.heap.size + 1 + 1, 0, none⟩ = some (.int .i64 c0) ∧ W'.cell? ⟨w.heap.size + 1 + 1, 1, none⟩ = some (.int .i64 c1) ∧ W'.cell? ⟨w.heap.size + 1 + 1 + 1, 0, none⟩ = some (.int .i64 d0) ∧ W'.cell? ⟨w.heap.size + 1 + 1 + 1, 1, none⟩ = some (.int .i64 d1) ∧ Below w.heap.size w W') from fun W W' hb h => by obtain ⟨h0, h1, h2, h3, h4, h5, h6, h7, h8⟩ := h; exact ⟨cell_below hb h0, cell_below hb h1, cell_below hb h2, cell_below hb h3, cell_below hb h4, cell_below hb h5, cell_below hb h6, cell_below hb h7, below_trans h8 hb⟩)
      have ta0 := s_call (S := (fun W => W.cell? ⟨w.heap.size, 0, none⟩ = some (.int .i64 a0) ∧ W.cell? ⟨w.heap.size, 1, none⟩ = some (.int .i64 a1) ∧ W.cell? ⟨w.heap.size + 1, 0, none⟩ = some (.int .i64 b0) ∧ W.cell? ⟨w.heap.size + 1, 1, none⟩ = some (.int .i64 b1) ∧ W.cell? ⟨w.heap.size + 1 + 1, 0, none⟩ = some (.int .i64 c0) ∧ W.cell? ⟨w.heap.size + 1 + 1, 1, none⟩ = some (.int .i64 c1) ∧ W.cell? ⟨w.heap.size + 1 + 1 + 1, 0, none⟩ = some (.int .i64 d0) ∧ W.cell? ⟨w.heap.size + 1 + 1 + 1, 1, none⟩ = some (.int .i64 d1) ∧ Below w.heap.size w W)) HSa.out A1.out
      try dsimp only at ta0
      have Qa0 := Lib.hid ta0
      clear ta0
      have ta1 := s_call (S := (fun W => W.cell? ⟨w.heap.size, 0, none⟩ = some (.int .i64 a0) ∧ W.cell? ⟨w.heap.size, 1, none⟩ = some (.int .i64 a1) ∧ W.cell? ⟨w.heap.size + 1, 0, none⟩ = some (.int .i64 b0) ∧ W.cell? ⟨w.heap.size + 1, 1, none⟩ = some (.int .i64 b1) ∧ W.cell? ⟨w.heap.size + 1 + 1, 0, none⟩ = some (.int .i64 c0) ∧ W.cell? ⟨w.heap.size + 1 + 1, 1, none⟩ = some (.int .i64 c1) ∧ W.cell? ⟨w.heap.size + 1 + 1 + 1, 0, none⟩ = some (.int .i64 d0) ∧ W.cell? ⟨w.heap.size + 1 + 1 + 1, 1, none⟩ = some (.int .i64 d1) ∧ Below w.heap.size w W)) HSa.out A2.out
      try dsimp only at ta1
      have Qa1 := Lib.hid ta1
      clear ta1
      have ta2 := s_call (S := (fun W => W.cell? ⟨w.heap.size, 0, none⟩ = some (.int .i64 a0) ∧ W.cell? ⟨w.heap.size, 1, none⟩ = some (.int .i64 a1) ∧ W.cell? ⟨w.heap.size + 1, 0, none⟩ = some (.int .i64 b0) ∧ W.cell? ⟨w.heap.size + 1, 1, none⟩ = some (.int .i64 b1) ∧ W.cell? ⟨w.heap.size + 1 + 1, 0, none⟩ = some (.int .i64 c0) ∧ W.cell? ⟨w.heap.size + 1 + 1, 1, none⟩ = some (.int .i64 c1) ∧ W.cell? ⟨w.heap.size + 1 + 1 + 1, 0, none⟩ = some (.int .i64 d0) ∧ W.cell? ⟨w.heap.size + 1 + 1 + 1, 1, none⟩ = some (.int .i64 d1) ∧ Below w.heap.size w W)) HSa.out V3.out
      try dsimp only at ta2
      have Qa2 := Lib.hid ta2
      clear ta2
      have ta3 := s_call (S := (fun W => W.cell? ⟨w.heap.size, 0, none⟩ = some (.int .i64 a0) ∧ W.cell? ⟨w.heap.size, 1, none⟩ = some (.int .i64 a1) ∧ W.cell? ⟨w.heap.size + 1, 0, none⟩ = some (.int .i64 b0) ∧ W.cell? ⟨w.heap.size + 1, 1, none⟩ = some (.int .i64 b1) ∧ W.cell? ⟨w.heap.size + 1 + 1, 0, none⟩ = some (.int .i64 c0) ∧ W.cell? ⟨w.heap.size + 1 + 1, 1, none⟩ = some (.int .i64 c1) ∧ W.cell? ⟨w.heap.size + 1 + 1 + 1, 0, none⟩ = some (.int .i64 d0) ∧ W.cell? ⟨w.heap.size + 1 + 1 + 1, 1, none⟩ = some (.int .i64 d1) ∧ Below w.heap.size w W)) HSa.out U1.out
      try dsimp only at ta3
      have Qa3 := Lib.hid ta3
      clear ta3
      have ta4 := s_call (S := (fun W => W.cell? ⟨w.heap.size, 0, none⟩ = some (.int .i64 a0) ∧ W.cell? ⟨w.heap.size, 1, none⟩ = some (.int .i64 a1) ∧ W.cell? ⟨w.heap.size + 1, 0, none⟩ = some (.int .i64 b0) ∧ W.cell? ⟨w.heap.size + 1, 1, none⟩ = some (.int .i64 b1) ∧ W.cell? ⟨w.heap.size + 1 + 1, 0, none⟩ = some (.int .i64 c0) ∧ W.cell? ⟨w.heap.size + 1 + 1, 1, none⟩ = some (.int .i64 c1) ∧ W.cell? ⟨w.heap.size + 1 + 1 + 1, 0, none⟩ = some (.int .i64 d0) ∧ W.cell? ⟨w.heap.size + 1 + 1 + 1, 1, none⟩ = some (.int .i64 d1) ∧ Below w.heap.size w W)) HSa.out U2.out
      try dsimp only at ta4
      have Qa4 := Lib.hid ta4
      clear ta4
      have ta5 := s_call (S := (fun W => W.cell? ⟨w.heap.size, 0, none⟩ = some (.int .i64 a0) ∧ W.cell? ⟨w.heap.size, 1, none⟩ = some (.int .i64 a1) ∧ W.cell? ⟨w.heap.size + 1, 0, none⟩ = some (.int .i64 b0) ∧ W.cell? ⟨w.heap.size + 1, 1, none⟩ = some (.int .i64 b1) ∧ W.cell? ⟨w.heap.size + 1 + 1, 0, none⟩ = some (.int .i64 c0) ∧ W.cell? ⟨w.heap.size + 1 + 1, 1, none⟩ = some (.int .i64 c1) ∧ W.cell? ⟨w.heap.size + 1 + 1 + 1, 0, none⟩ = some (.int .i64 d0) ∧ W.cell? ⟨w.heap.size + 1 + 1 + 1, 1, none⟩ = some (.int .i64 d1) ∧ Below w.heap.size w W)) HSa.out V4.out
      try dsimp only at ta5
      have Qa5 := Lib.hid ta5
      clear ta5
      have ta6 := s_call (S := (fun W => W.cell? ⟨w.heap.size, 0, none⟩ = some (.int .i64 a0) ∧ W.cell? ⟨w.heap.size, 1, none⟩ = some (.int .i64 a1) ∧ W.cell? ⟨w.heap.size + 1, 0, none⟩ = some (.int .i64 b0) ∧ W.cell? ⟨w.heap.size + 1, 1, none⟩ = some (.int .i64 b1) ∧ W.cell? ⟨w.heap.size + 1 + 1, 0, none⟩ = some (.int .i64 c0) ∧ W.cell? ⟨w.heap.size + 1 + 1, 1, none⟩ = some (.int .i64 c1) ∧ W.cell? ⟨w.heap.size + 1 + 1 + 1, 0, none⟩ = some (.int .i64 d0) ∧ W.cell? ⟨w.heap.size + 1 + 1 + 1, 1, none⟩ = some (.int .i64 d1) ∧ Below w.heap.size w W)) HSa.out D1.out
      try dsimp only at ta6
      have Qa6 := Lib.hid ta6
      clear ta6
      have ta7 := s_call (S := (fun W => W.cell? ⟨w.heap.size, 0, none⟩ = some (.int .i64 a0) ∧ W.cell? ⟨w.heap.size, 1, none⟩ = some (.int .i64 a1) ∧ W.cell? ⟨w.heap.size + 1, 0, none⟩ = some (.int .i64 b0) ∧ W.cell? ⟨w.heap.size + 1, 1, none⟩ = some (.int .i64 b1) ∧ W.cell? ⟨w.heap.size + 1 + 1, 0, none⟩ = some (.int .i64 c0) ∧ W.cell? ⟨w.heap.size + 1 + 1, 1, none⟩ = some (.int .i64 c1) ∧ W.cell? ⟨w.heap.size + 1 + 1 + 1, 0, none⟩ = some (.int .i64 d0) ∧ W.cell? ⟨w.heap.size + 1 + 1 + 1, 1, none⟩ = some (.int .i64 d1) ∧ Below w.heap.size w W)) HSa.out D2.out
      try dsimp only at ta7
      have Qa7 := Lib.hid ta7
      clear ta7
      go_region_held3 (fun W => W.cell? ⟨w.heap.size, 0, none⟩ = some (.int .i64 a0) ∧ W.cell? ⟨w.heap.size, 1, none⟩ = some (.int .i64 a1) ∧ W.cell? ⟨w.heap.size + 1, 0, none⟩ = some (.int .i64 b0) ∧ W.cell? ⟨w.heap.size + 1, 1, none⟩ = some (.int .i64 b1) ∧ W.cell? ⟨w.heap.size + 1 + 1, 0, none⟩ = some (.int .i64 c0) ∧ W.cell? ⟨w.heap.size + 1 + 1, 1, none⟩ = some (.int .i64 c1) ∧ W.cell? ⟨w.heap.size + 1 + 1 + 1, 0, none⟩ = some (.int .i64 d0) ∧ W.cell? ⟨w.heap.size + 1 + 1 + 1, 1, none⟩ = some (.int .i64 d1) ∧ Below w.heap.size w W)
        (((try dsimp only); (refine ⟨?_, ?_, ?_, ?_, ?_, ?_, ?_, ?_, ?_⟩ <;> (first | assumption | exact A_9.out.1 | exact A_9.out.2 | exact B_9.out.1 | exact B_9.out.2 | exact C_9.out.1 | exact C_9.out.2 | exact D_9.out.1 | exact D_9.out.2 | exact ⟨HB9.out.os, HB9.out.tape, HB9.out.output, HB9.out.size, HB9.out.block⟩ | go_keep))))
        ((first
          | (go_at_call 19; with_reducible refine (Qa0.out _ ?_).mono ?_; assumption; rintro e w' ⟨rfl, zz0, zz1, zz2, zz3, zz4, zz5, zz6, zz7, zz8⟩)
          | (go_at_call 19; with_reducible refine (Qa1.out _ ?_).mono ?_; assumption; rintro e w' ⟨rfl, zz0, zz1, zz2, zz3, zz4, zz5, zz6, zz7, zz8⟩)
          | (go_at_call 25; with_reducible refine (Qa2.out _ ?_).mono ?_; assumption; rintro e w' ⟨rfl, zz0, zz1, zz2, zz3, zz4, zz5, zz6, zz7, zz8⟩)
          | (go_at_call 21; with_reducible refine (Qa3.out _ ?_).mono ?_; assumption; rintro e w' ⟨rfl, zz0, zz1, zz2, zz3, zz4, zz5, zz6, zz7, zz8⟩)
          | (go_at_call 21; with_reducible refine (Qa4.out _ ?_).mono ?_; assumption; rintro e w' ⟨rfl, zz0, zz1, zz2, zz3, zz4, zz5, zz6, zz7, zz8⟩)
          | (go_at_call 25; with_reducible refine (Qa5.out _ ?_).mono ?_; assumption; rintro e w' ⟨rfl, zz0, zz1, zz2, zz3, zz4, zz5, zz6, zz7, zz8⟩)
          | (go_at_call 27; with_reducible refine (Qa6.out _ ?_).mono ?_; assumption; rintro e w' ⟨rfl, zz0, zz1, zz2, zz3, zz4, zz5, zz6, zz7, zz8⟩)
          | (go_at_call 27; with_reducible refine (Qa7.out _ ?_).mono ?_; assumption; rintro e w' ⟨rfl, zz0, zz1, zz2, zz3, zz4, zz5, zz6, zz7, zz8⟩)))
      have A_10 := Lib.hid (show Cl _ (w.heap.size) (a0) (a1) from ⟨zz0, zz1⟩)
      have B_10 := Lib.hid (show Cl _ (w.heap.size + 1) (b0) (b1) from ⟨zz2, zz3⟩)
      have C_10 := Lib.hid (show Cl _ (w.heap.size + 1 + 1) (c0) (c1) from ⟨zz4, zz5⟩)
      have D_10 := Lib.hid (show Cl _ (w.heap.size + 1 + 1 + 1) (d0) (d1) from ⟨zz6, zz7⟩)
      have HB10 := Lib.hid zz8
      clear zz0 zz1 zz2 zz3 zz4 zz5 zz6 zz7 zz8
      clear HSa Qa0 Qa1 Qa2 Qa3 Qa4 Qa5 Qa6 Qa7
      clear A_9 B_9 C_9 D_9 HB9
      have cA0 := A_10.out.1
      have cA1 := A_10.out.2
      have cB0 := B_10.out.1
      have cB1 := B_10.out.2
      have cC0 := C_10.out.1
      have cC1 := C_10.out.2
      have cD0 := D_10.out.1
      have cD1 := D_10.out.2
      go_wp2_with fail
      clear cA0 cA1 cB0 cB1 cC0 cC1 cD0 cD1
      refine (M1.out _).mono ?_
      rintro e w11 ⟨rfl, hb⟩
      have HB11 := Lib.hid (below_trans HB10.out hb)
      have A_11 := Lib.hid (A_10.out.below hb)
      have B_11 := Lib.hid (B_10.out.below hb)
      have C_11 := Lib.hid (C_10.out.below hb)
      have D_11 := Lib.hid (D_10.out.below hb)
      clear hb HB10 A_10 B_10 C_10 D_10
      have HB12 := Lib.hid (below_trans HB11.out (below_alloc w11 (.cells #[.int .i64 m0, .int .i64 m1] 23)))
      have A_12 := Lib.hid (A_11.out.alloc (.cells #[.int .i64 m0, .int .i64 m1] 23))
      have B_12 := Lib.hid (B_11.out.alloc (.cells #[.int .i64 m0, .int .i64 m1] 23))
      have C_12 := Lib.hid (C_11.out.alloc (.cells #[.int .i64 m0, .int .i64 m1] 23))
      have D_12 := Lib.hid (D_11.out.alloc (.cells #[.int .i64 m0, .int .i64 m1] 23))
      have M_12 := Lib.hid (Cl.at (w := w11) (x := m0) (y := m1) (g := w11.heap.size) (by simp))
      clear HB11 A_11 B_11 C_11 D_11
      have cA0 := A_12.out.1
      have cA1 := A_12.out.2
      have cB0 := B_12.out.1
      have cB1 := B_12.out.2
      have cC0 := C_12.out.1
      have cC1 := C_12.out.2
      have cD0 := D_12.out.1
      have cD1 := D_12.out.2
      have cM0 := M_12.out.1
      have cM1 := M_12.out.2
      go_wp2_with fail
      clear cA0 cA1 cB0 cB1 cC0 cC1 cD0 cD1 cM0 cM1
      refine (M2.out _).mono ?_
      rintro e w13 ⟨rfl, hb⟩
      have HB13 := Lib.hid (below_trans HB12.out hb)
      have A_13 := Lib.hid (A_12.out.below hb)
      have B_13 := Lib.hid (B_12.out.below hb)
      have C_13 := Lib.hid (C_12.out.below hb)
      have D_13 := Lib.hid (D_12.out.below hb)
      have M_13 := Lib.hid (M_12.out.below hb)
      clear hb HB12 A_12 B_12 C_12 D_12 M_12
      have HB14 := Lib.hid (below_trans HB13.out (below_alloc w13 (.cells #[.int .i64 o0, .int .i64 o1] 23)))
      have A_14 := Lib.hid (A_13.out.alloc (.cells #[.int .i64 o0, .int .i64 o1] 23))
      have B_14 := Lib.hid (B_13.out.alloc (.cells #[.int .i64 o0, .int .i64 o1] 23))
      have C_14 := Lib.hid (C_13.out.alloc (.cells #[.int .i64 o0, .int .i64 o1] 23))
      have D_14 := Lib.hid (D_13.out.alloc (.cells #[.int .i64 o0, .int .i64 o1] 23))
      have M_14 := Lib.hid (M_13.out.alloc (.cells #[.int .i64 o0, .int .i64 o1] 23))
      have O_14 := Lib.hid (Cl.at (w := w13) (x := o0) (y := o1) (g := w13.heap.size) (by simp))
      clear HB13 A_13 B_13 C_13 D_13 M_13
      have cA0 := A_14.out.1
      have cA1 := A_14.out.2
      have cB0 := B_14.out.1
      have cB1 := B_14.out.2
      have cC0 := C_14.out.1
      have cC1 := C_14.out.2
      have cD0 := D_14.out.1
      have cD1 := D_14.out.2
      have cM0 := M_14.out.1
      have cM1 := M_14.out.2
      have cO0 := O_14.out.1
      have cO1 := O_14.out.2
      go_wp2_with fail
      clear cA0 cA1 cB0 cB1 cC0 cC1 cD0 cD1 cM0 cM1 cO0 cO1
      refine (S1.out _).mono ?_
      rintro e w15 ⟨rfl, hb⟩
      have HB15 := Lib.hid (below_trans HB14.out hb)
      have A_15 := Lib.hid (A_14.out.below hb)
      have B_15 := Lib.hid (B_14.out.below hb)
      have C_15 := Lib.hid (C_14.out.below hb)
      have D_15 := Lib.hid (D_14.out.below hb)
      have M_15 := Lib.hid (M_14.out.below hb)
      have O_15 := Lib.hid (O_14.out.below hb)
      clear hb HB14 A_14 B_14 C_14 D_14 M_14 O_14
      have HB16 := Lib.hid (below_trans HB15.out (below_alloc w15 (.cells #[.int .i64 x0, .int .i64 x1] 23)))
      have A_16 := Lib.hid (A_15.out.alloc (.cells #[.int .i64 x0, .int .i64 x1] 23))
      have B_16 := Lib.hid (B_15.out.alloc (.cells #[.int .i64 x0, .int .i64 x1] 23))
      have C_16 := Lib.hid (C_15.out.alloc (.cells #[.int .i64 x0, .int .i64 x1] 23))
      have D_16 := Lib.hid (D_15.out.alloc (.cells #[.int .i64 x0, .int .i64 x1] 23))
      have M_16 := Lib.hid (M_15.out.alloc (.cells #[.int .i64 x0, .int .i64 x1] 23))
      have O_16 := Lib.hid (O_15.out.alloc (.cells #[.int .i64 x0, .int .i64 x1] 23))
      have X_16 := Lib.hid (Cl.at (w := w15) (x := x0) (y := x1) (g := w15.heap.size) (by simp))
      clear HB15 A_15 B_15 C_15 D_15 M_15 O_15
      have cA0 := A_16.out.1
      have cA1 := A_16.out.2
      have cB0 := B_16.out.1
      have cB1 := B_16.out.2
      have cC0 := C_16.out.1
      have cC1 := C_16.out.2
      have cD0 := D_16.out.1
      have cD1 := D_16.out.2
      have cM0 := M_16.out.1
      have cM1 := M_16.out.2
      have cO0 := O_16.out.1
      have cO1 := O_16.out.2
      have cX0 := X_16.out.1
      have cX1 := X_16.out.2
      go_wp2_with fail
      clear cA0 cA1 cB0 cB1 cC0 cC1 cD0 cD1 cM0 cM1 cO0 cO1 cX0 cX1
      refine (S2.out _).mono ?_
      rintro e w17 ⟨rfl, hb⟩
      have HB17 := Lib.hid (below_trans HB16.out hb)
      have A_17 := Lib.hid (A_16.out.below hb)
      have B_17 := Lib.hid (B_16.out.below hb)
      have C_17 := Lib.hid (C_16.out.below hb)
      have D_17 := Lib.hid (D_16.out.below hb)
      have M_17 := Lib.hid (M_16.out.below hb)
      have O_17 := Lib.hid (O_16.out.below hb)
      have X_17 := Lib.hid (X_16.out.below hb)
      clear hb HB16 A_16 B_16 C_16 D_16 M_16 O_16 X_16
      have HB18 := Lib.hid (below_trans HB17.out (below_alloc w17 (.cells #[.int .i64 y0, .int .i64 y1] 23)))
      have A_18 := Lib.hid (A_17.out.alloc (.cells #[.int .i64 y0, .int .i64 y1] 23))
      have B_18 := Lib.hid (B_17.out.alloc (.cells #[.int .i64 y0, .int .i64 y1] 23))
      have C_18 := Lib.hid (C_17.out.alloc (.cells #[.int .i64 y0, .int .i64 y1] 23))
      have D_18 := Lib.hid (D_17.out.alloc (.cells #[.int .i64 y0, .int .i64 y1] 23))
      have M_18 := Lib.hid (M_17.out.alloc (.cells #[.int .i64 y0, .int .i64 y1] 23))
      have O_18 := Lib.hid (O_17.out.alloc (.cells #[.int .i64 y0, .int .i64 y1] 23))
      have X_18 := Lib.hid (X_17.out.alloc (.cells #[.int .i64 y0, .int .i64 y1] 23))
      have Y_18 := Lib.hid (Cl.at (w := w17) (x := y0) (y := y1) (g := w17.heap.size) (by simp))
      clear HB17 A_17 B_17 C_17 D_17 M_17 O_17 X_17
      have cA0 := A_18.out.1
      have cA1 := A_18.out.2
      have cB0 := B_18.out.1
      have cB1 := B_18.out.2
      have cC0 := C_18.out.1
      have cC1 := C_18.out.2
      have cD0 := D_18.out.1
      have cD1 := D_18.out.2
      have cM0 := M_18.out.1
      have cM1 := M_18.out.2
      have cO0 := O_18.out.1
      have cO1 := O_18.out.2
      have cX0 := X_18.out.1
      have cX1 := X_18.out.2
      have cY0 := Y_18.out.1
      have cY1 := Y_18.out.2
      go_wp2_with fail
      clear cA0 cA1 cB0 cB1 cC0 cC1 cD0 cD1 cM0 cM1 cO0 cO1 cX0 cX1 cY0 cY1
      have HSb := Lib.hid (show ∀ W W', Below W.heap.size W W' → (W.cell? ⟨w.heap.size, 0, none⟩ = some (.int .i64 a0) ∧ W.cell? ⟨w.heap.size, 1, none⟩ = some (.int .i64 a1) ∧ W.cell? ⟨w.heap.size + 1, 0, none⟩ = some (.int .i64 b0) ∧ W.cell? ⟨w.heap.size + 1, 1, none⟩ = some (.int .i64 b1) ∧ W.cell? ⟨w.heap.size + 1 + 1, 0, none⟩ = some (.int .i64 c0) ∧ W.cell? ⟨w.heap.size + 1 + 1, 1, none⟩ = some (.int .i64 c1) ∧ W.cell? ⟨w.heap.size + 1 + 1 + 1, 0, none⟩ = some (.int .i64 d0) ∧ W.cell? ⟨w.heap.size + 1 + 1 + 1, 1, none⟩ = some (.int .i64 d1) ∧ Below w.heap.size w W) → (W'.cell? ⟨w.heap.size, 0, none⟩ = some (.int .i64 a0) ∧ W'.cell? ⟨w.heap.size, 1, none⟩ = some (.int .i64 a1) ∧ W'.cell? ⟨w.heap.size + 1, 0, none⟩ = some (.int .i64 b0) ∧ W'.cell? ⟨w.heap.size + 1, 1, none⟩ = some (.int .i64 b1) ∧ W'.cell? ⟨w.heap.size + 1 + 1, 0, none⟩ = some (.int .i64 c0) ∧ W'.cell? ⟨w.heap.size + 1 + 1, 1, none⟩ = some (.int .i64 c1) ∧ W'.cell? ⟨w.heap.size + 1 + 1 + 1, 0, none⟩ = some (.int .i64 d0) ∧ W'.cell? ⟨w.heap.size + 1 + 1 + 1, 1, none⟩ = some (.int .i64 d1) ∧ Below w.heap.size w W') from fun W W' hb h => by obtain ⟨h0, h1, h2, h3, h4, h5, h6, h7, h8⟩ := h; exact ⟨cell_below hb h0, cell_below hb h1, cell_below hb h2, cell_below hb h3, cell_below hb h4, cell_below hb h5, cell_below hb h6, cell_below hb h7, below_trans h8 hb⟩)
      have tb0 := s_call (S := (fun W => W.cell? ⟨w.heap.size, 0, none⟩ = some (.int .i64 a0) ∧ W.cell? ⟨w.heap.size, 1, none⟩ = some (.int .i64 a1) ∧ W.cell? ⟨w.heap.size + 1, 0, none⟩ = some (.int .i64 b0) ∧ W.cell? ⟨w.heap.size + 1, 1, none⟩ = some (.int .i64 b1) ∧ W.cell? ⟨w.heap.size + 1 + 1, 0, none⟩ = some (.int .i64 c0) ∧ W.cell? ⟨w.heap.size + 1 + 1, 1, none⟩ = some (.int .i64 c1) ∧ W.cell? ⟨w.heap.size + 1 + 1 + 1, 0, none⟩ = some (.int .i64 d0) ∧ W.cell? ⟨w.heap.size + 1 + 1 + 1, 1, none⟩ = some (.int .i64 d1) ∧ Below w.heap.size w W)) HSb.out J1.out
      try dsimp only at tb0
      have Qb0 := Lib.hid tb0
      clear tb0
      have tb1 := s_call (S := (fun W => W.cell? ⟨w.heap.size, 0, none⟩ = some (.int .i64 a0) ∧ W.cell? ⟨w.heap.size, 1, none⟩ = some (.int .i64 a1) ∧ W.cell? ⟨w.heap.size + 1, 0, none⟩ = some (.int .i64 b0) ∧ W.cell? ⟨w.heap.size + 1, 1, none⟩ = some (.int .i64 b1) ∧ W.cell? ⟨w.heap.size + 1 + 1, 0, none⟩ = some (.int .i64 c0) ∧ W.cell? ⟨w.heap.size + 1 + 1, 1, none⟩ = some (.int .i64 c1) ∧ W.cell? ⟨w.heap.size + 1 + 1 + 1, 0, none⟩ = some (.int .i64 d0) ∧ W.cell? ⟨w.heap.size + 1 + 1 + 1, 1, none⟩ = some (.int .i64 d1) ∧ Below w.heap.size w W)) HSb.out J2.out
      try dsimp only at tb1
      have Qb1 := Lib.hid tb1
      clear tb1
      have tb2 := s_call (S := (fun W => W.cell? ⟨w.heap.size, 0, none⟩ = some (.int .i64 a0) ∧ W.cell? ⟨w.heap.size, 1, none⟩ = some (.int .i64 a1) ∧ W.cell? ⟨w.heap.size + 1, 0, none⟩ = some (.int .i64 b0) ∧ W.cell? ⟨w.heap.size + 1, 1, none⟩ = some (.int .i64 b1) ∧ W.cell? ⟨w.heap.size + 1 + 1, 0, none⟩ = some (.int .i64 c0) ∧ W.cell? ⟨w.heap.size + 1 + 1, 1, none⟩ = some (.int .i64 c1) ∧ W.cell? ⟨w.heap.size + 1 + 1 + 1, 0, none⟩ = some (.int .i64 d0) ∧ W.cell? ⟨w.heap.size + 1 + 1 + 1, 1, none⟩ = some (.int .i64 d1) ∧ Below w.heap.size w W)) HSb.out V7.out
      try dsimp only at tb2
      have Qb2 := Lib.hid tb2
      clear tb2
      go_region_held3 (fun W => W.cell? ⟨w.heap.size, 0, none⟩ = some (.int .i64 a0) ∧ W.cell? ⟨w.heap.size, 1, none⟩ = some (.int .i64 a1) ∧ W.cell? ⟨w.heap.size + 1, 0, none⟩ = some (.int .i64 b0) ∧ W.cell? ⟨w.heap.size + 1, 1, none⟩ = some (.int .i64 b1) ∧ W.cell? ⟨w.heap.size + 1 + 1, 0, none⟩ = some (.int .i64 c0) ∧ W.cell? ⟨w.heap.size + 1 + 1, 1, none⟩ = some (.int .i64 c1) ∧ W.cell? ⟨w.heap.size + 1 + 1 + 1, 0, none⟩ = some (.int .i64 d0) ∧ W.cell? ⟨w.heap.size + 1 + 1 + 1, 1, none⟩ = some (.int .i64 d1) ∧ Below w.heap.size w W)
        (((try dsimp only); (refine ⟨?_, ?_, ?_, ?_, ?_, ?_, ?_, ?_, ?_⟩ <;> (first | assumption | exact A_18.out.1 | exact A_18.out.2 | exact B_18.out.1 | exact B_18.out.2 | exact C_18.out.1 | exact C_18.out.2 | exact D_18.out.1 | exact D_18.out.2 | exact ⟨HB18.out.os, HB18.out.tape, HB18.out.output, HB18.out.size, HB18.out.block⟩ | go_keep))))
        ((first
          | (go_at_call 23; with_reducible refine (Qb0.out _ ?_).mono ?_; assumption; rintro e w' ⟨rfl, zz0, zz1, zz2, zz3, zz4, zz5, zz6, zz7, zz8⟩)
          | (go_at_call 23; with_reducible refine (Qb1.out _ ?_).mono ?_; assumption; rintro e w' ⟨rfl, zz0, zz1, zz2, zz3, zz4, zz5, zz6, zz7, zz8⟩)
          | (go_at_call 25; with_reducible refine (Qb2.out _ ?_).mono ?_; assumption; rintro e w' ⟨rfl, zz0, zz1, zz2, zz3, zz4, zz5, zz6, zz7, zz8⟩)))
      have A_19 := Lib.hid (show Cl _ (w.heap.size) (a0) (a1) from ⟨zz0, zz1⟩)
      have B_19 := Lib.hid (show Cl _ (w.heap.size + 1) (b0) (b1) from ⟨zz2, zz3⟩)
      have C_19 := Lib.hid (show Cl _ (w.heap.size + 1 + 1) (c0) (c1) from ⟨zz4, zz5⟩)
      have D_19 := Lib.hid (show Cl _ (w.heap.size + 1 + 1 + 1) (d0) (d1) from ⟨zz6, zz7⟩)
      have HB19 := Lib.hid zz8
      clear zz0 zz1 zz2 zz3 zz4 zz5 zz6 zz7 zz8
      clear HSb Qb0 Qb1 Qb2
      clear A_18 B_18 C_18 D_18 M_18 O_18 X_18 Y_18 HB18
      go_wp2_with fail
      go_ret
      exact ⟨rfl, HB19.out⟩
    | true =>
      obtain ⟨rfl, rfl⟩ := k2 rfl
      clear k2
      have HB0 := Lib.hid (below_self w)
      have HB1 := Lib.hid (below_trans HB0.out (below_alloc w (.cells #[.int .i64 a0, .int .i64 a1] 23)))
      have A_1 := Lib.hid (Cl.at (w := w) (x := a0) (y := a1) (g := w.heap.size) (by simp))
      clear HB0 
      have HB2 := Lib.hid (below_trans HB1.out (below_alloc (w.alloc (.cells #[.int .i64 a0, .int .i64 a1] 23)) (.cells #[.int .i64 b0, .int .i64 b1] 23)))
      have A_2 := Lib.hid (A_1.out.alloc (.cells #[.int .i64 b0, .int .i64 b1] 23))
      have B_2 := Lib.hid (Cl.at (w := (w.alloc (.cells #[.int .i64 a0, .int .i64 a1] 23))) (x := b0) (y := b1) (g := w.heap.size + 1) (by simp))
      clear HB1 A_1
      have HB3 := Lib.hid (below_trans HB2.out (below_alloc ((w.alloc (.cells #[.int .i64 a0, .int .i64 a1] 23)).alloc (.cells #[.int .i64 b0, .int .i64 b1] 23)) (.cells #[.int .i64 c0, .int .i64 c1] 23)))
      have A_3 := Lib.hid (A_2.out.alloc (.cells #[.int .i64 c0, .int .i64 c1] 23))
      have B_3 := Lib.hid (B_2.out.alloc (.cells #[.int .i64 c0, .int .i64 c1] 23))
      have C_3 := Lib.hid (Cl.at (w := ((w.alloc (.cells #[.int .i64 a0, .int .i64 a1] 23)).alloc (.cells #[.int .i64 b0, .int .i64 b1] 23))) (x := c0) (y := c1) (g := w.heap.size + 1 + 1) (by simp))
      clear HB2 A_2 B_2
      have HB4 := Lib.hid (below_trans HB3.out (below_alloc (((w.alloc (.cells #[.int .i64 a0, .int .i64 a1] 23)).alloc (.cells #[.int .i64 b0, .int .i64 b1] 23)).alloc (.cells #[.int .i64 c0, .int .i64 c1] 23)) (.cells #[.int .i64 d0, .int .i64 d1] 23)))
      have A_4 := Lib.hid (A_3.out.alloc (.cells #[.int .i64 d0, .int .i64 d1] 23))
      have B_4 := Lib.hid (B_3.out.alloc (.cells #[.int .i64 d0, .int .i64 d1] 23))
      have C_4 := Lib.hid (C_3.out.alloc (.cells #[.int .i64 d0, .int .i64 d1] 23))
      have D_4 := Lib.hid (Cl.at (w := (((w.alloc (.cells #[.int .i64 a0, .int .i64 a1] 23)).alloc (.cells #[.int .i64 b0, .int .i64 b1] 23)).alloc (.cells #[.int .i64 c0, .int .i64 c1] 23))) (x := d0) (y := d1) (g := w.heap.size + 1 + 1 + 1) (by simp))
      clear HB3 A_3 B_3 C_3
      go_enter Try.func6, Try.ntmps6
      have cA0 := A_4.out.1
      have cA1 := A_4.out.2
      have cB0 := B_4.out.1
      have cB1 := B_4.out.2
      have cC0 := C_4.out.1
      have cC1 := C_4.out.2
      have cD0 := D_4.out.1
      have cD1 := D_4.out.2
      go_wp2_with fail
      clear cA0 cA1 cB0 cB1 cC0 cC1 cD0 cD1
      refine (SM.out _).mono ?_
      rintro e w5 ⟨rfl, hb⟩
      have HB5 := Lib.hid (below_trans HB4.out hb)
      have A_5 := Lib.hid (A_4.out.below hb)
      have B_5 := Lib.hid (B_4.out.below hb)
      have C_5 := Lib.hid (C_4.out.below hb)
      have D_5 := Lib.hid (D_4.out.below hb)
      clear hb HB4 A_4 B_4 C_4 D_4
      have cA0 := A_5.out.1
      have cA1 := A_5.out.2
      have cB0 := B_5.out.1
      have cB1 := B_5.out.2
      have cC0 := C_5.out.1
      have cC1 := C_5.out.2
      have cD0 := D_5.out.1
      have cD1 := D_5.out.2
      go_wp2_with fail
      clear cA0 cA1 cB0 cB1 cC0 cC1 cD0 cD1
      refine (R1.out _).mono ?_
      rintro e w6 ⟨rfl, hb⟩
      have HB6 := Lib.hid (below_trans HB5.out hb)
      have A_6 := Lib.hid (A_5.out.below hb)
      have B_6 := Lib.hid (B_5.out.below hb)
      have C_6 := Lib.hid (C_5.out.below hb)
      have D_6 := Lib.hid (D_5.out.below hb)
      clear hb HB5 A_5 B_5 C_5 D_5
      have cA0 := A_6.out.1
      have cA1 := A_6.out.2
      have cB0 := B_6.out.1
      have cB1 := B_6.out.2
      have cC0 := C_6.out.1
      have cC1 := C_6.out.2
      have cD0 := D_6.out.1
      have cD1 := D_6.out.2
      go_wp2_with fail
      clear cA0 cA1 cB0 cB1 cC0 cC1 cD0 cD1
      refine (R2.out _).mono ?_
      rintro e w7 ⟨rfl, hb⟩
      have HB7 := Lib.hid (below_trans HB6.out hb)
      have A_7 := Lib.hid (A_6.out.below hb)
      have B_7 := Lib.hid (B_6.out.below hb)
      have C_7 := Lib.hid (C_6.out.below hb)
      have D_7 := Lib.hid (D_6.out.below hb)
      clear hb HB6 A_6 B_6 C_6 D_6
      have cA0 := A_7.out.1
      have cA1 := A_7.out.2
      have cB0 := B_7.out.1
      have cB1 := B_7.out.2
      have cC0 := C_7.out.1
      have cC1 := C_7.out.2
      have cD0 := D_7.out.1
      have cD1 := D_7.out.2
      go_wp2_with fail
      clear cA0 cA1 cB0 cB1 cC0 cC1 cD0 cD1
      refine (V1.out _).mono ?_
      rintro e w8 ⟨rfl, hb⟩
      have HB8 := Lib.hid (below_trans HB7.out hb)
      have A_8 := Lib.hid (A_7.out.below hb)
      have B_8 := Lib.hid (B_7.out.below hb)
      have C_8 := Lib.hid (C_7.out.below hb)
      have D_8 := Lib.hid (D_7.out.below hb)
      clear hb HB7 A_7 B_7 C_7 D_7
      have cA0 := A_8.out.1
      have cA1 := A_8.out.2
      have cB0 := B_8.out.1
      have cB1 := B_8.out.2
      have cC0 := C_8.out.1
      have cC1 := C_8.out.2
      have cD0 := D_8.out.1
      have cD1 := D_8.out.2
      go_wp2_with fail
      clear cA0 cA1 cB0 cB1 cC0 cC1 cD0 cD1
      refine (V2.out _).mono ?_
      rintro e w9 ⟨rfl, hb⟩
      have HB9 := Lib.hid (below_trans HB8.out hb)
      have A_9 := Lib.hid (A_8.out.below hb)
      have B_9 := Lib.hid (B_8.out.below hb)
      have C_9 := Lib.hid (C_8.out.below hb)
      have D_9 := Lib.hid (D_8.out.below hb)
      clear hb HB8 A_8 B_8 C_8 D_8
      have cA0 := A_9.out.1
      have cA1 := A_9.out.2
      have cB0 := B_9.out.1
      have cB1 := B_9.out.2
      have cC0 := C_9.out.1
      have cC1 := C_9.out.2
      have cD0 := D_9.out.1
      have cD1 := D_9.out.2
      go_wp2_with fail
      clear cA0 cA1 cB0 cB1 cC0 cC1 cD0 cD1
      --GG
      have HSa := Lib.hid (show ∀ W W', Below W.heap.size W W' → (W.cell? ⟨w.heap.size, 0, none⟩ = some (.int .i64 a0) ∧ W.cell? ⟨w.heap.size, 1, none⟩ = some (.int .i64 a1) ∧ W.cell? ⟨w.heap.size + 1, 0, none⟩ = some (.int .i64 b0) ∧ W.cell? ⟨w.heap.size + 1, 1, none⟩ = some (.int .i64 b1) ∧ W.cell? ⟨w.heap.size + 1 + 1, 0, none⟩ = some (.int .i64 c0) ∧ W.cell? ⟨w.heap.size + 1 + 1, 1, none⟩ = some (.int .i64 c1) ∧ W.cell? ⟨w.heap.size + 1 + 1 + 1, 0, none⟩ = some (.int .i64 d0) ∧ W.cell? ⟨w.heap.size + 1 + 1 + 1, 1, none⟩ = some (.int .i64 d1) ∧ Below w.heap.size w W) → (W'.cell? ⟨w.heap.size, 0, none⟩ = some (.int .i64 a0) ∧ W'.cell? ⟨w.heap.size, 1, none⟩ = some (.int .i64 a1) ∧ W'.cell? ⟨w.heap.size + 1, 0, none⟩ = some (.int .i64 b0) ∧ W'.cell? ⟨w.heap.size + 1, 1, none⟩ = some (.int .i64 b1) ∧ W'.cell? ⟨w.heap.size + 1 + 1, 0, none⟩ = some (.int .i64 c0) ∧ W'.cell? ⟨w.heap.size + 1 + 1, 1, none⟩ = some (.int .i64 c1) ∧ W'.cell? ⟨w.heap.size + 1 + 1 + 1, 0, none⟩ = some (.int .i64 d0) ∧ W'.cell? ⟨w.heap.size + 1 + 1 + 1, 1, none⟩ = some (.int .i64 d1) ∧ Below w.heap.size w W') from fun W W' hb h => by obtain ⟨h0, h1, h2, h3, h4, h5, h6, h7, h8⟩ := h; exact ⟨cell_below hb h0, cell_below hb h1, cell_below hb h2, cell_below hb h3, cell_below hb h4, cell_below hb h5, cell_below hb h6, cell_below hb h7, below_trans h8 hb⟩)
      have ta0 := s_call (S := (fun W => W.cell? ⟨w.heap.size, 0, none⟩ = some (.int .i64 a0) ∧ W.cell? ⟨w.heap.size, 1, none⟩ = some (.int .i64 a1) ∧ W.cell? ⟨w.heap.size + 1, 0, none⟩ = some (.int .i64 b0) ∧ W.cell? ⟨w.heap.size + 1, 1, none⟩ = some (.int .i64 b1) ∧ W.cell? ⟨w.heap.size + 1 + 1, 0, none⟩ = some (.int .i64 c0) ∧ W.cell? ⟨w.heap.size + 1 + 1, 1, none⟩ = some (.int .i64 c1) ∧ W.cell? ⟨w.heap.size + 1 + 1 + 1, 0, none⟩ = some (.int .i64 d0) ∧ W.cell? ⟨w.heap.size + 1 + 1 + 1, 1, none⟩ = some (.int .i64 d1) ∧ Below w.heap.size w W)) HSa.out A1.out
      try dsimp only at ta0
      have Qa0 := Lib.hid ta0
      clear ta0
      have ta1 := s_call (S := (fun W => W.cell? ⟨w.heap.size, 0, none⟩ = some (.int .i64 a0) ∧ W.cell? ⟨w.heap.size, 1, none⟩ = some (.int .i64 a1) ∧ W.cell? ⟨w.heap.size + 1, 0, none⟩ = some (.int .i64 b0) ∧ W.cell? ⟨w.heap.size + 1, 1, none⟩ = some (.int .i64 b1) ∧ W.cell? ⟨w.heap.size + 1 + 1, 0, none⟩ = some (.int .i64 c0) ∧ W.cell? ⟨w.heap.size + 1 + 1, 1, none⟩ = some (.int .i64 c1) ∧ W.cell? ⟨w.heap.size + 1 + 1 + 1, 0, none⟩ = some (.int .i64 d0) ∧ W.cell? ⟨w.heap.size + 1 + 1 + 1, 1, none⟩ = some (.int .i64 d1) ∧ Below w.heap.size w W)) HSa.out A2.out
      try dsimp only at ta1
      have Qa1 := Lib.hid ta1
      clear ta1
      have ta2 := s_call (S := (fun W => W.cell? ⟨w.heap.size, 0, none⟩ = some (.int .i64 a0) ∧ W.cell? ⟨w.heap.size, 1, none⟩ = some (.int .i64 a1) ∧ W.cell? ⟨w.heap.size + 1, 0, none⟩ = some (.int .i64 b0) ∧ W.cell? ⟨w.heap.size + 1, 1, none⟩ = some (.int .i64 b1) ∧ W.cell? ⟨w.heap.size + 1 + 1, 0, none⟩ = some (.int .i64 c0) ∧ W.cell? ⟨w.heap.size + 1 + 1, 1, none⟩ = some (.int .i64 c1) ∧ W.cell? ⟨w.heap.size + 1 + 1 + 1, 0, none⟩ = some (.int .i64 d0) ∧ W.cell? ⟨w.heap.size + 1 + 1 + 1, 1, none⟩ = some (.int .i64 d1) ∧ Below w.heap.size w W)) HSa.out V3.out
      try dsimp only at ta2
      have Qa2 := Lib.hid ta2
      clear ta2
      have ta3 := s_call (S := (fun W => W.cell? ⟨w.heap.size, 0, none⟩ = some (.int .i64 a0) ∧ W.cell? ⟨w.heap.size, 1, none⟩ = some (.int .i64 a1) ∧ W.cell? ⟨w.heap.size + 1, 0, none⟩ = some (.int .i64 b0) ∧ W.cell? ⟨w.heap.size + 1, 1, none⟩ = some (.int .i64 b1) ∧ W.cell? ⟨w.heap.size + 1 + 1, 0, none⟩ = some (.int .i64 c0) ∧ W.cell? ⟨w.heap.size + 1 + 1, 1, none⟩ = some (.int .i64 c1) ∧ W.cell? ⟨w.heap.size + 1 + 1 + 1, 0, none⟩ = some (.int .i64 d0) ∧ W.cell? ⟨w.heap.size + 1 + 1 + 1, 1, none⟩ = some (.int .i64 d1) ∧ Below w.heap.size w W)) HSa.out U1.out
      try dsimp only at ta3
      have Qa3 := Lib.hid ta3
      clear ta3
      have ta4 := s_call (S := (fun W => W.cell? ⟨w.heap.size, 0, none⟩ = some (.int .i64 a0) ∧ W.cell? ⟨w.heap.size, 1, none⟩ = some (.int .i64 a1) ∧ W.cell? ⟨w.heap.size + 1, 0, none⟩ = some (.int .i64 b0) ∧ W.cell? ⟨w.heap.size + 1, 1, none⟩ = some (.int .i64 b1) ∧ W.cell? ⟨w.heap.size + 1 + 1, 0, none⟩ = some (.int .i64 c0) ∧ W.cell? ⟨w.heap.size + 1 + 1, 1, none⟩ = some (.int .i64 c1) ∧ W.cell? ⟨w.heap.size + 1 + 1 + 1, 0, none⟩ = some (.int .i64 d0) ∧ W.cell? ⟨w.heap.size + 1 + 1 + 1, 1, none⟩ = some (.int .i64 d1) ∧ Below w.heap.size w W)) HSa.out U2.out
      try dsimp only at ta4
      have Qa4 := Lib.hid ta4
      clear ta4
      have ta5 := s_call (S := (fun W => W.cell? ⟨w.heap.size, 0, none⟩ = some (.int .i64 a0) ∧ W.cell? ⟨w.heap.size, 1, none⟩ = some (.int .i64 a1) ∧ W.cell? ⟨w.heap.size + 1, 0, none⟩ = some (.int .i64 b0) ∧ W.cell? ⟨w.heap.size + 1, 1, none⟩ = some (.int .i64 b1) ∧ W.cell? ⟨w.heap.size + 1 + 1, 0, none⟩ = some (.int .i64 c0) ∧ W.cell? ⟨w.heap.size + 1 + 1, 1, none⟩ = some (.int .i64 c1) ∧ W.cell? ⟨w.heap.size + 1 + 1 + 1, 0, none⟩ = some (.int .i64 d0) ∧ W.cell? ⟨w.heap.size + 1 + 1 + 1, 1, none⟩ = some (.int .i64 d1) ∧ Below w.heap.size w W)) HSa.out V4.out
      try dsimp only at ta5
      have Qa5 := Lib.hid ta5
      clear ta5
      have ta6 := s_call (S := (fun W => W.cell? ⟨w.heap.size, 0, none⟩ = some (.int .i64 a0) ∧ W.cell? ⟨w.heap.size, 1, none⟩ = some (.int .i64 a1) ∧ W.cell? ⟨w.heap.size + 1, 0, none⟩ = some (.int .i64 b0) ∧ W.cell? ⟨w.heap.size + 1, 1, none⟩ = some (.int .i64 b1) ∧ W.cell? ⟨w.heap.size + 1 + 1, 0, none⟩ = some (.int .i64 c0) ∧ W.cell? ⟨w.heap.size + 1 + 1, 1, none⟩ = some (.int .i64 c1) ∧ W.cell? ⟨w.heap.size + 1 + 1 + 1, 0, none⟩ = some (.int .i64 d0) ∧ W.cell? ⟨w.heap.size + 1 + 1 + 1, 1, none⟩ = some (.int .i64 d1) ∧ Below w.heap.size w W)) HSa.out D1.out
      try dsimp only at ta6
      have Qa6 := Lib.hid ta6
      clear ta6
      have ta7 := s_call (S := (fun W => W.cell? ⟨w.heap.size, 0, none⟩ = some (.int .i64 a0) ∧ W.cell? ⟨w.heap.size, 1, none⟩ = some (.int .i64 a1) ∧ W.cell? ⟨w.heap.size + 1, 0, none⟩ = some (.int .i64 b0) ∧ W.cell? ⟨w.heap.size + 1, 1, none⟩ = some (.int .i64 b1) ∧ W.cell? ⟨w.heap.size + 1 + 1, 0, none⟩ = some (.int .i64 c0) ∧ W.cell? ⟨w.heap.size + 1 + 1, 1, none⟩ = some (.int .i64 c1) ∧ W.cell? ⟨w.heap.size + 1 + 1 + 1, 0, none⟩ = some (.int .i64 d0) ∧ W.cell? ⟨w.heap.size + 1 + 1 + 1, 1, none⟩ = some (.int .i64 d1) ∧ Below w.heap.size w W)) HSa.out D2.out
      try dsimp only at ta7
      have Qa7 := Lib.hid ta7
      clear ta7
      go_region_held3 (fun W => W.cell? ⟨w.heap.size, 0, none⟩ = some (.int .i64 a0) ∧ W.cell? ⟨w.heap.size, 1, none⟩ = some (.int .i64 a1) ∧ W.cell? ⟨w.heap.size + 1, 0, none⟩ = some (.int .i64 b0) ∧ W.cell? ⟨w.heap.size + 1, 1, none⟩ = some (.int .i64 b1) ∧ W.cell? ⟨w.heap.size + 1 + 1, 0, none⟩ = some (.int .i64 c0) ∧ W.cell? ⟨w.heap.size + 1 + 1, 1, none⟩ = some (.int .i64 c1) ∧ W.cell? ⟨w.heap.size + 1 + 1 + 1, 0, none⟩ = some (.int .i64 d0) ∧ W.cell? ⟨w.heap.size + 1 + 1 + 1, 1, none⟩ = some (.int .i64 d1) ∧ Below w.heap.size w W)
        (((try dsimp only); (refine ⟨?_, ?_, ?_, ?_, ?_, ?_, ?_, ?_, ?_⟩ <;> (first | assumption | exact A_9.out.1 | exact A_9.out.2 | exact B_9.out.1 | exact B_9.out.2 | exact C_9.out.1 | exact C_9.out.2 | exact D_9.out.1 | exact D_9.out.2 | exact ⟨HB9.out.os, HB9.out.tape, HB9.out.output, HB9.out.size, HB9.out.block⟩ | go_keep))))
        ((first
          | (go_at_call 19; with_reducible refine (Qa0.out _ ?_).mono ?_; assumption; rintro e w' ⟨rfl, zz0, zz1, zz2, zz3, zz4, zz5, zz6, zz7, zz8⟩)
          | (go_at_call 19; with_reducible refine (Qa1.out _ ?_).mono ?_; assumption; rintro e w' ⟨rfl, zz0, zz1, zz2, zz3, zz4, zz5, zz6, zz7, zz8⟩)
          | (go_at_call 25; with_reducible refine (Qa2.out _ ?_).mono ?_; assumption; rintro e w' ⟨rfl, zz0, zz1, zz2, zz3, zz4, zz5, zz6, zz7, zz8⟩)
          | (go_at_call 21; with_reducible refine (Qa3.out _ ?_).mono ?_; assumption; rintro e w' ⟨rfl, zz0, zz1, zz2, zz3, zz4, zz5, zz6, zz7, zz8⟩)
          | (go_at_call 21; with_reducible refine (Qa4.out _ ?_).mono ?_; assumption; rintro e w' ⟨rfl, zz0, zz1, zz2, zz3, zz4, zz5, zz6, zz7, zz8⟩)
          | (go_at_call 25; with_reducible refine (Qa5.out _ ?_).mono ?_; assumption; rintro e w' ⟨rfl, zz0, zz1, zz2, zz3, zz4, zz5, zz6, zz7, zz8⟩)
          | (go_at_call 27; with_reducible refine (Qa6.out _ ?_).mono ?_; assumption; rintro e w' ⟨rfl, zz0, zz1, zz2, zz3, zz4, zz5, zz6, zz7, zz8⟩)
          | (go_at_call 27; with_reducible refine (Qa7.out _ ?_).mono ?_; assumption; rintro e w' ⟨rfl, zz0, zz1, zz2, zz3, zz4, zz5, zz6, zz7, zz8⟩)))
      have A_10 := Lib.hid (show Cl _ (w.heap.size) (a0) (a1) from ⟨zz0, zz1⟩)
      have B_10 := Lib.hid (show Cl _ (w.heap.size + 1) (b0) (b1) from ⟨zz2, zz3⟩)
      have C_10 := Lib.hid (show Cl _ (w.heap.size + 1 + 1) (c0) (c1) from ⟨zz4, zz5⟩)
      have D_10 := Lib.hid (show Cl _ (w.heap.size + 1 + 1 + 1) (d0) (d1) from ⟨zz6, zz7⟩)
      have HB10 := Lib.hid zz8
      clear zz0 zz1 zz2 zz3 zz4 zz5 zz6 zz7 zz8
      clear HSa Qa0 Qa1 Qa2 Qa3 Qa4 Qa5 Qa6 Qa7
      clear A_9 B_9 C_9 D_9 HB9
      have cA0 := A_10.out.1
      have cA1 := A_10.out.2
      have cB0 := B_10.out.1
      have cB1 := B_10.out.2
      have cC0 := C_10.out.1
      have cC1 := C_10.out.2
      have cD0 := D_10.out.1
      have cD1 := D_10.out.2
      go_wp2_with fail
      clear cA0 cA1 cB0 cB1 cC0 cC1 cD0 cD1
      refine (M1.out _).mono ?_
      rintro e w11 ⟨rfl, hb⟩
      have HB11 := Lib.hid (below_trans HB10.out hb)
      have A_11 := Lib.hid (A_10.out.below hb)
      have B_11 := Lib.hid (B_10.out.below hb)
      have C_11 := Lib.hid (C_10.out.below hb)
      have D_11 := Lib.hid (D_10.out.below hb)
      clear hb HB10 A_10 B_10 C_10 D_10
      have HB12 := Lib.hid (below_trans HB11.out (below_alloc w11 (.cells #[.int .i64 m0, .int .i64 m1] 23)))
      have A_12 := Lib.hid (A_11.out.alloc (.cells #[.int .i64 m0, .int .i64 m1] 23))
      have B_12 := Lib.hid (B_11.out.alloc (.cells #[.int .i64 m0, .int .i64 m1] 23))
      have C_12 := Lib.hid (C_11.out.alloc (.cells #[.int .i64 m0, .int .i64 m1] 23))
      have D_12 := Lib.hid (D_11.out.alloc (.cells #[.int .i64 m0, .int .i64 m1] 23))
      have M_12 := Lib.hid (Cl.at (w := w11) (x := m0) (y := m1) (g := w11.heap.size) (by simp))
      clear HB11 A_11 B_11 C_11 D_11
      have cA0 := A_12.out.1
      have cA1 := A_12.out.2
      have cB0 := B_12.out.1
      have cB1 := B_12.out.2
      have cC0 := C_12.out.1
      have cC1 := C_12.out.2
      have cD0 := D_12.out.1
      have cD1 := D_12.out.2
      have cM0 := M_12.out.1
      have cM1 := M_12.out.2
      go_wp2_with fail
      clear cA0 cA1 cB0 cB1 cC0 cC1 cD0 cD1 cM0 cM1
      refine (M2.out _).mono ?_
      rintro e w13 ⟨rfl, hb⟩
      have HB13 := Lib.hid (below_trans HB12.out hb)
      have A_13 := Lib.hid (A_12.out.below hb)
      have B_13 := Lib.hid (B_12.out.below hb)
      have C_13 := Lib.hid (C_12.out.below hb)
      have D_13 := Lib.hid (D_12.out.below hb)
      have M_13 := Lib.hid (M_12.out.below hb)
      clear hb HB12 A_12 B_12 C_12 D_12 M_12
      have HB14 := Lib.hid (below_trans HB13.out (below_alloc w13 (.cells #[.int .i64 o0, .int .i64 o1] 23)))
      have A_14 := Lib.hid (A_13.out.alloc (.cells #[.int .i64 o0, .int .i64 o1] 23))
      have B_14 := Lib.hid (B_13.out.alloc (.cells #[.int .i64 o0, .int .i64 o1] 23))
      have C_14 := Lib.hid (C_13.out.alloc (.cells #[.int .i64 o0, .int .i64 o1] 23))
      have D_14 := Lib.hid (D_13.out.alloc (.cells #[.int .i64 o0, .int .i64 o1] 23))
      have M_14 := Lib.hid (M_13.out.alloc (.cells #[.int .i64 o0, .int .i64 o1] 23))
      have O_14 := Lib.hid (Cl.at (w := w13) (x := o0) (y := o1) (g := w13.heap.size) (by simp))
      clear HB13 A_13 B_13 C_13 D_13 M_13
      have cA0 := A_14.out.1
      have cA1 := A_14.out.2
      have cB0 := B_14.out.1
      have cB1 := B_14.out.2
      have cC0 := C_14.out.1
      have cC1 := C_14.out.2
      have cD0 := D_14.out.1
      have cD1 := D_14.out.2
      have cM0 := M_14.out.1
      have cM1 := M_14.out.2
      have cO0 := O_14.out.1
      have cO1 := O_14.out.2
      go_wp2_with fail
      clear cA0 cA1 cB0 cB1 cC0 cC1 cD0 cD1 cM0 cM1 cO0 cO1
      refine (S1.out _).mono ?_
      rintro e w15 ⟨rfl, hb⟩
      have HB15 := Lib.hid (below_trans HB14.out hb)
      have A_15 := Lib.hid (A_14.out.below hb)
      have B_15 := Lib.hid (B_14.out.below hb)
      have C_15 := Lib.hid (C_14.out.below hb)
      have D_15 := Lib.hid (D_14.out.below hb)
      have M_15 := Lib.hid (M_14.out.below hb)
      have O_15 := Lib.hid (O_14.out.below hb)
      clear hb HB14 A_14 B_14 C_14 D_14 M_14 O_14
      have HB16 := Lib.hid (below_trans HB15.out (below_alloc w15 (.cells #[.int .i64 x0, .int .i64 x1] 23)))
      have A_16 := Lib.hid (A_15.out.alloc (.cells #[.int .i64 x0, .int .i64 x1] 23))
      have B_16 := Lib.hid (B_15.out.alloc (.cells #[.int .i64 x0, .int .i64 x1] 23))
      have C_16 := Lib.hid (C_15.out.alloc (.cells #[.int .i64 x0, .int .i64 x1] 23))
      have D_16 := Lib.hid (D_15.out.alloc (.cells #[.int .i64 x0, .int .i64 x1] 23))
      have M_16 := Lib.hid (M_15.out.alloc (.cells #[.int .i64 x0, .int .i64 x1] 23))
      have O_16 := Lib.hid (O_15.out.alloc (.cells #[.int .i64 x0, .int .i64 x1] 23))
      have X_16 := Lib.hid (Cl.at (w := w15) (x := x0) (y := x1) (g := w15.heap.size) (by simp))
      clear HB15 A_15 B_15 C_15 D_15 M_15 O_15
      have cA0 := A_16.out.1
      have cA1 := A_16.out.2
      have cB0 := B_16.out.1
      have cB1 := B_16.out.2
      have cC0 := C_16.out.1
      have cC1 := C_16.out.2
      have cD0 := D_16.out.1
      have cD1 := D_16.out.2
      have cM0 := M_16.out.1
      have cM1 := M_16.out.2
      have cO0 := O_16.out.1
      have cO1 := O_16.out.2
      have cX0 := X_16.out.1
      have cX1 := X_16.out.2
      go_wp2_with fail
      clear cA0 cA1 cB0 cB1 cC0 cC1 cD0 cD1 cM0 cM1 cO0 cO1 cX0 cX1
      refine (S2.out _).mono ?_
      rintro e w17 ⟨rfl, hb⟩
      have HB17 := Lib.hid (below_trans HB16.out hb)
      have A_17 := Lib.hid (A_16.out.below hb)
      have B_17 := Lib.hid (B_16.out.below hb)
      have C_17 := Lib.hid (C_16.out.below hb)
      have D_17 := Lib.hid (D_16.out.below hb)
      have M_17 := Lib.hid (M_16.out.below hb)
      have O_17 := Lib.hid (O_16.out.below hb)
      have X_17 := Lib.hid (X_16.out.below hb)
      clear hb HB16 A_16 B_16 C_16 D_16 M_16 O_16 X_16
      have HB18 := Lib.hid (below_trans HB17.out (below_alloc w17 (.cells #[.int .i64 y0, .int .i64 y1] 23)))
      have A_18 := Lib.hid (A_17.out.alloc (.cells #[.int .i64 y0, .int .i64 y1] 23))
      have B_18 := Lib.hid (B_17.out.alloc (.cells #[.int .i64 y0, .int .i64 y1] 23))
      have C_18 := Lib.hid (C_17.out.alloc (.cells #[.int .i64 y0, .int .i64 y1] 23))
      have D_18 := Lib.hid (D_17.out.alloc (.cells #[.int .i64 y0, .int .i64 y1] 23))
      have M_18 := Lib.hid (M_17.out.alloc (.cells #[.int .i64 y0, .int .i64 y1] 23))
      have O_18 := Lib.hid (O_17.out.alloc (.cells #[.int .i64 y0, .int .i64 y1] 23))
      have X_18 := Lib.hid (X_17.out.alloc (.cells #[.int .i64 y0, .int .i64 y1] 23))
      have Y_18 := Lib.hid (Cl.at (w := w17) (x := y0) (y := y1) (g := w17.heap.size) (by simp))
      clear HB17 A_17 B_17 C_17 D_17 M_17 O_17 X_17
      have cA0 := A_18.out.1
      have cA1 := A_18.out.2
      have cB0 := B_18.out.1
      have cB1 := B_18.out.2
      have cC0 := C_18.out.1
      have cC1 := C_18.out.2
      have cD0 := D_18.out.1
      have cD1 := D_18.out.2
      have cM0 := M_18.out.1
      have cM1 := M_18.out.2
      have cO0 := O_18.out.1
      have cO1 := O_18.out.2
      have cX0 := X_18.out.1
      have cX1 := X_18.out.2
      have cY0 := Y_18.out.1
      have cY1 := Y_18.out.2
      go_wp2_with fail
      clear cA0 cA1 cB0 cB1 cC0 cC1 cD0 cD1 cM0 cM1 cO0 cO1 cX0 cX1 cY0 cY1
      refine (V6.out _).mono ?_
      rintro e w19 ⟨rfl, hb⟩
      have HB19 := Lib.hid (below_trans HB18.out hb)
      have A_19 := Lib.hid (A_18.out.below hb)
      have B_19 := Lib.hid (B_18.out.below hb)
      have C_19 := Lib.hid (C_18.out.below hb)
      have D_19 := Lib.hid (D_18.out.below hb)
      have M_19 := Lib.hid (M_18.out.below hb)
      have O_19 := Lib.hid (O_18.out.below hb)
      have X_19 := Lib.hid (X_18.out.below hb)
      have Y_19 := Lib.hid (Y_18.out.below hb)
      clear hb HB18 A_18 B_18 C_18 D_18 M_18 O_18 X_18 Y_18
      have cA0 := A_19.out.1
      have cA1 := A_19.out.2
      have cB0 := B_19.out.1
      have cB1 := B_19.out.2
      have cC0 := C_19.out.1
      have cC1 := C_19.out.2
      have cD0 := D_19.out.1
      have cD1 := D_19.out.2
      have cM0 := M_19.out.1
      have cM1 := M_19.out.2
      have cO0 := O_19.out.1
      have cO1 := O_19.out.2
      have cX0 := X_19.out.1
      have cX1 := X_19.out.2
      have cY0 := Y_19.out.1
      have cY1 := Y_19.out.2
      go_wp2_with fail
      clear cA0 cA1 cB0 cB1 cC0 cC1 cD0 cD1 cM0 cM1 cO0 cO1 cX0 cX1 cY0 cY1
      have HSb := Lib.hid (show ∀ W W', Below W.heap.size W W' → (W.cell? ⟨w.heap.size, 0, none⟩ = some (.int .i64 a0) ∧ W.cell? ⟨w.heap.size, 1, none⟩ = some (.int .i64 a1) ∧ W.cell? ⟨w.heap.size + 1, 0, none⟩ = some (.int .i64 b0) ∧ W.cell? ⟨w.heap.size + 1, 1, none⟩ = some (.int .i64 b1) ∧ W.cell? ⟨w.heap.size + 1 + 1, 0, none⟩ = some (.int .i64 c0) ∧ W.cell? ⟨w.heap.size + 1 + 1, 1, none⟩ = some (.int .i64 c1) ∧ W.cell? ⟨w.heap.size + 1 + 1 + 1, 0, none⟩ = some (.int .i64 d0) ∧ W.cell? ⟨w.heap.size + 1 + 1 + 1, 1, none⟩ = some (.int .i64 d1) ∧ Below w.heap.size w W) → (W'.cell? ⟨w.heap.size, 0, none⟩ = some (.int .i64 a0) ∧ W'.cell? ⟨w.heap.size, 1, none⟩ = some (.int .i64 a1) ∧ W'.cell? ⟨w.heap.size + 1, 0, none⟩ = some (.int .i64 b0) ∧ W'.cell? ⟨w.heap.size + 1, 1, none⟩ = some (.int .i64 b1) ∧ W'.cell? ⟨w.heap.size + 1 + 1, 0, none⟩ = some (.int .i64 c0) ∧ W'.cell? ⟨w.heap.size + 1 + 1, 1, none⟩ = some (.int .i64 c1) ∧ W'.cell? ⟨w.heap.size + 1 + 1 + 1, 0, none⟩ = some (.int .i64 d0) ∧ W'.cell? ⟨w.heap.size + 1 + 1 + 1, 1, none⟩ = some (.int .i64 d1) ∧ Below w.heap.size w W') from fun W W' hb h => by obtain ⟨h0, h1, h2, h3, h4, h5, h6, h7, h8⟩ := h; exact ⟨cell_below hb h0, cell_below hb h1, cell_below hb h2, cell_below hb h3, cell_below hb h4, cell_below hb h5, cell_below hb h6, cell_below hb h7, below_trans h8 hb⟩)
      have tb0 := s_call (S := (fun W => W.cell? ⟨w.heap.size, 0, none⟩ = some (.int .i64 a0) ∧ W.cell? ⟨w.heap.size, 1, none⟩ = some (.int .i64 a1) ∧ W.cell? ⟨w.heap.size + 1, 0, none⟩ = some (.int .i64 b0) ∧ W.cell? ⟨w.heap.size + 1, 1, none⟩ = some (.int .i64 b1) ∧ W.cell? ⟨w.heap.size + 1 + 1, 0, none⟩ = some (.int .i64 c0) ∧ W.cell? ⟨w.heap.size + 1 + 1, 1, none⟩ = some (.int .i64 c1) ∧ W.cell? ⟨w.heap.size + 1 + 1 + 1, 0, none⟩ = some (.int .i64 d0) ∧ W.cell? ⟨w.heap.size + 1 + 1 + 1, 1, none⟩ = some (.int .i64 d1) ∧ Below w.heap.size w W)) HSb.out J1.out
      try dsimp only at tb0
      have Qb0 := Lib.hid tb0
      clear tb0
      have tb1 := s_call (S := (fun W => W.cell? ⟨w.heap.size, 0, none⟩ = some (.int .i64 a0) ∧ W.cell? ⟨w.heap.size, 1, none⟩ = some (.int .i64 a1) ∧ W.cell? ⟨w.heap.size + 1, 0, none⟩ = some (.int .i64 b0) ∧ W.cell? ⟨w.heap.size + 1, 1, none⟩ = some (.int .i64 b1) ∧ W.cell? ⟨w.heap.size + 1 + 1, 0, none⟩ = some (.int .i64 c0) ∧ W.cell? ⟨w.heap.size + 1 + 1, 1, none⟩ = some (.int .i64 c1) ∧ W.cell? ⟨w.heap.size + 1 + 1 + 1, 0, none⟩ = some (.int .i64 d0) ∧ W.cell? ⟨w.heap.size + 1 + 1 + 1, 1, none⟩ = some (.int .i64 d1) ∧ Below w.heap.size w W)) HSb.out J2.out
      try dsimp only at tb1
      have Qb1 := Lib.hid tb1
      clear tb1
      have tb2 := s_call (S := (fun W => W.cell? ⟨w.heap.size, 0, none⟩ = some (.int .i64 a0) ∧ W.cell? ⟨w.heap.size, 1, none⟩ = some (.int .i64 a1) ∧ W.cell? ⟨w.heap.size + 1, 0, none⟩ = some (.int .i64 b0) ∧ W.cell? ⟨w.heap.size + 1, 1, none⟩ = some (.int .i64 b1) ∧ W.cell? ⟨w.heap.size + 1 + 1, 0, none⟩ = some (.int .i64 c0) ∧ W.cell? ⟨w.heap.size + 1 + 1, 1, none⟩ = some (.int .i64 c1) ∧ W.cell? ⟨w.heap.size + 1 + 1 + 1, 0, none⟩ = some (.int .i64 d0) ∧ W.cell? ⟨w.heap.size + 1 + 1 + 1, 1, none⟩ = some (.int .i64 d1) ∧ Below w.heap.size w W)) HSb.out V7.out
      try dsimp only at tb2
      have Qb2 := Lib.hid tb2
      clear tb2
      go_region_held3 (fun W => W.cell? ⟨w.heap.size, 0, none⟩ = some (.int .i64 a0) ∧ W.cell? ⟨w.heap.size, 1, none⟩ = some (.int .i64 a1) ∧ W.cell? ⟨w.heap.size + 1, 0, none⟩ = some (.int .i64 b0) ∧ W.cell? ⟨w.heap.size + 1, 1, none⟩ = some (.int .i64 b1) ∧ W.cell? ⟨w.heap.size + 1 + 1, 0, none⟩ = some (.int .i64 c0) ∧ W.cell? ⟨w.heap.size + 1 + 1, 1, none⟩ = some (.int .i64 c1) ∧ W.cell? ⟨w.heap.size + 1 + 1 + 1, 0, none⟩ = some (.int .i64 d0) ∧ W.cell? ⟨w.heap.size + 1 + 1 + 1, 1, none⟩ = some (.int .i64 d1) ∧ Below w.heap.size w W)
        (((try dsimp only); (refine ⟨?_, ?_, ?_, ?_, ?_, ?_, ?_, ?_, ?_⟩ <;> (first | assumption | exact A_19.out.1 | exact A_19.out.2 | exact B_19.out.1 | exact B_19.out.2 | exact C_19.out.1 | exact C_19.out.2 | exact D_19.out.1 | exact D_19.out.2 | exact ⟨HB19.out.os, HB19.out.tape, HB19.out.output, HB19.out.size, HB19.out.block⟩ | go_keep))))
        ((first
          | (go_at_call 23; with_reducible refine (Qb0.out _ ?_).mono ?_; assumption; rintro e w' ⟨rfl, zz0, zz1, zz2, zz3, zz4, zz5, zz6, zz7, zz8⟩)
          | (go_at_call 23; with_reducible refine (Qb1.out _ ?_).mono ?_; assumption; rintro e w' ⟨rfl, zz0, zz1, zz2, zz3, zz4, zz5, zz6, zz7, zz8⟩)
          | (go_at_call 25; with_reducible refine (Qb2.out _ ?_).mono ?_; assumption; rintro e w' ⟨rfl, zz0, zz1, zz2, zz3, zz4, zz5, zz6, zz7, zz8⟩)))
      have A_20 := Lib.hid (show Cl _ (w.heap.size) (a0) (a1) from ⟨zz0, zz1⟩)
      have B_20 := Lib.hid (show Cl _ (w.heap.size + 1) (b0) (b1) from ⟨zz2, zz3⟩)
      have C_20 := Lib.hid (show Cl _ (w.heap.size + 1 + 1) (c0) (c1) from ⟨zz4, zz5⟩)
      have D_20 := Lib.hid (show Cl _ (w.heap.size + 1 + 1 + 1) (d0) (d1) from ⟨zz6, zz7⟩)
      have HB20 := Lib.hid zz8
      clear zz0 zz1 zz2 zz3 zz4 zz5 zz6 zz7 zz8
      clear HSb Qb0 Qb1 Qb2
      clear A_19 B_19 C_19 D_19 M_19 O_19 X_19 Y_19 HB19
      go_wp2_with fail
      go_ret
      exact ⟨rfl, HB20.out⟩
  | true =>
    obtain ⟨rfl, rfl⟩ := k1 rfl
    clear k1
    cases four with
    | false =>
      clear k2
      have HB0 := Lib.hid (below_self w)
      have HB1 := Lib.hid (below_trans HB0.out (below_alloc w (.cells #[.int .i64 a0, .int .i64 a1] 23)))
      have A_1 := Lib.hid (Cl.at (w := w) (x := a0) (y := a1) (g := w.heap.size) (by simp))
      clear HB0 
      have HB2 := Lib.hid (below_trans HB1.out (below_alloc (w.alloc (.cells #[.int .i64 a0, .int .i64 a1] 23)) (.cells #[.int .i64 b0, .int .i64 b1] 23)))
      have A_2 := Lib.hid (A_1.out.alloc (.cells #[.int .i64 b0, .int .i64 b1] 23))
      have B_2 := Lib.hid (Cl.at (w := (w.alloc (.cells #[.int .i64 a0, .int .i64 a1] 23))) (x := b0) (y := b1) (g := w.heap.size + 1) (by simp))
      clear HB1 A_1
      have HB3 := Lib.hid (below_trans HB2.out (below_alloc ((w.alloc (.cells #[.int .i64 a0, .int .i64 a1] 23)).alloc (.cells #[.int .i64 b0, .int .i64 b1] 23)) (.cells #[.int .i64 c0, .int .i64 c1] 23)))
      have A_3 := Lib.hid (A_2.out.alloc (.cells #[.int .i64 c0, .int .i64 c1] 23))
      have B_3 := Lib.hid (B_2.out.alloc (.cells #[.int .i64 c0, .int .i64 c1] 23))
      have C_3 := Lib.hid (Cl.at (w := ((w.alloc (.cells #[.int .i64 a0, .int .i64 a1] 23)).alloc (.cells #[.int .i64 b0, .int .i64 b1] 23))) (x := c0) (y := c1) (g := w.heap.size + 1 + 1) (by simp))
      clear HB2 A_2 B_2
      have HB4 := Lib.hid (below_trans HB3.out (below_alloc (((w.alloc (.cells #[.int .i64 a0, .int .i64 a1] 23)).alloc (.cells #[.int .i64 b0, .int .i64 b1] 23)).alloc (.cells #[.int .i64 c0, .int .i64 c1] 23)) (.cells #[.int .i64 d0, .int .i64 d1] 23)))
      have A_4 := Lib.hid (A_3.out.alloc (.cells #[.int .i64 d0, .int .i64 d1] 23))
      have B_4 := Lib.hid (B_3.out.alloc (.cells #[.int .i64 d0, .int .i64 d1] 23))
      have C_4 := Lib.hid (C_3.out.alloc (.cells #[.int .i64 d0, .int .i64 d1] 23))
      have D_4 := Lib.hid (Cl.at (w := (((w.alloc (.cells #[.int .i64 a0, .int .i64 a1] 23)).alloc (.cells #[.int .i64 b0, .int .i64 b1] 23)).alloc (.cells #[.int .i64 c0, .int .i64 c1] 23))) (x := d0) (y := d1) (g := w.heap.size + 1 + 1 + 1) (by simp))
      clear HB3 A_3 B_3 C_3
      go_enter Try.func6, Try.ntmps6
      have cA0 := A_4.out.1
      have cA1 := A_4.out.2
      have cB0 := B_4.out.1
      have cB1 := B_4.out.2
      have cC0 := C_4.out.1
      have cC1 := C_4.out.2
      have cD0 := D_4.out.1
      have cD1 := D_4.out.2
      go_wp2_with fail
      clear cA0 cA1 cB0 cB1 cC0 cC1 cD0 cD1
      refine (SM.out _).mono ?_
      rintro e w5 ⟨rfl, hb⟩
      have HB5 := Lib.hid (below_trans HB4.out hb)
      have A_5 := Lib.hid (A_4.out.below hb)
      have B_5 := Lib.hid (B_4.out.below hb)
      have C_5 := Lib.hid (C_4.out.below hb)
      have D_5 := Lib.hid (D_4.out.below hb)
      clear hb HB4 A_4 B_4 C_4 D_4
      have cA0 := A_5.out.1
      have cA1 := A_5.out.2
      have cB0 := B_5.out.1
      have cB1 := B_5.out.2
      have cC0 := C_5.out.1
      have cC1 := C_5.out.2
      have cD0 := D_5.out.1
      have cD1 := D_5.out.2
      go_wp2_with fail
      clear cA0 cA1 cB0 cB1 cC0 cC1 cD0 cD1
      refine (R1.out _).mono ?_
      rintro e w6 ⟨rfl, hb⟩
      have HB6 := Lib.hid (below_trans HB5.out hb)
      have A_6 := Lib.hid (A_5.out.below hb)
      have B_6 := Lib.hid (B_5.out.below hb)
      have C_6 := Lib.hid (C_5.out.below hb)
      have D_6 := Lib.hid (D_5.out.below hb)
      clear hb HB5 A_5 B_5 C_5 D_5
      have cA0 := A_6.out.1
      have cA1 := A_6.out.2
      have cB0 := B_6.out.1
      have cB1 := B_6.out.2
      have cC0 := C_6.out.1
      have cC1 := C_6.out.2
      have cD0 := D_6.out.1
      have cD1 := D_6.out.2
      go_wp2_with fail
      clear cA0 cA1 cB0 cB1 cC0 cC1 cD0 cD1
      refine (R2.out _).mono ?_
      rintro e w7 ⟨rfl, hb⟩
      have HB7 := Lib.hid (below_trans HB6.out hb)
      have A_7 := Lib.hid (A_6.out.below hb)
      have B_7 := Lib.hid (B_6.out.below hb)
      have C_7 := Lib.hid (C_6.out.below hb)
      have D_7 := Lib.hid (D_6.out.below hb)
      clear hb HB6 A_6 B_6 C_6 D_6
      have cA0 := A_7.out.1
      have cA1 := A_7.out.2
      have cB0 := B_7.out.1
      have cB1 := B_7.out.2
      have cC0 := C_7.out.1
      have cC1 := C_7.out.2
      have cD0 := D_7.out.1
      have cD1 := D_7.out.2
      go_wp2_with fail
      clear cA0 cA1 cB0 cB1 cC0 cC1 cD0 cD1
      refine (V1.out _).mono ?_
      rintro e w8 ⟨rfl, hb⟩
      have HB8 := Lib.hid (below_trans HB7.out hb)
      have A_8 := Lib.hid (A_7.out.below hb)
      have B_8 := Lib.hid (B_7.out.below hb)
      have C_8 := Lib.hid (C_7.out.below hb)
      have D_8 := Lib.hid (D_7.out.below hb)
      clear hb HB7 A_7 B_7 C_7 D_7
      have cA0 := A_8.out.1
      have cA1 := A_8.out.2
      have cB0 := B_8.out.1
      have cB1 := B_8.out.2
      have cC0 := C_8.out.1
      have cC1 := C_8.out.2
      have cD0 := D_8.out.1
      have cD1 := D_8.out.2
      go_wp2_with fail
      clear cA0 cA1 cB0 cB1 cC0 cC1 cD0 cD1
      refine (V2.out _).mono ?_
      rintro e w9 ⟨rfl, hb⟩
      have HB9 := Lib.hid (below_trans HB8.out hb)
      have A_9 := Lib.hid (A_8.out.below hb)
      have B_9 := Lib.hid (B_8.out.below hb)
      have C_9 := Lib.hid (C_8.out.below hb)
      have D_9 := Lib.hid (D_8.out.below hb)
      clear hb HB8 A_8 B_8 C_8 D_8
      have cA0 := A_9.out.1
      have cA1 := A_9.out.2
      have cB0 := B_9.out.1
      have cB1 := B_9.out.2
      have cC0 := C_9.out.1
      have cC1 := C_9.out.2
      have cD0 := D_9.out.1
      have cD1 := D_9.out.2
      go_wp2_with fail
      clear cA0 cA1 cB0 cB1 cC0 cC1 cD0 cD1
      --GG
      have HSa := Lib.hid (show ∀ W W', Below W.heap.size W W' → (W.cell? ⟨w.heap.size, 0, none⟩ = some (.int .i64 a0) ∧ W.cell? ⟨w.heap.size, 1, none⟩ = some (.int .i64 a1) ∧ W.cell? ⟨w.heap.size + 1, 0, none⟩ = some (.int .i64 b0) ∧ W.cell? ⟨w.heap.size + 1, 1, none⟩ = some (.int .i64 b1) ∧ W.cell? ⟨w.heap.size + 1 + 1, 0, none⟩ = some (.int .i64 c0) ∧ W.cell? ⟨w.heap.size + 1 + 1, 1, none⟩ = some (.int .i64 c1) ∧ W.cell? ⟨w.heap.size + 1 + 1 + 1, 0, none⟩ = some (.int .i64 d0) ∧ W.cell? ⟨w.heap.size + 1 + 1 + 1, 1, none⟩ = some (.int .i64 d1) ∧ Below w.heap.size w W) → (W'.cell? ⟨w.heap.size, 0, none⟩ = some (.int .i64 a0) ∧ W'.cell? ⟨w.heap.size, 1, none⟩ = some (.int .i64 a1) ∧ W'.cell? ⟨w.heap.size + 1, 0, none⟩ = some (.int .i64 b0) ∧ W'.cell? ⟨w.heap.size + 1, 1, none⟩ = some (.int .i64 b1) ∧ W'.cell? ⟨w.heap.size + 1 + 1, 0, none⟩ = some (.int .i64 c0) ∧ W'.cell? ⟨w.heap.size + 1 + 1, 1, none⟩ = some (.int .i64 c1) ∧ W'.cell? ⟨w.heap.size + 1 + 1 + 1, 0, none⟩ = some (.int .i64 d0) ∧ W'.cell? ⟨w.heap.size + 1 + 1 + 1, 1, none⟩ = some (.int .i64 d1) ∧ Below w.heap.size w W') from fun W W' hb h => by obtain ⟨h0, h1, h2, h3, h4, h5, h6, h7, h8⟩ := h; exact ⟨cell_below hb h0, cell_below hb h1, cell_below hb h2, cell_below hb h3, cell_below hb h4, cell_below hb h5, cell_below hb h6, cell_below hb h7, below_trans h8 hb⟩)
      have ta0 := s_call (S := (fun W => W.cell? ⟨w.heap.size, 0, none⟩ = some (.int .i64 a0) ∧ W.cell? ⟨w.heap.size, 1, none⟩ = some (.int .i64 a1) ∧ W.cell? ⟨w.heap.size + 1, 0, none⟩ = some (.int .i64 b0) ∧ W.cell? ⟨w.heap.size + 1, 1, none⟩ = some (.int .i64 b1) ∧ W.cell? ⟨w.heap.size + 1 + 1, 0, none⟩ = some (.int .i64 c0) ∧ W.cell? ⟨w.heap.size + 1 + 1, 1, none⟩ = some (.int .i64 c1) ∧ W.cell? ⟨w.heap.size + 1 + 1 + 1, 0, none⟩ = some (.int .i64 d0) ∧ W.cell? ⟨w.heap.size + 1 + 1 + 1, 1, none⟩ = some (.int .i64 d1) ∧ Below w.heap.size w W)) HSa.out A1.out
      try dsimp only at ta0
      have Qa0 := Lib.hid ta0
      clear ta0
      have ta1 := s_call (S := (fun W => W.cell? ⟨w.heap.size, 0, none⟩ = some (.int .i64 a0) ∧ W.cell? ⟨w.heap.size, 1, none⟩ = some (.int .i64 a1) ∧ W.cell? ⟨w.heap.size + 1, 0, none⟩ = some (.int .i64 b0) ∧ W.cell? ⟨w.heap.size + 1, 1, none⟩ = some (.int .i64 b1) ∧ W.cell? ⟨w.heap.size + 1 + 1, 0, none⟩ = some (.int .i64 c0) ∧ W.cell? ⟨w.heap.size + 1 + 1, 1, none⟩ = some (.int .i64 c1) ∧ W.cell? ⟨w.heap.size + 1 + 1 + 1, 0, none⟩ = some (.int .i64 d0) ∧ W.cell? ⟨w.heap.size + 1 + 1 + 1, 1, none⟩ = some (.int .i64 d1) ∧ Below w.heap.size w W)) HSa.out A2.out
      try dsimp only at ta1
      have Qa1 := Lib.hid ta1
      clear ta1
      have ta2 := s_call (S := (fun W => W.cell? ⟨w.heap.size, 0, none⟩ = some (.int .i64 a0) ∧ W.cell? ⟨w.heap.size, 1, none⟩ = some (.int .i64 a1) ∧ W.cell? ⟨w.heap.size + 1, 0, none⟩ = some (.int .i64 b0) ∧ W.cell? ⟨w.heap.size + 1, 1, none⟩ = some (.int .i64 b1) ∧ W.cell? ⟨w.heap.size + 1 + 1, 0, none⟩ = some (.int .i64 c0) ∧ W.cell? ⟨w.heap.size + 1 + 1, 1, none⟩ = some (.int .i64 c1) ∧ W.cell? ⟨w.heap.size + 1 + 1 + 1, 0, none⟩ = some (.int .i64 d0) ∧ W.cell? ⟨w.heap.size + 1 + 1 + 1, 1, none⟩ = some (.int .i64 d1) ∧ Below w.heap.size w W)) HSa.out V3.out
      try dsimp only at ta2
      have Qa2 := Lib.hid ta2
      clear ta2
      have ta3 := s_call (S := (fun W => W.cell? ⟨w.heap.size, 0, none⟩ = some (.int .i64 a0) ∧ W.cell? ⟨w.heap.size, 1, none⟩ = some (.int .i64 a1) ∧ W.cell? ⟨w.heap.size + 1, 0, none⟩ = some (.int .i64 b0) ∧ W.cell? ⟨w.heap.size + 1, 1, none⟩ = some (.int .i64 b1) ∧ W.cell? ⟨w.heap.size + 1 + 1, 0, none⟩ = some (.int .i64 c0) ∧ W.cell? ⟨w.heap.size + 1 + 1, 1, none⟩ = some (.int .i64 c1) ∧ W.cell? ⟨w.heap.size + 1 + 1 + 1, 0, none⟩ = some (.int .i64 d0) ∧ W.cell? ⟨w.heap.size + 1 + 1 + 1, 1, none⟩ = some (.int .i64 d1) ∧ Below w.heap.size w W)) HSa.out U1.out
      try dsimp only at ta3
      have Qa3 := Lib.hid ta3
      clear ta3
      have ta4 := s_call (S := (fun W => W.cell? ⟨w.heap.size, 0, none⟩ = some (.int .i64 a0) ∧ W.cell? ⟨w.heap.size, 1, none⟩ = some (.int .i64 a1) ∧ W.cell? ⟨w.heap.size + 1, 0, none⟩ = some (.int .i64 b0) ∧ W.cell? ⟨w.heap.size + 1, 1, none⟩ = some (.int .i64 b1) ∧ W.cell? ⟨w.heap.size + 1 + 1, 0, none⟩ = some (.int .i64 c0) ∧ W.cell? ⟨w.heap.size + 1 + 1, 1, none⟩ = some (.int .i64 c1) ∧ W.cell? ⟨w.heap.size + 1 + 1 + 1, 0, none⟩ = some (.int .i64 d0) ∧ W.cell? ⟨w.heap.size + 1 + 1 + 1, 1, none⟩ = some (.int .i64 d1) ∧ Below w.heap.size w W)) HSa.out U2.out
      try dsimp only at ta4
      have Qa4 := Lib.hid ta4
      clear ta4
      have ta5 := s_call (S := (fun W => W.cell? ⟨w.heap.size, 0, none⟩ = some (.int .i64 a0) ∧ W.cell? ⟨w.heap.size, 1, none⟩ = some (.int .i64 a1) ∧ W.cell? ⟨w.heap.size + 1, 0, none⟩ = some (.int .i64 b0) ∧ W.cell? ⟨w.heap.size + 1, 1, none⟩ = some (.int .i64 b1) ∧ W.cell? ⟨w.heap.size + 1 + 1, 0, none⟩ = some (.int .i64 c0) ∧ W.cell? ⟨w.heap.size + 1 + 1, 1, none⟩ = some (.int .i64 c1) ∧ W.cell? ⟨w.heap.size + 1 + 1 + 1, 0, none⟩ = some (.int .i64 d0) ∧ W.cell? ⟨w.heap.size + 1 + 1 + 1, 1, none⟩ = some (.int .i64 d1) ∧ Below w.heap.size w W)) HSa.out V4.out
      try dsimp only at ta5
      have Qa5 := Lib.hid ta5
      clear ta5
      have ta6 := s_call (S := (fun W => W.cell? ⟨w.heap.size, 0, none⟩ = some (.int .i64 a0) ∧ W.cell? ⟨w.heap.size, 1, none⟩ = some (.int .i64 a1) ∧ W.cell? ⟨w.heap.size + 1, 0, none⟩ = some (.int .i64 b0) ∧ W.cell? ⟨w.heap.size + 1, 1, none⟩ = some (.int .i64 b1) ∧ W.cell? ⟨w.heap.size + 1 + 1, 0, none⟩ = some (.int .i64 c0) ∧ W.cell? ⟨w.heap.size + 1 + 1, 1, none⟩ = some (.int .i64 c1) ∧ W.cell? ⟨w.heap.size + 1 + 1 + 1, 0, none⟩ = some (.int .i64 d0) ∧ W.cell? ⟨w.heap.size + 1 + 1 + 1, 1, none⟩ = some (.int .i64 d1) ∧ Below w.heap.size w W)) HSa.out D1.out
      try dsimp only at ta6
      have Qa6 := Lib.hid ta6
      clear ta6
      have ta7 := s_call (S := (fun W => W.cell? ⟨w.heap.size, 0, none⟩ = some (.int .i64 a0) ∧ W.cell? ⟨w.heap.size, 1, none⟩ = some (.int .i64 a1) ∧ W.cell? ⟨w.heap.size + 1, 0, none⟩ = some (.int .i64 b0) ∧ W.cell? ⟨w.heap.size + 1, 1, none⟩ = some (.int .i64 b1) ∧ W.cell? ⟨w.heap.size + 1 + 1, 0, none⟩ = some (.int .i64 c0) ∧ W.cell? ⟨w.heap.size + 1 + 1, 1, none⟩ = some (.int .i64 c1) ∧ W.cell? ⟨w.heap.size + 1 + 1 + 1, 0, none⟩ = some (.int .i64 d0) ∧ W.cell? ⟨w.heap.size + 1 + 1 + 1, 1, none⟩ = some (.int .i64 d1) ∧ Below w.heap.size w W)) HSa.out D2.out
      try dsimp only at ta7
      have Qa7 := Lib.hid ta7
      clear ta7
      go_region_held3 (fun W => W.cell? ⟨w.heap.size, 0, none⟩ = some (.int .i64 a0) ∧ W.cell? ⟨w.heap.size, 1, none⟩ = some (.int .i64 a1) ∧ W.cell? ⟨w.heap.size + 1, 0, none⟩ = some (.int .i64 b0) ∧ W.cell? ⟨w.heap.size + 1, 1, none⟩ = some (.int .i64 b1) ∧ W.cell? ⟨w.heap.size + 1 + 1, 0, none⟩ = some (.int .i64 c0) ∧ W.cell? ⟨w.heap.size + 1 + 1, 1, none⟩ = some (.int .i64 c1) ∧ W.cell? ⟨w.heap.size + 1 + 1 + 1, 0, none⟩ = some (.int .i64 d0) ∧ W.cell? ⟨w.heap.size + 1 + 1 + 1, 1, none⟩ = some (.int .i64 d1) ∧ Below w.heap.size w W)
        (((try dsimp only); (refine ⟨?_, ?_, ?_, ?_, ?_, ?_, ?_, ?_, ?_⟩ <;> (first | assumption | exact A_9.out.1 | exact A_9.out.2 | exact B_9.out.1 | exact B_9.out.2 | exact C_9.out.1 | exact C_9.out.2 | exact D_9.out.1 | exact D_9.out.2 | exact ⟨HB9.out.os, HB9.out.tape, HB9.out.output, HB9.out.size, HB9.out.block⟩ | go_keep))))
        ((first
          | (go_at_call 19; with_reducible refine (Qa0.out _ ?_).mono ?_; assumption; rintro e w' ⟨rfl, zz0, zz1, zz2, zz3, zz4, zz5, zz6, zz7, zz8⟩)
          | (go_at_call 19; with_reducible refine (Qa1.out _ ?_).mono ?_; assumption; rintro e w' ⟨rfl, zz0, zz1, zz2, zz3, zz4, zz5, zz6, zz7, zz8⟩)
          | (go_at_call 25; with_reducible refine (Qa2.out _ ?_).mono ?_; assumption; rintro e w' ⟨rfl, zz0, zz1, zz2, zz3, zz4, zz5, zz6, zz7, zz8⟩)
          | (go_at_call 21; with_reducible refine (Qa3.out _ ?_).mono ?_; assumption; rintro e w' ⟨rfl, zz0, zz1, zz2, zz3, zz4, zz5, zz6, zz7, zz8⟩)
          | (go_at_call 21; with_reducible refine (Qa4.out _ ?_).mono ?_; assumption; rintro e w' ⟨rfl, zz0, zz1, zz2, zz3, zz4, zz5, zz6, zz7, zz8⟩)
          | (go_at_call 25; with_reducible refine (Qa5.out _ ?_).mono ?_; assumption; rintro e w' ⟨rfl, zz0, zz1, zz2, zz3, zz4, zz5, zz6, zz7, zz8⟩)
          | (go_at_call 27; with_reducible refine (Qa6.out _ ?_).mono ?_; assumption; rintro e w' ⟨rfl, zz0, zz1, zz2, zz3, zz4, zz5, zz6, zz7, zz8⟩)
          | (go_at_call 27; with_reducible refine (Qa7.out _ ?_).mono ?_; assumption; rintro e w' ⟨rfl, zz0, zz1, zz2, zz3, zz4, zz5, zz6, zz7, zz8⟩)))
      have A_10 := Lib.hid (show Cl _ (w.heap.size) (a0) (a1) from ⟨zz0, zz1⟩)
      have B_10 := Lib.hid (show Cl _ (w.heap.size + 1) (b0) (b1) from ⟨zz2, zz3⟩)
      have C_10 := Lib.hid (show Cl _ (w.heap.size + 1 + 1) (c0) (c1) from ⟨zz4, zz5⟩)
      have D_10 := Lib.hid (show Cl _ (w.heap.size + 1 + 1 + 1) (d0) (d1) from ⟨zz6, zz7⟩)
      have HB10 := Lib.hid zz8
      clear zz0 zz1 zz2 zz3 zz4 zz5 zz6 zz7 zz8
      clear HSa Qa0 Qa1 Qa2 Qa3 Qa4 Qa5 Qa6 Qa7
      clear A_9 B_9 C_9 D_9 HB9
      have cA0 := A_10.out.1
      have cA1 := A_10.out.2
      have cB0 := B_10.out.1
      have cB1 := B_10.out.2
      have cC0 := C_10.out.1
      have cC1 := C_10.out.2
      have cD0 := D_10.out.1
      have cD1 := D_10.out.2
      go_wp2_with fail
      clear cA0 cA1 cB0 cB1 cC0 cC1 cD0 cD1
      refine (M1.out _).mono ?_
      rintro e w11 ⟨rfl, hb⟩
      have HB11 := Lib.hid (below_trans HB10.out hb)
      have A_11 := Lib.hid (A_10.out.below hb)
      have B_11 := Lib.hid (B_10.out.below hb)
      have C_11 := Lib.hid (C_10.out.below hb)
      have D_11 := Lib.hid (D_10.out.below hb)
      clear hb HB10 A_10 B_10 C_10 D_10
      have HB12 := Lib.hid (below_trans HB11.out (below_alloc w11 (.cells #[.int .i64 m0, .int .i64 m1] 23)))
      have A_12 := Lib.hid (A_11.out.alloc (.cells #[.int .i64 m0, .int .i64 m1] 23))
      have B_12 := Lib.hid (B_11.out.alloc (.cells #[.int .i64 m0, .int .i64 m1] 23))
      have C_12 := Lib.hid (C_11.out.alloc (.cells #[.int .i64 m0, .int .i64 m1] 23))
      have D_12 := Lib.hid (D_11.out.alloc (.cells #[.int .i64 m0, .int .i64 m1] 23))
      have M_12 := Lib.hid (Cl.at (w := w11) (x := m0) (y := m1) (g := w11.heap.size) (by simp))
      clear HB11 A_11 B_11 C_11 D_11
      have cA0 := A_12.out.1
      have cA1 := A_12.out.2
      have cB0 := B_12.out.1
      have cB1 := B_12.out.2
      have cC0 := C_12.out.1
      have cC1 := C_12.out.2
      have cD0 := D_12.out.1
      have cD1 := D_12.out.2
      have cM0 := M_12.out.1
      have cM1 := M_12.out.2
      go_wp2_with fail
      clear cA0 cA1 cB0 cB1 cC0 cC1 cD0 cD1 cM0 cM1
      refine (M2.out _).mono ?_
      rintro e w13 ⟨rfl, hb⟩
      have HB13 := Lib.hid (below_trans HB12.out hb)
      have A_13 := Lib.hid (A_12.out.below hb)
      have B_13 := Lib.hid (B_12.out.below hb)
      have C_13 := Lib.hid (C_12.out.below hb)
      have D_13 := Lib.hid (D_12.out.below hb)
      have M_13 := Lib.hid (M_12.out.below hb)
      clear hb HB12 A_12 B_12 C_12 D_12 M_12
      have HB14 := Lib.hid (below_trans HB13.out (below_alloc w13 (.cells #[.int .i64 o0, .int .i64 o1] 23)))
      have A_14 := Lib.hid (A_13.out.alloc (.cells #[.int .i64 o0, .int .i64 o1] 23))
      have B_14 := Lib.hid (B_13.out.alloc (.cells #[.int .i64 o0, .int .i64 o1] 23))
      have C_14 := Lib.hid (C_13.out.alloc (.cells #[.int .i64 o0, .int .i64 o1] 23))
      have D_14 := Lib.hid (D_13.out.alloc (.cells #[.int .i64 o0, .int .i64 o1] 23))
      have M_14 := Lib.hid (M_13.out.alloc (.cells #[.int .i64 o0, .int .i64 o1] 23))
      have O_14 := Lib.hid (Cl.at (w := w13) (x := o0) (y := o1) (g := w13.heap.size) (by simp))
      clear HB13 A_13 B_13 C_13 D_13 M_13
      have cA0 := A_14.out.1
      have cA1 := A_14.out.2
      have cB0 := B_14.out.1
      have cB1 := B_14.out.2
      have cC0 := C_14.out.1
      have cC1 := C_14.out.2
      have cD0 := D_14.out.1
      have cD1 := D_14.out.2
      have cM0 := M_14.out.1
      have cM1 := M_14.out.2
      have cO0 := O_14.out.1
      have cO1 := O_14.out.2
      go_wp2_with fail
      clear cA0 cA1 cB0 cB1 cC0 cC1 cD0 cD1 cM0 cM1 cO0 cO1
      refine (S1.out _).mono ?_
      rintro e w15 ⟨rfl, hb⟩
      have HB15 := Lib.hid (below_trans HB14.out hb)
      have A_15 := Lib.hid (A_14.out.below hb)
      have B_15 := Lib.hid (B_14.out.below hb)
      have C_15 := Lib.hid (C_14.out.below hb)
      have D_15 := Lib.hid (D_14.out.below hb)
      have M_15 := Lib.hid (M_14.out.below hb)
      have O_15 := Lib.hid (O_14.out.below hb)
      clear hb HB14 A_14 B_14 C_14 D_14 M_14 O_14
      have HB16 := Lib.hid (below_trans HB15.out (below_alloc w15 (.cells #[.int .i64 x0, .int .i64 x1] 23)))
      have A_16 := Lib.hid (A_15.out.alloc (.cells #[.int .i64 x0, .int .i64 x1] 23))
      have B_16 := Lib.hid (B_15.out.alloc (.cells #[.int .i64 x0, .int .i64 x1] 23))
      have C_16 := Lib.hid (C_15.out.alloc (.cells #[.int .i64 x0, .int .i64 x1] 23))
      have D_16 := Lib.hid (D_15.out.alloc (.cells #[.int .i64 x0, .int .i64 x1] 23))
      have M_16 := Lib.hid (M_15.out.alloc (.cells #[.int .i64 x0, .int .i64 x1] 23))
      have O_16 := Lib.hid (O_15.out.alloc (.cells #[.int .i64 x0, .int .i64 x1] 23))
      have X_16 := Lib.hid (Cl.at (w := w15) (x := x0) (y := x1) (g := w15.heap.size) (by simp))
      clear HB15 A_15 B_15 C_15 D_15 M_15 O_15
      have cA0 := A_16.out.1
      have cA1 := A_16.out.2
      have cB0 := B_16.out.1
      have cB1 := B_16.out.2
      have cC0 := C_16.out.1
      have cC1 := C_16.out.2
      have cD0 := D_16.out.1
      have cD1 := D_16.out.2
      have cM0 := M_16.out.1
      have cM1 := M_16.out.2
      have cO0 := O_16.out.1
      have cO1 := O_16.out.2
      have cX0 := X_16.out.1
      have cX1 := X_16.out.2
      go_wp2_with fail
      clear cA0 cA1 cB0 cB1 cC0 cC1 cD0 cD1 cM0 cM1 cO0 cO1 cX0 cX1
      refine (S2.out _).mono ?_
      rintro e w17 ⟨rfl, hb⟩
      have HB17 := Lib.hid (below_trans HB16.out hb)
      have A_17 := Lib.hid (A_16.out.below hb)
      have B_17 := Lib.hid (B_16.out.below hb)
      have C_17 := Lib.hid (C_16.out.below hb)
      have D_17 := Lib.hid (D_16.out.below hb)
      have M_17 := Lib.hid (M_16.out.below hb)
      have O_17 := Lib.hid (O_16.out.below hb)
      have X_17 := Lib.hid (X_16.out.below hb)
      clear hb HB16 A_16 B_16 C_16 D_16 M_16 O_16 X_16
      have HB18 := Lib.hid (below_trans HB17.out (below_alloc w17 (.cells #[.int .i64 y0, .int .i64 y1] 23)))
      have A_18 := Lib.hid (A_17.out.alloc (.cells #[.int .i64 y0, .int .i64 y1] 23))
      have B_18 := Lib.hid (B_17.out.alloc (.cells #[.int .i64 y0, .int .i64 y1] 23))
      have C_18 := Lib.hid (C_17.out.alloc (.cells #[.int .i64 y0, .int .i64 y1] 23))
      have D_18 := Lib.hid (D_17.out.alloc (.cells #[.int .i64 y0, .int .i64 y1] 23))
      have M_18 := Lib.hid (M_17.out.alloc (.cells #[.int .i64 y0, .int .i64 y1] 23))
      have O_18 := Lib.hid (O_17.out.alloc (.cells #[.int .i64 y0, .int .i64 y1] 23))
      have X_18 := Lib.hid (X_17.out.alloc (.cells #[.int .i64 y0, .int .i64 y1] 23))
      have Y_18 := Lib.hid (Cl.at (w := w17) (x := y0) (y := y1) (g := w17.heap.size) (by simp))
      clear HB17 A_17 B_17 C_17 D_17 M_17 O_17 X_17
      have cA0 := A_18.out.1
      have cA1 := A_18.out.2
      have cB0 := B_18.out.1
      have cB1 := B_18.out.2
      have cC0 := C_18.out.1
      have cC1 := C_18.out.2
      have cD0 := D_18.out.1
      have cD1 := D_18.out.2
      have cM0 := M_18.out.1
      have cM1 := M_18.out.2
      have cO0 := O_18.out.1
      have cO1 := O_18.out.2
      have cX0 := X_18.out.1
      have cX1 := X_18.out.2
      have cY0 := Y_18.out.1
      have cY1 := Y_18.out.2
      go_wp2_with fail
      clear cA0 cA1 cB0 cB1 cC0 cC1 cD0 cD1 cM0 cM1 cO0 cO1 cX0 cX1 cY0 cY1
      refine (V5.out _).mono ?_
      rintro e w19 ⟨rfl, hb⟩
      have HB19 := Lib.hid (below_trans HB18.out hb)
      have A_19 := Lib.hid (A_18.out.below hb)
      have B_19 := Lib.hid (B_18.out.below hb)
      have C_19 := Lib.hid (C_18.out.below hb)
      have D_19 := Lib.hid (D_18.out.below hb)
      have M_19 := Lib.hid (M_18.out.below hb)
      have O_19 := Lib.hid (O_18.out.below hb)
      have X_19 := Lib.hid (X_18.out.below hb)
      have Y_19 := Lib.hid (Y_18.out.below hb)
      clear hb HB18 A_18 B_18 C_18 D_18 M_18 O_18 X_18 Y_18
      have cA0 := A_19.out.1
      have cA1 := A_19.out.2
      have cB0 := B_19.out.1
      have cB1 := B_19.out.2
      have cC0 := C_19.out.1
      have cC1 := C_19.out.2
      have cD0 := D_19.out.1
      have cD1 := D_19.out.2
      have cM0 := M_19.out.1
      have cM1 := M_19.out.2
      have cO0 := O_19.out.1
      have cO1 := O_19.out.2
      have cX0 := X_19.out.1
      have cX1 := X_19.out.2
      have cY0 := Y_19.out.1
      have cY1 := Y_19.out.2
      go_wp2_with fail
      clear cA0 cA1 cB0 cB1 cC0 cC1 cD0 cD1 cM0 cM1 cO0 cO1 cX0 cX1 cY0 cY1
      have HSb := Lib.hid (show ∀ W W', Below W.heap.size W W' → (W.cell? ⟨w.heap.size, 0, none⟩ = some (.int .i64 a0) ∧ W.cell? ⟨w.heap.size, 1, none⟩ = some (.int .i64 a1) ∧ W.cell? ⟨w.heap.size + 1, 0, none⟩ = some (.int .i64 b0) ∧ W.cell? ⟨w.heap.size + 1, 1, none⟩ = some (.int .i64 b1) ∧ W.cell? ⟨w.heap.size + 1 + 1, 0, none⟩ = some (.int .i64 c0) ∧ W.cell? ⟨w.heap.size + 1 + 1, 1, none⟩ = some (.int .i64 c1) ∧ W.cell? ⟨w.heap.size + 1 + 1 + 1, 0, none⟩ = some (.int .i64 d0) ∧ W.cell? ⟨w.heap.size + 1 + 1 + 1, 1, none⟩ = some (.int .i64 d1) ∧ Below w.heap.size w W) → (W'.cell? ⟨w.heap.size, 0, none⟩ = some (.int .i64 a0) ∧ W'.cell? ⟨w.heap.size, 1, none⟩ = some (.int .i64 a1) ∧ W'.cell? ⟨w.heap.size + 1, 0, none⟩ = some (.int .i64 b0) ∧ W'.cell? ⟨w.heap.size + 1, 1, none⟩ = some (.int .i64 b1) ∧ W'.cell? ⟨w.heap.size + 1 + 1, 0, none⟩ = some (.int .i64 c0) ∧ W'.cell? ⟨w.heap.size + 1 + 1, 1, none⟩ = some (.int .i64 c1) ∧ W'.cell? ⟨w.heap.size + 1 + 1 + 1, 0, none⟩ = some (.int .i64 d0) ∧ W'.cell? ⟨w.heap.size + 1 + 1 + 1, 1, none⟩ = some (.int .i64 d1) ∧ Below w.heap.size w W') from fun W W' hb h => by obtain ⟨h0, h1, h2, h3, h4, h5, h6, h7, h8⟩ := h; exact ⟨cell_below hb h0, cell_below hb h1, cell_below hb h2, cell_below hb h3, cell_below hb h4, cell_below hb h5, cell_below hb h6, cell_below hb h7, below_trans h8 hb⟩)
      have tb0 := s_call (S := (fun W => W.cell? ⟨w.heap.size, 0, none⟩ = some (.int .i64 a0) ∧ W.cell? ⟨w.heap.size, 1, none⟩ = some (.int .i64 a1) ∧ W.cell? ⟨w.heap.size + 1, 0, none⟩ = some (.int .i64 b0) ∧ W.cell? ⟨w.heap.size + 1, 1, none⟩ = some (.int .i64 b1) ∧ W.cell? ⟨w.heap.size + 1 + 1, 0, none⟩ = some (.int .i64 c0) ∧ W.cell? ⟨w.heap.size + 1 + 1, 1, none⟩ = some (.int .i64 c1) ∧ W.cell? ⟨w.heap.size + 1 + 1 + 1, 0, none⟩ = some (.int .i64 d0) ∧ W.cell? ⟨w.heap.size + 1 + 1 + 1, 1, none⟩ = some (.int .i64 d1) ∧ Below w.heap.size w W)) HSb.out J1.out
      try dsimp only at tb0
      have Qb0 := Lib.hid tb0
      clear tb0
      have tb1 := s_call (S := (fun W => W.cell? ⟨w.heap.size, 0, none⟩ = some (.int .i64 a0) ∧ W.cell? ⟨w.heap.size, 1, none⟩ = some (.int .i64 a1) ∧ W.cell? ⟨w.heap.size + 1, 0, none⟩ = some (.int .i64 b0) ∧ W.cell? ⟨w.heap.size + 1, 1, none⟩ = some (.int .i64 b1) ∧ W.cell? ⟨w.heap.size + 1 + 1, 0, none⟩ = some (.int .i64 c0) ∧ W.cell? ⟨w.heap.size + 1 + 1, 1, none⟩ = some (.int .i64 c1) ∧ W.cell? ⟨w.heap.size + 1 + 1 + 1, 0, none⟩ = some (.int .i64 d0) ∧ W.cell? ⟨w.heap.size + 1 + 1 + 1, 1, none⟩ = some (.int .i64 d1) ∧ Below w.heap.size w W)) HSb.out J2.out
      try dsimp only at tb1
      have Qb1 := Lib.hid tb1
      clear tb1
      have tb2 := s_call (S := (fun W => W.cell? ⟨w.heap.size, 0, none⟩ = some (.int .i64 a0) ∧ W.cell? ⟨w.heap.size, 1, none⟩ = some (.int .i64 a1) ∧ W.cell? ⟨w.heap.size + 1, 0, none⟩ = some (.int .i64 b0) ∧ W.cell? ⟨w.heap.size + 1, 1, none⟩ = some (.int .i64 b1) ∧ W.cell? ⟨w.heap.size + 1 + 1, 0, none⟩ = some (.int .i64 c0) ∧ W.cell? ⟨w.heap.size + 1 + 1, 1, none⟩ = some (.int .i64 c1) ∧ W.cell? ⟨w.heap.size + 1 + 1 + 1, 0, none⟩ = some (.int .i64 d0) ∧ W.cell? ⟨w.heap.size + 1 + 1 + 1, 1, none⟩ = some (.int .i64 d1) ∧ Below w.heap.size w W)) HSb.out V7.out
      try dsimp only at tb2
      have Qb2 := Lib.hid tb2
      clear tb2
      go_region_held3 (fun W => W.cell? ⟨w.heap.size, 0, none⟩ = some (.int .i64 a0) ∧ W.cell? ⟨w.heap.size, 1, none⟩ = some (.int .i64 a1) ∧ W.cell? ⟨w.heap.size + 1, 0, none⟩ = some (.int .i64 b0) ∧ W.cell? ⟨w.heap.size + 1, 1, none⟩ = some (.int .i64 b1) ∧ W.cell? ⟨w.heap.size + 1 + 1, 0, none⟩ = some (.int .i64 c0) ∧ W.cell? ⟨w.heap.size + 1 + 1, 1, none⟩ = some (.int .i64 c1) ∧ W.cell? ⟨w.heap.size + 1 + 1 + 1, 0, none⟩ = some (.int .i64 d0) ∧ W.cell? ⟨w.heap.size + 1 + 1 + 1, 1, none⟩ = some (.int .i64 d1) ∧ Below w.heap.size w W)
        (((try dsimp only); (refine ⟨?_, ?_, ?_, ?_, ?_, ?_, ?_, ?_, ?_⟩ <;> (first | assumption | exact A_19.out.1 | exact A_19.out.2 | exact B_19.out.1 | exact B_19.out.2 | exact C_19.out.1 | exact C_19.out.2 | exact D_19.out.1 | exact D_19.out.2 | exact ⟨HB19.out.os, HB19.out.tape, HB19.out.output, HB19.out.size, HB19.out.block⟩ | go_keep))))
        ((first
          | (go_at_call 23; with_reducible refine (Qb0.out _ ?_).mono ?_; assumption; rintro e w' ⟨rfl, zz0, zz1, zz2, zz3, zz4, zz5, zz6, zz7, zz8⟩)
          | (go_at_call 23; with_reducible refine (Qb1.out _ ?_).mono ?_; assumption; rintro e w' ⟨rfl, zz0, zz1, zz2, zz3, zz4, zz5, zz6, zz7, zz8⟩)
          | (go_at_call 25; with_reducible refine (Qb2.out _ ?_).mono ?_; assumption; rintro e w' ⟨rfl, zz0, zz1, zz2, zz3, zz4, zz5, zz6, zz7, zz8⟩)))
      have A_20 := Lib.hid (show Cl _ (w.heap.size) (a0) (a1) from ⟨zz0, zz1⟩)
      have B_20 := Lib.hid (show Cl _ (w.heap.size + 1) (b0) (b1) from ⟨zz2, zz3⟩)
      have C_20 := Lib.hid (show Cl _ (w.heap.size + 1 + 1) (c0) (c1) from ⟨zz4, zz5⟩)
      have D_20 := Lib.hid (show Cl _ (w.heap.size + 1 + 1 + 1) (d0) (d1) from ⟨zz6, zz7⟩)
      have HB20 := Lib.hid zz8
      clear zz0 zz1 zz2 zz3 zz4 zz5 zz6 zz7 zz8
      clear HSb Qb0 Qb1 Qb2
      clear A_19 B_19 C_19 D_19 M_19 O_19 X_19 Y_19 HB19
      go_wp2_with fail
      go_ret
      exact ⟨rfl, HB20.out⟩
    | true =>
      obtain ⟨rfl, rfl⟩ := k2 rfl
      clear k2
      have HB0 := Lib.hid (below_self w)
      have HB1 := Lib.hid (below_trans HB0.out (below_alloc w (.cells #[.int .i64 a0, .int .i64 a1] 23)))
      have A_1 := Lib.hid (Cl.at (w := w) (x := a0) (y := a1) (g := w.heap.size) (by simp))
      clear HB0 
      have HB2 := Lib.hid (below_trans HB1.out (below_alloc (w.alloc (.cells #[.int .i64 a0, .int .i64 a1] 23)) (.cells #[.int .i64 b0, .int .i64 b1] 23)))
      have A_2 := Lib.hid (A_1.out.alloc (.cells #[.int .i64 b0, .int .i64 b1] 23))
      have B_2 := Lib.hid (Cl.at (w := (w.alloc (.cells #[.int .i64 a0, .int .i64 a1] 23))) (x := b0) (y := b1) (g := w.heap.size + 1) (by simp))
      clear HB1 A_1
      have HB3 := Lib.hid (below_trans HB2.out (below_alloc ((w.alloc (.cells #[.int .i64 a0, .int .i64 a1] 23)).alloc (.cells #[.int .i64 b0, .int .i64 b1] 23)) (.cells #[.int .i64 c0, .int .i64 c1] 23)))
      have A_3 := Lib.hid (A_2.out.alloc (.cells #[.int .i64 c0, .int .i64 c1] 23))
      have B_3 := Lib.hid (B_2.out.alloc (.cells #[.int .i64 c0, .int .i64 c1] 23))
      have C_3 := Lib.hid (Cl.at (w := ((w.alloc (.cells #[.int .i64 a0, .int .i64 a1] 23)).alloc (.cells #[.int .i64 b0, .int .i64 b1] 23))) (x := c0) (y := c1) (g := w.heap.size + 1 + 1) (by simp))
      clear HB2 A_2 B_2
      have HB4 := Lib.hid (below_trans HB3.out (below_alloc (((w.alloc (.cells #[.int .i64 a0, .int .i64 a1] 23)).alloc (.cells #[.int .i64 b0, .int .i64 b1] 23)).alloc (.cells #[.int .i64 c0, .int .i64 c1] 23)) (.cells #[.int .i64 d0, .int .i64 d1] 23)))
      have A_4 := Lib.hid (A_3.out.alloc (.cells #[.int .i64 d0, .int .i64 d1] 23))
      have B_4 := Lib.hid (B_3.out.alloc (.cells #[.int .i64 d0, .int .i64 d1] 23))
      have C_4 := Lib.hid (C_3.out.alloc (.cells #[.int .i64 d0, .int .i64 d1] 23))
      have D_4 := Lib.hid (Cl.at (w := (((w.alloc (.cells #[.int .i64 a0, .int .i64 a1] 23)).alloc (.cells #[.int .i64 b0, .int .i64 b1] 23)).alloc (.cells #[.int .i64 c0, .int .i64 c1] 23))) (x := d0) (y := d1) (g := w.heap.size + 1 + 1 + 1) (by simp))
      clear HB3 A_3 B_3 C_3
      go_enter Try.func6, Try.ntmps6
      have cA0 := A_4.out.1
      have cA1 := A_4.out.2
      have cB0 := B_4.out.1
      have cB1 := B_4.out.2
      have cC0 := C_4.out.1
      have cC1 := C_4.out.2
      have cD0 := D_4.out.1
      have cD1 := D_4.out.2
      go_wp2_with fail
      clear cA0 cA1 cB0 cB1 cC0 cC1 cD0 cD1
      refine (SM.out _).mono ?_
      rintro e w5 ⟨rfl, hb⟩
      have HB5 := Lib.hid (below_trans HB4.out hb)
      have A_5 := Lib.hid (A_4.out.below hb)
      have B_5 := Lib.hid (B_4.out.below hb)
      have C_5 := Lib.hid (C_4.out.below hb)
      have D_5 := Lib.hid (D_4.out.below hb)
      clear hb HB4 A_4 B_4 C_4 D_4
      have cA0 := A_5.out.1
      have cA1 := A_5.out.2
      have cB0 := B_5.out.1
      have cB1 := B_5.out.2
      have cC0 := C_5.out.1
      have cC1 := C_5.out.2
      have cD0 := D_5.out.1
      have cD1 := D_5.out.2
      go_wp2_with fail
      clear cA0 cA1 cB0 cB1 cC0 cC1 cD0 cD1
      refine (R1.out _).mono ?_
      rintro e w6 ⟨rfl, hb⟩
      have HB6 := Lib.hid (below_trans HB5.out hb)
      have A_6 := Lib.hid (A_5.out.below hb)
      have B_6 := Lib.hid (B_5.out.below hb)
      have C_6 := Lib.hid (C_5.out.below hb)
      have D_6 := Lib.hid (D_5.out.below hb)
      clear hb HB5 A_5 B_5 C_5 D_5
      have cA0 := A_6.out.1
      have cA1 := A_6.out.2
      have cB0 := B_6.out.1
      have cB1 := B_6.out.2
      have cC0 := C_6.out.1
      have cC1 := C_6.out.2
      have cD0 := D_6.out.1
      have cD1 := D_6.out.2
      go_wp2_with fail
      clear cA0 cA1 cB0 cB1 cC0 cC1 cD0 cD1
      refine (R2.out _).mono ?_
      rintro e w7 ⟨rfl, hb⟩
      have HB7 := Lib.hid (below_trans HB6.out hb)
      have A_7 := Lib.hid (A_6.out.below hb)
      have B_7 := Lib.hid (B_6.out.below hb)
      have C_7 := Lib.hid (C_6.out.below hb)
      have D_7 := Lib.hid (D_6.out.below hb)
      clear hb HB6 A_6 B_6 C_6 D_6
      have cA0 := A_7.out.1
      have cA1 := A_7.out.2
      have cB0 := B_7.out.1
      have cB1 := B_7.out.2
      have cC0 := C_7.out.1
      have cC1 := C_7.out.2
      have cD0 := D_7.out.1
      have cD1 := D_7.out.2
      go_wp2_with fail
      clear cA0 cA1 cB0 cB1 cC0 cC1 cD0 cD1
      refine (V1.out _).mono ?_
      rintro e w8 ⟨rfl, hb⟩
      have HB8 := Lib.hid (below_trans HB7.out hb)
      have A_8 := Lib.hid (A_7.out.below hb)
      have B_8 := Lib.hid (B_7.out.below hb)
      have C_8 := Lib.hid (C_7.out.below hb)
      have D_8 := Lib.hid (D_7.out.below hb)
      clear hb HB7 A_7 B_7 C_7 D_7
      have cA0 := A_8.out.1
      have cA1 := A_8.out.2
      have cB0 := B_8.out.1
      have cB1 := B_8.out.2
      have cC0 := C_8.out.1
      have cC1 := C_8.out.2
      have cD0 := D_8.out.1
      have cD1 := D_8.out.2
      go_wp2_with fail
      clear cA0 cA1 cB0 cB1 cC0 cC1 cD0 cD1
      refine (V2.out _).mono ?_
      rintro e w9 ⟨rfl, hb⟩
      have HB9 := Lib.hid (below_trans HB8.out hb)
      have A_9 := Lib.hid (A_8.out.below hb)
      have B_9 := Lib.hid (B_8.out.below hb)
      have C_9 := Lib.hid (C_8.out.below hb)
      have D_9 := Lib.hid (D_8.out.below hb)
      clear hb HB8 A_8 B_8 C_8 D_8
      have cA0 := A_9.out.1
      have cA1 := A_9.out.2
      have cB0 := B_9.out.1
      have cB1 := B_9.out.2
      have cC0 := C_9.out.1
      have cC1 := C_9.out.2
      have cD0 := D_9.out.1
      have cD1 := D_9.out.2
      go_wp2_with fail
      clear cA0 cA1 cB0 cB1 cC0 cC1 cD0 cD1
      --GG
      have HSa := Lib.hid (show ∀ W W', Below W.heap.size W W' → (W.cell? ⟨w.heap.size, 0, none⟩ = some (.int .i64 a0) ∧ W.cell? ⟨w.heap.size, 1, none⟩ = some (.int .i64 a1) ∧ W.cell? ⟨w.heap.size + 1, 0, none⟩ = some (.int .i64 b0) ∧ W.cell? ⟨w.heap.size + 1, 1, none⟩ = some (.int .i64 b1) ∧ W.cell? ⟨w.heap.size + 1 + 1, 0, none⟩ = some (.int .i64 c0) ∧ W.cell? ⟨w.heap.size + 1 + 1, 1, none⟩ = some (.int .i64 c1) ∧ W.cell? ⟨w.heap.size + 1 + 1 + 1, 0, none⟩ = some (.int .i64 d0) ∧ W.cell? ⟨w.heap.size + 1 + 1 + 1, 1, none⟩ = some (.int .i64 d1) ∧ Below w.heap.size w W) → (W'.cell? ⟨w.heap.size, 0, none⟩ = some (.int .i64 a0) ∧ W'.cell? ⟨w.heap.size, 1, none⟩ = some (.int .i64 a1) ∧ W'.cell? ⟨w.heap.size + 1, 0, none⟩ = some (.int .i64 b0) ∧ W'.cell? ⟨w.heap.size + 1, 1, none⟩ = some (.int .i64 b1) ∧ W'.cell? ⟨w.heap.size + 1 + 1, 0, none⟩ = some (.int .i64 c0) ∧ W'.cell? ⟨w.heap.size + 1 + 1, 1, none⟩ = some (.int .i64 c1) ∧ W'.cell? ⟨w.heap.size + 1 + 1 + 1, 0, none⟩ = some (.int .i64 d0) ∧ W'.cell? ⟨w.heap.size + 1 + 1 + 1, 1, none⟩ = some (.int .i64 d1) ∧ Below w.heap.size w W') from fun W W' hb h => by obtain ⟨h0, h1, h2, h3, h4, h5, h6, h7, h8⟩ := h; exact ⟨cell_below hb h0, cell_below hb h1, cell_below hb h2, cell_below hb h3, cell_below hb h4, cell_below hb h5, cell_below hb h6, cell_below hb h7, below_trans h8 hb⟩)
      have ta0 := s_call (S := (fun W => W.cell? ⟨w.heap.size, 0, none⟩ = some (.int .i64 a0) ∧ W.cell? ⟨w.heap.size, 1, none⟩ = some (.int .i64 a1) ∧ W.cell? ⟨w.heap.size + 1, 0, none⟩ = some (.int .i64 b0) ∧ W.cell? ⟨w.heap.size + 1, 1, none⟩ = some (.int .i64 b1) ∧ W.cell? ⟨w.heap.size + 1 + 1, 0, none⟩ = some (.int .i64 c0) ∧ W.cell? ⟨w.heap.size + 1 + 1, 1, none⟩ = some (.int .i64 c1) ∧ W.cell? ⟨w.heap.size + 1 + 1 + 1, 0, none⟩ = some (.int .i64 d0) ∧ W.cell? ⟨w.heap.size + 1 + 1 + 1, 1, none⟩ = some (.int .i64 d1) ∧ Below w.heap.size w W)) HSa.out A1.out
      try dsimp only at ta0
      have Qa0 := Lib.hid ta0
      clear ta0
      have ta1 := s_call (S := (fun W => W.cell? ⟨w.heap.size, 0, none⟩ = some (.int .i64 a0) ∧ W.cell? ⟨w.heap.size, 1, none⟩ = some (.int .i64 a1) ∧ W.cell? ⟨w.heap.size + 1, 0, none⟩ = some (.int .i64 b0) ∧ W.cell? ⟨w.heap.size + 1, 1, none⟩ = some (.int .i64 b1) ∧ W.cell? ⟨w.heap.size + 1 + 1, 0, none⟩ = some (.int .i64 c0) ∧ W.cell? ⟨w.heap.size + 1 + 1, 1, none⟩ = some (.int .i64 c1) ∧ W.cell? ⟨w.heap.size + 1 + 1 + 1, 0, none⟩ = some (.int .i64 d0) ∧ W.cell? ⟨w.heap.size + 1 + 1 + 1, 1, none⟩ = some (.int .i64 d1) ∧ Below w.heap.size w W)) HSa.out A2.out
      try dsimp only at ta1
      have Qa1 := Lib.hid ta1
      clear ta1
      have ta2 := s_call (S := (fun W => W.cell? ⟨w.heap.size, 0, none⟩ = some (.int .i64 a0) ∧ W.cell? ⟨w.heap.size, 1, none⟩ = some (.int .i64 a1) ∧ W.cell? ⟨w.heap.size + 1, 0, none⟩ = some (.int .i64 b0) ∧ W.cell? ⟨w.heap.size + 1, 1, none⟩ = some (.int .i64 b1) ∧ W.cell? ⟨w.heap.size + 1 + 1, 0, none⟩ = some (.int .i64 c0) ∧ W.cell? ⟨w.heap.size + 1 + 1, 1, none⟩ = some (.int .i64 c1) ∧ W.cell? ⟨w.heap.size + 1 + 1 + 1, 0, none⟩ = some (.int .i64 d0) ∧ W.cell? ⟨w.heap.size + 1 + 1 + 1, 1, none⟩ = some (.int .i64 d1) ∧ Below w.heap.size w W)) HSa.out V3.out
      try dsimp only at ta2
      have Qa2 := Lib.hid ta2
      clear ta2
      have ta3 := s_call (S := (fun W => W.cell? ⟨w.heap.size, 0, none⟩ = some (.int .i64 a0) ∧ W.cell? ⟨w.heap.size, 1, none⟩ = some (.int .i64 a1) ∧ W.cell? ⟨w.heap.size + 1, 0, none⟩ = some (.int .i64 b0) ∧ W.cell? ⟨w.heap.size + 1, 1, none⟩ = some (.int .i64 b1) ∧ W.cell? ⟨w.heap.size + 1 + 1, 0, none⟩ = some (.int .i64 c0) ∧ W.cell? ⟨w.heap.size + 1 + 1, 1, none⟩ = some (.int .i64 c1) ∧ W.cell? ⟨w.heap.size + 1 + 1 + 1, 0, none⟩ = some (.int .i64 d0) ∧ W.cell? ⟨w.heap.size + 1 + 1 + 1, 1, none⟩ = some (.int .i64 d1) ∧ Below w.heap.size w W)) HSa.out U1.out
      try dsimp only at ta3
      have Qa3 := Lib.hid ta3
      clear ta3
      have ta4 := s_call (S := (fun W => W.cell? ⟨w.heap.size, 0, none⟩ = some (.int .i64 a0) ∧ W.cell? ⟨w.heap.size, 1, none⟩ = some (.int .i64 a1) ∧ W.cell? ⟨w.heap.size + 1, 0, none⟩ = some (.int .i64 b0) ∧ W.cell? ⟨w.heap.size + 1, 1, none⟩ = some (.int .i64 b1) ∧ W.cell? ⟨w.heap.size + 1 + 1, 0, none⟩ = some (.int .i64 c0) ∧ W.cell? ⟨w.heap.size + 1 + 1, 1, none⟩ = some (.int .i64 c1) ∧ W.cell? ⟨w.heap.size + 1 + 1 + 1, 0, none⟩ = some (.int .i64 d0) ∧ W.cell? ⟨w.heap.size + 1 + 1 + 1, 1, none⟩ = some (.int .i64 d1) ∧ Below w.heap.size w W)) HSa.out U2.out
      try dsimp only at ta4
      have Qa4 := Lib.hid ta4
      clear ta4
      have ta5 := s_call (S := (fun W => W.cell? ⟨w.heap.size, 0, none⟩ = some (.int .i64 a0) ∧ W.cell? ⟨w.heap.size, 1, none⟩ = some (.int .i64 a1) ∧ W.cell? ⟨w.heap.size + 1, 0, none⟩ = some (.int .i64 b0) ∧ W.cell? ⟨w.heap.size + 1, 1, none⟩ = some (.int .i64 b1) ∧ W.cell? ⟨w.heap.size + 1 + 1, 0, none⟩ = some (.int .i64 c0) ∧ W.cell? ⟨w.heap.size + 1 + 1, 1, none⟩ = some (.int .i64 c1) ∧ W.cell? ⟨w.heap.size + 1 + 1 + 1, 0, none⟩ = some (.int .i64 d0) ∧ W.cell? ⟨w.heap.size + 1 + 1 + 1, 1, none⟩ = some (.int .i64 d1) ∧ Below w.heap.size w W)) HSa.out V4.out
      try dsimp only at ta5
      have Qa5 := Lib.hid ta5
      clear ta5
      have ta6 := s_call (S := (fun W => W.cell? ⟨w.heap.size, 0, none⟩ = some (.int .i64 a0) ∧ W.cell? ⟨w.heap.size, 1, none⟩ = some (.int .i64 a1) ∧ W.cell? ⟨w.heap.size + 1, 0, none⟩ = some (.int .i64 b0) ∧ W.cell? ⟨w.heap.size + 1, 1, none⟩ = some (.int .i64 b1) ∧ W.cell? ⟨w.heap.size + 1 + 1, 0, none⟩ = some (.int .i64 c0) ∧ W.cell? ⟨w.heap.size + 1 + 1, 1, none⟩ = some (.int .i64 c1) ∧ W.cell? ⟨w.heap.size + 1 + 1 + 1, 0, none⟩ = some (.int .i64 d0) ∧ W.cell? ⟨w.heap.size + 1 + 1 + 1, 1, none⟩ = some (.int .i64 d1) ∧ Below w.heap.size w W)) HSa.out D1.out
      try dsimp only at ta6
      have Qa6 := Lib.hid ta6
      clear ta6
      have ta7 := s_call (S := (fun W => W.cell? ⟨w.heap.size, 0, none⟩ = some (.int .i64 a0) ∧ W.cell? ⟨w.heap.size, 1, none⟩ = some (.int .i64 a1) ∧ W.cell? ⟨w.heap.size + 1, 0, none⟩ = some (.int .i64 b0) ∧ W.cell? ⟨w.heap.size + 1, 1, none⟩ = some (.int .i64 b1) ∧ W.cell? ⟨w.heap.size + 1 + 1, 0, none⟩ = some (.int .i64 c0) ∧ W.cell? ⟨w.heap.size + 1 + 1, 1, none⟩ = some (.int .i64 c1) ∧ W.cell? ⟨w.heap.size + 1 + 1 + 1, 0, none⟩ = some (.int .i64 d0) ∧ W.cell? ⟨w.heap.size + 1 + 1 + 1, 1, none⟩ = some (.int .i64 d1) ∧ Below w.heap.size w W)) HSa.out D2.out
      try dsimp only at ta7
      have Qa7 := Lib.hid ta7
      clear ta7
      go_region_held3 (fun W => W.cell? ⟨w.heap.size, 0, none⟩ = some (.int .i64 a0) ∧ W.cell? ⟨w.heap.size, 1, none⟩ = some (.int .i64 a1) ∧ W.cell? ⟨w.heap.size + 1, 0, none⟩ = some (.int .i64 b0) ∧ W.cell? ⟨w.heap.size + 1, 1, none⟩ = some (.int .i64 b1) ∧ W.cell? ⟨w.heap.size + 1 + 1, 0, none⟩ = some (.int .i64 c0) ∧ W.cell? ⟨w.heap.size + 1 + 1, 1, none⟩ = some (.int .i64 c1) ∧ W.cell? ⟨w.heap.size + 1 + 1 + 1, 0, none⟩ = some (.int .i64 d0) ∧ W.cell? ⟨w.heap.size + 1 + 1 + 1, 1, none⟩ = some (.int .i64 d1) ∧ Below w.heap.size w W)
        (((try dsimp only); (refine ⟨?_, ?_, ?_, ?_, ?_, ?_, ?_, ?_, ?_⟩ <;> (first | assumption | exact A_9.out.1 | exact A_9.out.2 | exact B_9.out.1 | exact B_9.out.2 | exact C_9.out.1 | exact C_9.out.2 | exact D_9.out.1 | exact D_9.out.2 | exact ⟨HB9.out.os, HB9.out.tape, HB9.out.output, HB9.out.size, HB9.out.block⟩ | go_keep))))
        ((first
          | (go_at_call 19; with_reducible refine (Qa0.out _ ?_).mono ?_; assumption; rintro e w' ⟨rfl, zz0, zz1, zz2, zz3, zz4, zz5, zz6, zz7, zz8⟩)
          | (go_at_call 19; with_reducible refine (Qa1.out _ ?_).mono ?_; assumption; rintro e w' ⟨rfl, zz0, zz1, zz2, zz3, zz4, zz5, zz6, zz7, zz8⟩)
          | (go_at_call 25; with_reducible refine (Qa2.out _ ?_).mono ?_; assumption; rintro e w' ⟨rfl, zz0, zz1, zz2, zz3, zz4, zz5, zz6, zz7, zz8⟩)
          | (go_at_call 21; with_reducible refine (Qa3.out _ ?_).mono ?_; assumption; rintro e w' ⟨rfl, zz0, zz1, zz2, zz3, zz4, zz5, zz6, zz7, zz8⟩)
          | (go_at_call 21; with_reducible refine (Qa4.out _ ?_).mono ?_; assumption; rintro e w' ⟨rfl, zz0, zz1, zz2, zz3, zz4, zz5, zz6, zz7, zz8⟩)
          | (go_at_call 25; with_reducible refine (Qa5.out _ ?_).mono ?_; assumption; rintro e w' ⟨rfl, zz0, zz1, zz2, zz3, zz4, zz5, zz6, zz7, zz8⟩)
          | (go_at_call 27; with_reducible refine (Qa6.out _ ?_).mono ?_; assumption; rintro e w' ⟨rfl, zz0, zz1, zz2, zz3, zz4, zz5, zz6, zz7, zz8⟩)
          | (go_at_call 27; with_reducible refine (Qa7.out _ ?_).mono ?_; assumption; rintro e w' ⟨rfl, zz0, zz1, zz2, zz3, zz4, zz5, zz6, zz7, zz8⟩)))
      have A_10 := Lib.hid (show Cl _ (w.heap.size) (a0) (a1) from ⟨zz0, zz1⟩)
      have B_10 := Lib.hid (show Cl _ (w.heap.size + 1) (b0) (b1) from ⟨zz2, zz3⟩)
      have C_10 := Lib.hid (show Cl _ (w.heap.size + 1 + 1) (c0) (c1) from ⟨zz4, zz5⟩)
      have D_10 := Lib.hid (show Cl _ (w.heap.size + 1 + 1 + 1) (d0) (d1) from ⟨zz6, zz7⟩)
      have HB10 := Lib.hid zz8
      clear zz0 zz1 zz2 zz3 zz4 zz5 zz6 zz7 zz8
      clear HSa Qa0 Qa1 Qa2 Qa3 Qa4 Qa5 Qa6 Qa7
      clear A_9 B_9 C_9 D_9 HB9
      have cA0 := A_10.out.1
      have cA1 := A_10.out.2
      have cB0 := B_10.out.1
      have cB1 := B_10.out.2
      have cC0 := C_10.out.1
      have cC1 := C_10.out.2
      have cD0 := D_10.out.1
      have cD1 := D_10.out.2
      go_wp2_with fail
      clear cA0 cA1 cB0 cB1 cC0 cC1 cD0 cD1
      refine (M1.out _).mono ?_
      rintro e w11 ⟨rfl, hb⟩
      have HB11 := Lib.hid (below_trans HB10.out hb)
      have A_11 := Lib.hid (A_10.out.below hb)
      have B_11 := Lib.hid (B_10.out.below hb)
      have C_11 := Lib.hid (C_10.out.below hb)
      have D_11 := Lib.hid (D_10.out.below hb)
      clear hb HB10 A_10 B_10 C_10 D_10
      have HB12 := Lib.hid (below_trans HB11.out (below_alloc w11 (.cells #[.int .i64 m0, .int .i64 m1] 23)))
      have A_12 := Lib.hid (A_11.out.alloc (.cells #[.int .i64 m0, .int .i64 m1] 23))
      have B_12 := Lib.hid (B_11.out.alloc (.cells #[.int .i64 m0, .int .i64 m1] 23))
      have C_12 := Lib.hid (C_11.out.alloc (.cells #[.int .i64 m0, .int .i64 m1] 23))
      have D_12 := Lib.hid (D_11.out.alloc (.cells #[.int .i64 m0, .int .i64 m1] 23))
      have M_12 := Lib.hid (Cl.at (w := w11) (x := m0) (y := m1) (g := w11.heap.size) (by simp))
      clear HB11 A_11 B_11 C_11 D_11
      have cA0 := A_12.out.1
      have cA1 := A_12.out.2
      have cB0 := B_12.out.1
      have cB1 := B_12.out.2
      have cC0 := C_12.out.1
      have cC1 := C_12.out.2
      have cD0 := D_12.out.1
      have cD1 := D_12.out.2
      have cM0 := M_12.out.1
      have cM1 := M_12.out.2
      go_wp2_with fail
      clear cA0 cA1 cB0 cB1 cC0 cC1 cD0 cD1 cM0 cM1
      refine (M2.out _).mono ?_
      rintro e w13 ⟨rfl, hb⟩
      have HB13 := Lib.hid (below_trans HB12.out hb)
      have A_13 := Lib.hid (A_12.out.below hb)
      have B_13 := Lib.hid (B_12.out.below hb)
      have C_13 := Lib.hid (C_12.out.below hb)
      have D_13 := Lib.hid (D_12.out.below hb)
      have M_13 := Lib.hid (M_12.out.below hb)
      clear hb HB12 A_12 B_12 C_12 D_12 M_12
      have HB14 := Lib.hid (below_trans HB13.out (below_alloc w13 (.cells #[.int .i64 o0, .int .i64 o1] 23)))
      have A_14 := Lib.hid (A_13.out.alloc (.cells #[.int .i64 o0, .int .i64 o1] 23))
      have B_14 := Lib.hid (B_13.out.alloc (.cells #[.int .i64 o0, .int .i64 o1] 23))
      have C_14 := Lib.hid (C_13.out.alloc (.cells #[.int .i64 o0, .int .i64 o1] 23))
      have D_14 := Lib.hid (D_13.out.alloc (.cells #[.int .i64 o0, .int .i64 o1] 23))
      have M_14 := Lib.hid (M_13.out.alloc (.cells #[.int .i64 o0, .int .i64 o1] 23))
      have O_14 := Lib.hid (Cl.at (w := w13) (x := o0) (y := o1) (g := w13.heap.size) (by simp))
      clear HB13 A_13 B_13 C_13 D_13 M_13
      have cA0 := A_14.out.1
      have cA1 := A_14.out.2
      have cB0 := B_14.out.1
      have cB1 := B_14.out.2
      have cC0 := C_14.out.1
      have cC1 := C_14.out.2
      have cD0 := D_14.out.1
      have cD1 := D_14.out.2
      have cM0 := M_14.out.1
      have cM1 := M_14.out.2
      have cO0 := O_14.out.1
      have cO1 := O_14.out.2
      go_wp2_with fail
      clear cA0 cA1 cB0 cB1 cC0 cC1 cD0 cD1 cM0 cM1 cO0 cO1
      refine (S1.out _).mono ?_
      rintro e w15 ⟨rfl, hb⟩
      have HB15 := Lib.hid (below_trans HB14.out hb)
      have A_15 := Lib.hid (A_14.out.below hb)
      have B_15 := Lib.hid (B_14.out.below hb)
      have C_15 := Lib.hid (C_14.out.below hb)
      have D_15 := Lib.hid (D_14.out.below hb)
      have M_15 := Lib.hid (M_14.out.below hb)
      have O_15 := Lib.hid (O_14.out.below hb)
      clear hb HB14 A_14 B_14 C_14 D_14 M_14 O_14
      have HB16 := Lib.hid (below_trans HB15.out (below_alloc w15 (.cells #[.int .i64 x0, .int .i64 x1] 23)))
      have A_16 := Lib.hid (A_15.out.alloc (.cells #[.int .i64 x0, .int .i64 x1] 23))
      have B_16 := Lib.hid (B_15.out.alloc (.cells #[.int .i64 x0, .int .i64 x1] 23))
      have C_16 := Lib.hid (C_15.out.alloc (.cells #[.int .i64 x0, .int .i64 x1] 23))
      have D_16 := Lib.hid (D_15.out.alloc (.cells #[.int .i64 x0, .int .i64 x1] 23))
      have M_16 := Lib.hid (M_15.out.alloc (.cells #[.int .i64 x0, .int .i64 x1] 23))
      have O_16 := Lib.hid (O_15.out.alloc (.cells #[.int .i64 x0, .int .i64 x1] 23))
      have X_16 := Lib.hid (Cl.at (w := w15) (x := x0) (y := x1) (g := w15.heap.size) (by simp))
      clear HB15 A_15 B_15 C_15 D_15 M_15 O_15
      have cA0 := A_16.out.1
      have cA1 := A_16.out.2
      have cB0 := B_16.out.1
      have cB1 := B_16.out.2
      have cC0 := C_16.out.1
      have cC1 := C_16.out.2
      have cD0 := D_16.out.1
      have cD1 := D_16.out.2
      have cM0 := M_16.out.1
      have cM1 := M_16.out.2
      have cO0 := O_16.out.1
      have cO1 := O_16.out.2
      have cX0 := X_16.out.1
      have cX1 := X_16.out.2
      go_wp2_with fail
      clear cA0 cA1 cB0 cB1 cC0 cC1 cD0 cD1 cM0 cM1 cO0 cO1 cX0 cX1
      refine (S2.out _).mono ?_
      rintro e w17 ⟨rfl, hb⟩
      have HB17 := Lib.hid (below_trans HB16.out hb)
      have A_17 := Lib.hid (A_16.out.below hb)
      have B_17 := Lib.hid (B_16.out.below hb)
      have C_17 := Lib.hid (C_16.out.below hb)
      have D_17 := Lib.hid (D_16.out.below hb)
      have M_17 := Lib.hid (M_16.out.below hb)
      have O_17 := Lib.hid (O_16.out.below hb)
      have X_17 := Lib.hid (X_16.out.below hb)
      clear hb HB16 A_16 B_16 C_16 D_16 M_16 O_16 X_16
      have HB18 := Lib.hid (below_trans HB17.out (below_alloc w17 (.cells #[.int .i64 y0, .int .i64 y1] 23)))
      have A_18 := Lib.hid (A_17.out.alloc (.cells #[.int .i64 y0, .int .i64 y1] 23))
      have B_18 := Lib.hid (B_17.out.alloc (.cells #[.int .i64 y0, .int .i64 y1] 23))
      have C_18 := Lib.hid (C_17.out.alloc (.cells #[.int .i64 y0, .int .i64 y1] 23))
      have D_18 := Lib.hid (D_17.out.alloc (.cells #[.int .i64 y0, .int .i64 y1] 23))
      have M_18 := Lib.hid (M_17.out.alloc (.cells #[.int .i64 y0, .int .i64 y1] 23))
      have O_18 := Lib.hid (O_17.out.alloc (.cells #[.int .i64 y0, .int .i64 y1] 23))
      have X_18 := Lib.hid (X_17.out.alloc (.cells #[.int .i64 y0, .int .i64 y1] 23))
      have Y_18 := Lib.hid (Cl.at (w := w17) (x := y0) (y := y1) (g := w17.heap.size) (by simp))
      clear HB17 A_17 B_17 C_17 D_17 M_17 O_17 X_17
      have cA0 := A_18.out.1
      have cA1 := A_18.out.2
      have cB0 := B_18.out.1
      have cB1 := B_18.out.2
      have cC0 := C_18.out.1
      have cC1 := C_18.out.2
      have cD0 := D_18.out.1
      have cD1 := D_18.out.2
      have cM0 := M_18.out.1
      have cM1 := M_18.out.2
      have cO0 := O_18.out.1
      have cO1 := O_18.out.2
      have cX0 := X_18.out.1
      have cX1 := X_18.out.2
      have cY0 := Y_18.out.1
      have cY1 := Y_18.out.2
      go_wp2_with fail
      clear cA0 cA1 cB0 cB1 cC0 cC1 cD0 cD1 cM0 cM1 cO0 cO1 cX0 cX1 cY0 cY1
      refine (V5.out _).mono ?_
      rintro e w19 ⟨rfl, hb⟩
      have HB19 := Lib.hid (below_trans HB18.out hb)
      have A_19 := Lib.hid (A_18.out.below hb)
      have B_19 := Lib.hid (B_18.out.below hb)
      have C_19 := Lib.hid (C_18.out.below hb)
      have D_19 := Lib.hid (D_18.out.below hb)
      have M_19 := Lib.hid (M_18.out.below hb)
      have O_19 := Lib.hid (O_18.out.below hb)
      have X_19 := Lib.hid (X_18.out.below hb)
      have Y_19 := Lib.hid (Y_18.out.below hb)
      clear hb HB18 A_18 B_18 C_18 D_18 M_18 O_18 X_18 Y_18
      have cA0 := A_19.out.1
      have cA1 := A_19.out.2
      have cB0 := B_19.out.1
      have cB1 := B_19.out.2
      have cC0 := C_19.out.1
      have cC1 := C_19.out.2
      have cD0 := D_19.out.1
      have cD1 := D_19.out.2
      have cM0 := M_19.out.1
      have cM1 := M_19.out.2
      have cO0 := O_19.out.1
      have cO1 := O_19.out.2
      have cX0 := X_19.out.1
      have cX1 := X_19.out.2
      have cY0 := Y_19.out.1
      have cY1 := Y_19.out.2
      go_wp2_with fail
      clear cA0 cA1 cB0 cB1 cC0 cC1 cD0 cD1 cM0 cM1 cO0 cO1 cX0 cX1 cY0 cY1
      refine (V6.out _).mono ?_
      rintro e w20 ⟨rfl, hb⟩
      have HB20 := Lib.hid (below_trans HB19.out hb)
      have A_20 := Lib.hid (A_19.out.below hb)
      have B_20 := Lib.hid (B_19.out.below hb)
      have C_20 := Lib.hid (C_19.out.below hb)
      have D_20 := Lib.hid (D_19.out.below hb)
      have M_20 := Lib.hid (M_19.out.below hb)
      have O_20 := Lib.hid (O_19.out.below hb)
      have X_20 := Lib.hid (X_19.out.below hb)
      have Y_20 := Lib.hid (Y_19.out.below hb)
      clear hb HB19 A_19 B_19 C_19 D_19 M_19 O_19 X_19 Y_19
      have cA0 := A_20.out.1
      have cA1 := A_20.out.2
      have cB0 := B_20.out.1
      have cB1 := B_20.out.2
      have cC0 := C_20.out.1
      have cC1 := C_20.out.2
      have cD0 := D_20.out.1
      have cD1 := D_20.out.2
      have cM0 := M_20.out.1
      have cM1 := M_20.out.2
      have cO0 := O_20.out.1
      have cO1 := O_20.out.2
      have cX0 := X_20.out.1
      have cX1 := X_20.out.2
      have cY0 := Y_20.out.1
      have cY1 := Y_20.out.2
      go_wp2_with fail
      clear cA0 cA1 cB0 cB1 cC0 cC1 cD0 cD1 cM0 cM1 cO0 cO1 cX0 cX1 cY0 cY1
      have HSb := Lib.hid (show ∀ W W', Below W.heap.size W W' → (W.cell? ⟨w.heap.size, 0, none⟩ = some (.int .i64 a0) ∧ W.cell? ⟨w.heap.size, 1, none⟩ = some (.int .i64 a1) ∧ W.cell? ⟨w.heap.size + 1, 0, none⟩ = some (.int .i64 b0) ∧ W.cell? ⟨w.heap.size + 1, 1, none⟩ = some (.int .i64 b1) ∧ W.cell? ⟨w.heap.size + 1 + 1, 0, none⟩ = some (.int .i64 c0) ∧ W.cell? ⟨w.heap.size + 1 + 1, 1, none⟩ = some (.int .i64 c1) ∧ W.cell? ⟨w.heap.size + 1 + 1 + 1, 0, none⟩ = some (.int .i64 d0) ∧ W.cell? ⟨w.heap.size + 1 + 1 + 1, 1, none⟩ = some (.int .i64 d1) ∧ Below w.heap.size w W) → (W'.cell? ⟨w.heap.size, 0, none⟩ = some (.int .i64 a0) ∧ W'.cell? ⟨w.heap.size, 1, none⟩ = some (.int .i64 a1) ∧ W'.cell? ⟨w.heap.size + 1, 0, none⟩ = some (.int .i64 b0) ∧ W'.cell? ⟨w.heap.size + 1, 1, none⟩ = some (.int .i64 b1) ∧ W'.cell? ⟨w.heap.size + 1 + 1, 0, none⟩ = some (.int .i64 c0) ∧ W'.cell? ⟨w.heap.size + 1 + 1, 1, none⟩ = some (.int .i64 c1) ∧ W'.cell? ⟨w.heap.size + 1 + 1 + 1, 0, none⟩ = some (.int .i64 d0) ∧ W'.cell? ⟨w.heap.size + 1 + 1 + 1, 1, none⟩ = some (.int .i64 d1) ∧ Below w.heap.size w W') from fun W W' hb h => by obtain ⟨h0, h1, h2, h3, h4, h5, h6, h7, h8⟩ := h; exact ⟨cell_below hb h0, cell_below hb h1, cell_below hb h2, cell_below hb h3, cell_below hb h4, cell_below hb h5, cell_below hb h6, cell_below hb h7, below_trans h8 hb⟩)
      have tb0 := s_call (S := (fun W => W.cell? ⟨w.heap.size, 0, none⟩ = some (.int .i64 a0) ∧ W.cell? ⟨w.heap.size, 1, none⟩ = some (.int .i64 a1) ∧ W.cell? ⟨w.heap.size + 1, 0, none⟩ = some (.int .i64 b0) ∧ W.cell? ⟨w.heap.size + 1, 1, none⟩ = some (.int .i64 b1) ∧ W.cell? ⟨w.heap.size + 1 + 1, 0, none⟩ = some (.int .i64 c0) ∧ W.cell? ⟨w.heap.size + 1 + 1, 1, none⟩ = some (.int .i64 c1) ∧ W.cell? ⟨w.heap.size + 1 + 1 + 1, 0, none⟩ = some (.int .i64 d0) ∧ W.cell? ⟨w.heap.size + 1 + 1 + 1, 1, none⟩ = some (.int .i64 d1) ∧ Below w.heap.size w W)) HSb.out J1.out
      try dsimp only at tb0
      have Qb0 := Lib.hid tb0
      clear tb0
      have tb1 := s_call (S := (fun W => W.cell? ⟨w.heap.size, 0, none⟩ = some (.int .i64 a0) ∧ W.cell? ⟨w.heap.size, 1, none⟩ = some (.int .i64 a1) ∧ W.cell? ⟨w.heap.size + 1, 0, none⟩ = some (.int .i64 b0) ∧ W.cell? ⟨w.heap.size + 1, 1, none⟩ = some (.int .i64 b1) ∧ W.cell? ⟨w.heap.size + 1 + 1, 0, none⟩ = some (.int .i64 c0) ∧ W.cell? ⟨w.heap.size + 1 + 1, 1, none⟩ = some (.int .i64 c1) ∧ W.cell? ⟨w.heap.size + 1 + 1 + 1, 0, none⟩ = some (.int .i64 d0) ∧ W.cell? ⟨w.heap.size + 1 + 1 + 1, 1, none⟩ = some (.int .i64 d1) ∧ Below w.heap.size w W)) HSb.out J2.out
      try dsimp only at tb1
      have Qb1 := Lib.hid tb1
      clear tb1
      have tb2 := s_call (S := (fun W => W.cell? ⟨w.heap.size, 0, none⟩ = some (.int .i64 a0) ∧ W.cell? ⟨w.heap.size, 1, none⟩ = some (.int .i64 a1) ∧ W.cell? ⟨w.heap.size + 1, 0, none⟩ = some (.int .i64 b0) ∧ W.cell? ⟨w.heap.size + 1, 1, none⟩ = some (.int .i64 b1) ∧ W.cell? ⟨w.heap.size + 1 + 1, 0, none⟩ = some (.int .i64 c0) ∧ W.cell? ⟨w.heap.size + 1 + 1, 1, none⟩ = some (.int .i64 c1) ∧ W.cell? ⟨w.heap.size + 1 + 1 + 1, 0, none⟩ = some (.int .i64 d0) ∧ W.cell? ⟨w.heap.size + 1 + 1 + 1, 1, none⟩ = some (.int .i64 d1) ∧ Below w.heap.size w W)) HSb.out V7.out
      try dsimp only at tb2
      have Qb2 := Lib.hid tb2
      clear tb2
      go_region_held3 (fun W => W.cell? ⟨w.heap.size, 0, none⟩ = some (.int .i64 a0) ∧ W.cell? ⟨w.heap.size, 1, none⟩ = some (.int .i64 a1) ∧ W.cell? ⟨w.heap.size + 1, 0, none⟩ = some (.int .i64 b0) ∧ W.cell? ⟨w.heap.size + 1, 1, none⟩ = some (.int .i64 b1) ∧ W.cell? ⟨w.heap.size + 1 + 1, 0, none⟩ = some (.int .i64 c0) ∧ W.cell? ⟨w.heap.size + 1 + 1, 1, none⟩ = some (.int .i64 c1) ∧ W.cell? ⟨w.heap.size + 1 + 1 + 1, 0, none⟩ = some (.int .i64 d0) ∧ W.cell? ⟨w.heap.size + 1 + 1 + 1, 1, none⟩ = some (.int .i64 d1) ∧ Below w.heap.size w W)
        (((try dsimp only); (refine ⟨?_, ?_, ?_, ?_, ?_, ?_, ?_, ?_, ?_⟩ <;> (first | assumption | exact A_20.out.1 | exact A_20.out.2 | exact B_20.out.1 | exact B_20.out.2 | exact C_20.out.1 | exact C_20.out.2 | exact D_20.out.1 | exact D_20.out.2 | exact ⟨HB20.out.os, HB20.out.tape, HB20.out.output, HB20.out.size, HB20.out.block⟩ | go_keep))))
        ((first
          | (go_at_call 23; with_reducible refine (Qb0.out _ ?_).mono ?_; assumption; rintro e w' ⟨rfl, zz0, zz1, zz2, zz3, zz4, zz5, zz6, zz7, zz8⟩)
          | (go_at_call 23; with_reducible refine (Qb1.out _ ?_).mono ?_; assumption; rintro e w' ⟨rfl, zz0, zz1, zz2, zz3, zz4, zz5, zz6, zz7, zz8⟩)
          | (go_at_call 25; with_reducible refine (Qb2.out _ ?_).mono ?_; assumption; rintro e w' ⟨rfl, zz0, zz1, zz2, zz3, zz4, zz5, zz6, zz7, zz8⟩)))
      have A_21 := Lib.hid (show Cl _ (w.heap.size) (a0) (a1) from ⟨zz0, zz1⟩)
      have B_21 := Lib.hid (show Cl _ (w.heap.size + 1) (b0) (b1) from ⟨zz2, zz3⟩)
      have C_21 := Lib.hid (show Cl _ (w.heap.size + 1 + 1) (c0) (c1) from ⟨zz4, zz5⟩)
      have D_21 := Lib.hid (show Cl _ (w.heap.size + 1 + 1 + 1) (d0) (d1) from ⟨zz6, zz7⟩)
      have HB21 := Lib.hid zz8
      clear zz0 zz1 zz2 zz3 zz4 zz5 zz6 zz7 zz8
      clear HSb Qb0 Qb1 Qb2
      clear A_20 B_20 C_20 D_20 M_20 O_20 X_20 Y_20 HB20
      go_wp2_with fail
      go_ret
      exact ⟨rfl, HB21.out⟩
theorem walk (a0 a1 : Int) (wa0 : I64 a0) (wa1 : I64 a1) (b0 b1 : Int) (wb0 : I64 b0) (wb1 : I64 b1) (c0 c1 : Int) (wc0 : I64 c0) (wc1 : I64 c1) (d0 d1 : Int) (wd0 : I64 d0) (wd1 : I64 d1) (x : Int) (wx : I64 x) (y : Int) (wy : I64 y) (w : World) : Calls Try.prog 6 #[sp a0 a1, sp b0 b1, sp c0 c1, sp d0 d1, .int .i64 x, .int .i64 y] w (IsTrue w) := by
  by_cases h : (decide (a0 ≤ a1) && decide (b0 ≤ b1) && decide (c0 ≤ a0 ∧ a1 ≤ c1) && decide (d0 ≤ b0 ∧ b1 ≤ d1)) = true
  · have h' := h
    simp only [Bool.and_eq_true, decide_eq_true_eq] at h'
    exact walk_in a0 a1 wa0 wa1 b0 b1 wb0 wb1 c0 c1 wc0 wc1 d0 d1 wd0 wd1 x wx y wy w h'.1.1.1 h'.1.1.2 h'.1.2 h'.2
  · exact walk_out a0 a1 wa0 wa1 b0 b1 wb0 wb1 c0 c1 wc0 wc1 d0 d1 wd0 wd1 x wx y wy w (by simpa using h)
set_option maxRecDepth 100000 in
theorem lifted (os : Os) (started : os.Started) (H : Type) (enc : TypeId × Value → H) :
    ReturnsInHanded {} Try.checked os 6 .any (Rows.spanGrowsSpec.pre6 enc Try.prog Try.f6 Rows.spanGrowsRow.domain false) (Rows.spanGrowsSpec.post enc Try.prog Try.f6 false true false false) := by
  refine returnsInHanded_of_change_sized (C := Try.checked) own started (by kernel_rfl) Try.func6
    (ChangeSpec.witness6 (enc := enc) (C := Try.checked) false ⟨#[], #[.agg #[.int .i64 0, .int .i64 0], .agg #[.int .i64 0, .int .i64 0], .agg #[.int .i64 0, .int .i64 0], .agg #[.int .i64 0, .int .i64 0], .int .i64 0, .int .i64 0], []⟩ 8 (by kernel_rfl) (by kernel_rfl) (by kernel_rfl) (by kernel_rfl)) ?_
  intro W base args ds gs before hval0 hW hcnd hsz0 _
  have hval : ∀ (j : Nat) t v, Try.f6.params[j]? = some t → args[j]? = some v → Value.okWide Try.prog W .any base t v := hval0
  have hW' := hW
  obtain ⟨p, q, hA0, hV, rfl, hfz, hnd⟩ := hW
  have hA : DataW.TrodAll enc Try.prog W 0 (fun _ => true) true Try.f6.params.toList args.toList ds p := hA0
  rw [Try.params6] at hA hval
  obtain ⟨v0, vs0, d0, ds0, p0, q0, hargs, rfl, rfl, h0, r0⟩ := trodAll_cons hA
  obtain ⟨v1, vs1, d1, ds1, p1, q1, rfl, rfl, rfl, h1, r1⟩ := trodAll_cons r0
  obtain ⟨v2, vs2, d2, ds2, p2, q2, rfl, rfl, rfl, h2, r2⟩ := trodAll_cons r1
  obtain ⟨v3, vs3, d3, ds3, p3, q3, rfl, rfl, rfl, h3, r3⟩ := trodAll_cons r2
  obtain ⟨v4, vs4, d4, ds4, p4, q4, rfl, rfl, rfl, h4, r4⟩ := trodAll_cons r3
  obtain ⟨v5, vs5, d5, ds5, p5, q5, rfl, rfl, rfl, h5, r5⟩ := trodAll_cons r4
  obtain ⟨rfl, rfl, rfl⟩ := trodAll_nil r5
  obtain rfl : args = #[v0, v1, v2, v3, v4, v5] := by cases args; simp_all
  obtain ⟨rfl, rfl⟩ := trodVars_none hV
  obtain ⟨y0, m0, rfl, wy0, wm0, rfl, t0⟩ := open_span (hval 0 23 v0 rfl rfl) h0
  obtain ⟨y1, m1, rfl, wy1, wm1, rfl, t1⟩ := open_span (hval 1 23 v1 rfl rfl) h1
  obtain ⟨y2, m2, rfl, wy2, wm2, rfl, t2⟩ := open_span (hval 2 23 v2 rfl rfl) h2
  obtain ⟨y3, m3, rfl, wy3, wm3, rfl, t3⟩ := open_span (hval 3 23 v3 rfl rfl) h3
  obtain ⟨a4, rfl, rfl, rfl, w4⟩ := open_int Try.underlying3 (hval 4 3 v4 rfl rfl) h4
  obtain ⟨a5, rfl, rfl, rfl, w5⟩ := open_int Try.underlying3 (hval 5 3 v5 rfl rfl) h5
  clear hA0 hval0
  simp only [List.append_nil] at hW'
  refine (walk y0 m0 wy0 wm0 y1 m1 wy1 wm1 y2 m2 wy2 wm2 y3 m3 wy3 wm3 a4 (i64_of_wf w4) a5 (i64_of_wf w5) W).mono fun e W' ⟨he, hb⟩ => ?_
  subst he
  exact ⟨_, rfl, _, _, _, [], _, [], hW', (trodAll_cons_mk (shut_bool Try.underlying4 _) trodAll_mk0), (trodAll_cons_mk (t0 _ _ _ _) (trodAll_cons_mk (t1 _ _ _ _) (trodAll_cons_mk (t2 _ _ _ _) (trodAll_cons_mk (t3 _ _ _ _) (trodAll_cons_mk (shut_int Try.underlying3 w4) (trodAll_cons_mk (shut_int Try.underlying3 w5) trodAll_mk0)))))), rfl, hb.frame _, fun h => by cases h⟩
theorem over : Rows.spanGrowsRow.holds Try.pinned (OpenSpec.ofChange Rows.spanGrowsSpec) :=
  OpenClaim.holds_of_wide 6 Try.f6 rfl rfl rfl rfl rfl rfl rfl ⟨rfl, rfl, rfl, rfl, rfl⟩ rfl rfl rfl rfl rfl (by kernel_rfl) Try.func6 (by kernel_rfl)
    (of_decide_eq_true (by kernel_rfl)) (by unfold Func.isWrapper; first | (rw [if_pos (by decide +kernel)]; kernel_rfl) | (rw [if_neg (by decide +kernel)]; exact ⟨rfl, rfl⟩))
    (fun os started H enc _ => lifted os started H enc)
theorem proved : Rows.SpanGrowsSaid := over
end Go.Proofs.Ytecnonmcmdaopaa.spanGrows
