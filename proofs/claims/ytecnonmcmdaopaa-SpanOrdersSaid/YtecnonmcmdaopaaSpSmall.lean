/- The examples that each law of span checks first are right. Conditions: none. -/
import Derived.Test.YtecnonmcmdaopaaSpR
namespace Go.Proofs.Ytecnonmcmdaopaa.Sp
open Go.RowKit
set_option linter.unusedVariables false
set_option maxRecDepth 100000
set_option maxHeartbeats 4000000 in
theorem small_any (w : World) : Calls Try.prog 8 #[] w (Ret (.bool true) w) := by
  have S1 := Lib.hid (fun W => scale_sp 10 11 1 3 W)
  rw [show loV 10 11 1 3 = 3 by decide, show hiV 10 11 1 3 = 4 by decide, show okB 10 11 1 3 = true by decide] at S1
  have S2 := Lib.hid (fun W => scale_sp (-1) 5 1 1 W)
  rw [show loV (-1) 5 1 1 = 0 by decide, show hiV (-1) 5 1 1 = 0 by decide, show okB (-1) 5 1 1 = false by decide] at S2
  have M1 := Lib.hid (fun W => meet_any 1 5 4 9 W)
  rw [show mL 1 5 4 9 = 4 by decide, show mH 1 5 4 9 = 5 by decide, show mB 1 5 4 9 = true by decide] at M1
  have M2 := Lib.hid (fun W => meet_any 1 2 4 9 W)
  rw [show mL 1 2 4 9 = 0 by decide, show mH 1 2 4 9 = 0 by decide, show mB 1 2 4 9 = false by decide] at M2

  have AD := Lib.hid (fun W => add_sp 1 3 10 20 (by unfold I64; decide) (by unfold I64; decide) (by unfold I64; decide) (by unfold I64; decide) W)
  rw [show lim (1 + 10) = 11 by decide, show lim (3 + 20) = 23 by decide] at AD
  have SU := Lib.hid (fun W => sub_sp 1 3 10 20 (by unfold I64; decide) (by unfold I64; decide) (by unfold I64; decide) (by unfold I64; decide) W)
  rw [show lim (1 - 20) = -19 by decide, show lim (3 - 10) = -7 by decide] at SU
  have JO := Lib.hid (fun W => join_any 1 3 10 20 W)
  rw [show min (1 : Int) 10 = 1 by decide, show max (3 : Int) 20 = 20 by decide] at JO
  have WI := Lib.hid (fun W => width_any 10 20 (by unfold I64; decide) (by unfold I64; decide) W)
  rw [show lim (20 - 10) = 10 by decide] at WI
  have HA := Lib.hid (fun W => has_any 1 3 3 W)
  rw [show decide ((1 : Int) ≤ 3 ∧ (3 : Int) ≤ 3) = true by decide] at HA
  have HN := Lib.hid (fun W => has_any 1 3 4 W)
  rw [show decide ((1 : Int) ≤ 4 ∧ (4 : Int) ≤ 3) = false by decide] at HN
  have RI := Lib.hid (fun W => right_any 1 3 W)
  rw [show decide ((1 : Int) ≤ 3) = true by decide] at RI
  have RN := Lib.hid (fun W => right_any 1 0 W)
  rw [show decide ((1 : Int) ≤ 0) = false by decide] at RN
  unfold sp at *
  have HB0 := Lib.hid (below_self w)
  have HB1 := Lib.hid (below_trans HB0.out (below_alloc w (.cells #[.int .i64 1, .int .i64 3] 23)))
  have A_1 := Lib.hid (Blk.at (w := w) (t := 23) (cs := #[.int .i64 1, .int .i64 3]) (g := w.heap.size) (by simp))
  clear HB0 
  have HB2 := Lib.hid (below_trans HB1.out (below_alloc (w.alloc (.cells #[.int .i64 1, .int .i64 3] 23)) (.cells #[.int .i64 10, .int .i64 20] 23)))
  have A_2 := Lib.hid (A_1.out.alloc (.cells #[.int .i64 10, .int .i64 20] 23))
  have B_2 := Lib.hid (Blk.at (w := (w.alloc (.cells #[.int .i64 1, .int .i64 3] 23))) (t := 23) (cs := #[.int .i64 10, .int .i64 20]) (g := w.heap.size + 1) (by simp))
  clear HB1 A_1
  go_enter Try.func8, Try.ntmps8
  have cA0 := A_2.out.cell 0
  have cA1 := A_2.out.cell 1
  have cB0 := B_2.out.cell 0
  have cB1 := B_2.out.cell 1
  go_wp2_with fail
  clear cA0 cA1 cB0 cB1
  refine (S1.out _).mono ?_
  rintro e w3 ⟨rfl, hb⟩
  have HB3 := Lib.hid (below_trans HB2.out hb)
  have A_3 := Lib.hid (A_2.out.below hb (Nat.le_refl _))
  have B_3 := Lib.hid (B_2.out.below hb (Nat.le_refl _))
  clear hb HB2 A_2 B_2
  have HB4 := Lib.hid (below_trans HB3.out (below_alloc w3 (.cells #[.int .i64 3, .int .i64 4] 23)))
  have A_4 := Lib.hid (A_3.out.alloc (.cells #[.int .i64 3, .int .i64 4] 23))
  have B_4 := Lib.hid (B_3.out.alloc (.cells #[.int .i64 3, .int .i64 4] 23))
  have S_4 := Lib.hid (Blk.at (w := w3) (t := 23) (cs := #[.int .i64 3, .int .i64 4]) (g := w3.heap.size) (by simp))
  clear HB3 A_3 B_3
  have cA0 := A_4.out.cell 0
  have cA1 := A_4.out.cell 1
  have cB0 := B_4.out.cell 0
  have cB1 := B_4.out.cell 1
  have cS0 := S_4.out.cell 0
  have cS1 := S_4.out.cell 1
  go_wp2_with fail
  clear cA0 cA1 cB0 cB1 cS0 cS1
  refine (S2.out _).mono ?_
  rintro e w5 ⟨rfl, hb⟩
  have HB5 := Lib.hid (below_trans HB4.out hb)
  have A_5 := Lib.hid (A_4.out.below hb (Nat.le_refl _))
  have B_5 := Lib.hid (B_4.out.below hb (Nat.le_refl _))
  have S_5 := Lib.hid (S_4.out.below hb (Nat.le_refl _))
  clear hb HB4 A_4 B_4 S_4
  have HB6 := Lib.hid (below_trans HB5.out (below_alloc w5 (.cells #[.int .i64 0, .int .i64 0] 23)))
  have A_6 := Lib.hid (A_5.out.alloc (.cells #[.int .i64 0, .int .i64 0] 23))
  have B_6 := Lib.hid (B_5.out.alloc (.cells #[.int .i64 0, .int .i64 0] 23))
  have S_6 := Lib.hid (S_5.out.alloc (.cells #[.int .i64 0, .int .i64 0] 23))
  clear HB5 A_5 B_5 S_5
  have cA0 := A_6.out.cell 0
  have cA1 := A_6.out.cell 1
  have cB0 := B_6.out.cell 0
  have cB1 := B_6.out.cell 1
  have cS0 := S_6.out.cell 0
  have cS1 := S_6.out.cell 1
  go_wp2_with fail
  clear cA0 cA1 cB0 cB1 cS0 cS1
  refine (M1.out _).mono ?_
  rintro e w7 ⟨rfl, hb⟩
  have HB7 := Lib.hid (below_trans HB6.out hb)
  have A_7 := Lib.hid (A_6.out.below hb (Nat.le_refl _))
  have B_7 := Lib.hid (B_6.out.below hb (Nat.le_refl _))
  have S_7 := Lib.hid (S_6.out.below hb (Nat.le_refl _))
  clear hb HB6 A_6 B_6 S_6
  have HB8 := Lib.hid (below_trans HB7.out (below_alloc w7 (.cells #[.int .i64 4, .int .i64 5] 23)))
  have A_8 := Lib.hid (A_7.out.alloc (.cells #[.int .i64 4, .int .i64 5] 23))
  have B_8 := Lib.hid (B_7.out.alloc (.cells #[.int .i64 4, .int .i64 5] 23))
  have S_8 := Lib.hid (S_7.out.alloc (.cells #[.int .i64 4, .int .i64 5] 23))
  have M_8 := Lib.hid (Blk.at (w := w7) (t := 23) (cs := #[.int .i64 4, .int .i64 5]) (g := w7.heap.size) (by simp))
  clear HB7 A_7 B_7 S_7
  have cA0 := A_8.out.cell 0
  have cA1 := A_8.out.cell 1
  have cB0 := B_8.out.cell 0
  have cB1 := B_8.out.cell 1
  have cS0 := S_8.out.cell 0
  have cS1 := S_8.out.cell 1
  have cM0 := M_8.out.cell 0
  have cM1 := M_8.out.cell 1
  go_wp2_with fail
  clear cA0 cA1 cB0 cB1 cS0 cS1 cM0 cM1
  refine (M2.out _).mono ?_
  rintro e w9 ⟨rfl, hb⟩
  have HB9 := Lib.hid (below_trans HB8.out hb)
  have A_9 := Lib.hid (A_8.out.below hb (Nat.le_refl _))
  have B_9 := Lib.hid (B_8.out.below hb (Nat.le_refl _))
  have S_9 := Lib.hid (S_8.out.below hb (Nat.le_refl _))
  have M_9 := Lib.hid (M_8.out.below hb (Nat.le_refl _))
  clear hb HB8 A_8 B_8 S_8 M_8
  have HB10 := Lib.hid (below_trans HB9.out (below_alloc w9 (.cells #[.int .i64 0, .int .i64 0] 23)))
  have A_10 := Lib.hid (A_9.out.alloc (.cells #[.int .i64 0, .int .i64 0] 23))
  have B_10 := Lib.hid (B_9.out.alloc (.cells #[.int .i64 0, .int .i64 0] 23))
  have S_10 := Lib.hid (S_9.out.alloc (.cells #[.int .i64 0, .int .i64 0] 23))
  have M_10 := Lib.hid (M_9.out.alloc (.cells #[.int .i64 0, .int .i64 0] 23))
  clear HB9 A_9 B_9 S_9 M_9
  have cA0 := A_10.out.cell 0
  have cA1 := A_10.out.cell 1
  have cB0 := B_10.out.cell 0
  have cB1 := B_10.out.cell 1
  have cS0 := S_10.out.cell 0
  have cS1 := S_10.out.cell 1
  have cM0 := M_10.out.cell 0
  have cM1 := M_10.out.cell 1
  go_wp2_with fail
  clear cA0 cA1 cB0 cB1 cS0 cS1 cM0 cM1
  refine (AD.out _).mono ?_
  rintro e w11 ⟨rfl, hb⟩
  have HB11 := Lib.hid (below_trans HB10.out hb)
  have A_11 := Lib.hid (A_10.out.below hb (Nat.le_refl _))
  have B_11 := Lib.hid (B_10.out.below hb (Nat.le_refl _))
  have S_11 := Lib.hid (S_10.out.below hb (Nat.le_refl _))
  have M_11 := Lib.hid (M_10.out.below hb (Nat.le_refl _))
  clear hb HB10 A_10 B_10 S_10 M_10
  have cA0 := A_11.out.cell 0
  have cA1 := A_11.out.cell 1
  have cB0 := B_11.out.cell 0
  have cB1 := B_11.out.cell 1
  have cS0 := S_11.out.cell 0
  have cS1 := S_11.out.cell 1
  have cM0 := M_11.out.cell 0
  have cM1 := M_11.out.cell 1
  go_wp2_with fail
  clear cA0 cA1 cB0 cB1 cS0 cS1 cM0 cM1
  refine (SU.out _).mono ?_
  rintro e w12 ⟨rfl, hb⟩
  have HB12 := Lib.hid (below_trans HB11.out hb)
  have A_12 := Lib.hid (A_11.out.below hb (Nat.le_refl _))
  have B_12 := Lib.hid (B_11.out.below hb (Nat.le_refl _))
  have S_12 := Lib.hid (S_11.out.below hb (Nat.le_refl _))
  have M_12 := Lib.hid (M_11.out.below hb (Nat.le_refl _))
  clear hb HB11 A_11 B_11 S_11 M_11
  have cA0 := A_12.out.cell 0
  have cA1 := A_12.out.cell 1
  have cB0 := B_12.out.cell 0
  have cB1 := B_12.out.cell 1
  have cS0 := S_12.out.cell 0
  have cS1 := S_12.out.cell 1
  have cM0 := M_12.out.cell 0
  have cM1 := M_12.out.cell 1
  go_wp2_with fail
  clear cA0 cA1 cB0 cB1 cS0 cS1 cM0 cM1
  refine (JO.out _).mono ?_
  rintro e w13 ⟨rfl, hb⟩
  have HB13 := Lib.hid (below_trans HB12.out hb)
  have A_13 := Lib.hid (A_12.out.below hb (Nat.le_refl _))
  have B_13 := Lib.hid (B_12.out.below hb (Nat.le_refl _))
  have S_13 := Lib.hid (S_12.out.below hb (Nat.le_refl _))
  have M_13 := Lib.hid (M_12.out.below hb (Nat.le_refl _))
  clear hb HB12 A_12 B_12 S_12 M_12
  have cA0 := A_13.out.cell 0
  have cA1 := A_13.out.cell 1
  have cB0 := B_13.out.cell 0
  have cB1 := B_13.out.cell 1
  have cS0 := S_13.out.cell 0
  have cS1 := S_13.out.cell 1
  have cM0 := M_13.out.cell 0
  have cM1 := M_13.out.cell 1
  go_wp2_with fail
  clear cA0 cA1 cB0 cB1 cS0 cS1 cM0 cM1
  refine (WI.out _).mono ?_
  rintro e w14 ⟨rfl, hb⟩
  have HB14 := Lib.hid (below_trans HB13.out hb)
  have A_14 := Lib.hid (A_13.out.below hb (Nat.le_refl _))
  have B_14 := Lib.hid (B_13.out.below hb (Nat.le_refl _))
  have S_14 := Lib.hid (S_13.out.below hb (Nat.le_refl _))
  have M_14 := Lib.hid (M_13.out.below hb (Nat.le_refl _))
  clear hb HB13 A_13 B_13 S_13 M_13
  have cA0 := A_14.out.cell 0
  have cA1 := A_14.out.cell 1
  have cB0 := B_14.out.cell 0
  have cB1 := B_14.out.cell 1
  have cS0 := S_14.out.cell 0
  have cS1 := S_14.out.cell 1
  have cM0 := M_14.out.cell 0
  have cM1 := M_14.out.cell 1
  go_wp2_with fail
  clear cA0 cA1 cB0 cB1 cS0 cS1 cM0 cM1
  refine (HA.out _).mono ?_
  rintro e w15 ⟨rfl, hb⟩
  have HB15 := Lib.hid (below_trans HB14.out hb)
  have A_15 := Lib.hid (A_14.out.below hb (Nat.le_refl _))
  have B_15 := Lib.hid (B_14.out.below hb (Nat.le_refl _))
  have S_15 := Lib.hid (S_14.out.below hb (Nat.le_refl _))
  have M_15 := Lib.hid (M_14.out.below hb (Nat.le_refl _))
  clear hb HB14 A_14 B_14 S_14 M_14
  have cA0 := A_15.out.cell 0
  have cA1 := A_15.out.cell 1
  have cB0 := B_15.out.cell 0
  have cB1 := B_15.out.cell 1
  have cS0 := S_15.out.cell 0
  have cS1 := S_15.out.cell 1
  have cM0 := M_15.out.cell 0
  have cM1 := M_15.out.cell 1
  go_wp2_with fail
  clear cA0 cA1 cB0 cB1 cS0 cS1 cM0 cM1
  refine (HN.out _).mono ?_
  rintro e w16 ⟨rfl, hb⟩
  have HB16 := Lib.hid (below_trans HB15.out hb)
  have A_16 := Lib.hid (A_15.out.below hb (Nat.le_refl _))
  have B_16 := Lib.hid (B_15.out.below hb (Nat.le_refl _))
  have S_16 := Lib.hid (S_15.out.below hb (Nat.le_refl _))
  have M_16 := Lib.hid (M_15.out.below hb (Nat.le_refl _))
  clear hb HB15 A_15 B_15 S_15 M_15
  have cA0 := A_16.out.cell 0
  have cA1 := A_16.out.cell 1
  have cB0 := B_16.out.cell 0
  have cB1 := B_16.out.cell 1
  have cS0 := S_16.out.cell 0
  have cS1 := S_16.out.cell 1
  have cM0 := M_16.out.cell 0
  have cM1 := M_16.out.cell 1
  go_wp2_with fail
  clear cA0 cA1 cB0 cB1 cS0 cS1 cM0 cM1
  refine (RI.out _).mono ?_
  rintro e w17 ⟨rfl, hb⟩
  have HB17 := Lib.hid (below_trans HB16.out hb)
  have A_17 := Lib.hid (A_16.out.below hb (Nat.le_refl _))
  have B_17 := Lib.hid (B_16.out.below hb (Nat.le_refl _))
  have S_17 := Lib.hid (S_16.out.below hb (Nat.le_refl _))
  have M_17 := Lib.hid (M_16.out.below hb (Nat.le_refl _))
  clear hb HB16 A_16 B_16 S_16 M_16
  have cA0 := A_17.out.cell 0
  have cA1 := A_17.out.cell 1
  have cB0 := B_17.out.cell 0
  have cB1 := B_17.out.cell 1
  have cS0 := S_17.out.cell 0
  have cS1 := S_17.out.cell 1
  have cM0 := M_17.out.cell 0
  have cM1 := M_17.out.cell 1
  go_wp2_with fail
  clear cA0 cA1 cB0 cB1 cS0 cS1 cM0 cM1
  refine (RN.out _).mono ?_
  rintro e w18 ⟨rfl, hb⟩
  have HB18 := Lib.hid (below_trans HB17.out hb)
  have A_18 := Lib.hid (A_17.out.below hb (Nat.le_refl _))
  have B_18 := Lib.hid (B_17.out.below hb (Nat.le_refl _))
  have S_18 := Lib.hid (S_17.out.below hb (Nat.le_refl _))
  have M_18 := Lib.hid (M_17.out.below hb (Nat.le_refl _))
  clear hb HB17 A_17 B_17 S_17 M_17
  go_wp2_with fail
  --GG
  go_ret
  exact ⟨rfl, HB18.out⟩
end Go.Proofs.Ytecnonmcmdaopaa.Sp
