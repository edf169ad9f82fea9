/- The statement SpanOrders, a part of its walk: Within is reflexive, transitive and antisymmetric, Add and Join do not depend on the order, and for right spans Within says that every integer of one is in the other. Conditions: none. -/
import Derived.Test.YtecnonmcmdaopaaSpCard
namespace Go.Proofs.Ytecnonmcmdaopaa.spanOrders
open Go.ChangeShapes Go.WideShapes Go.ChangeAt Go.RowKit Go.Joins Go.Deep Sp
set_option linter.unusedVariables false
set_option maxRecDepth 100000
set_option maxHeartbeats 32000000 in
theorem walkB (a0 a1 : Int) (wa0 : I64 a0) (wa1 : I64 a1) (b0 b1 : Int) (wb0 : I64 b0) (wb1 : I64 b1) (c0 c1 : Int) (wc0 : I64 c0) (wc1 : I64 c1) (n : Int) (wn : I64 n) (w : World) (hab : decide (b0 ≤ a0 ∧ a1 ≤ b1) = true) (hbc : decide (c0 ≤ b0 ∧ b1 ≤ c1) = false) (hba : decide (a0 ≤ b0 ∧ b1 ≤ a1) = false) : Calls Try.prog 7 #[sp a0 a1, sp b0 b1, sp c0 c1, .int .i64 n] w (IsTrue w) := by
  have SM := Lib.hid (fun W => small_any W)
  have WAA := Lib.hid (fun W => within_any a0 a1 a0 a1 W)
  rw [decide_eq_true (show a0 ≤ a0 ∧ a1 ≤ a1 by omega)] at WAA
  have WAB := Lib.hid (fun W => within_any a0 a1 b0 b1 W)
  have WBC := Lib.hid (fun W => within_any b0 b1 c0 c1 W)
  have WAC := Lib.hid (fun W => within_any a0 a1 c0 c1 W)
  have WBA := Lib.hid (fun W => within_any b0 b1 a0 a1 W)
  have AD1 := Lib.hid (fun W => add_sp a0 a1 b0 b1 wa0 wa1 wb0 wb1 W)
  have AD2 := Lib.hid (fun W => add_sp b0 b1 a0 a1 wb0 wb1 wa0 wa1 W)
  rw [Int.add_comm b0 a0, Int.add_comm b1 a1] at AD2
  have JO1 := Lib.hid (fun W => join_any a0 a1 b0 b1 W)
  have JO2 := Lib.hid (fun W => join_any b0 b1 a0 a1 W)
  rw [show min b0 a0 = min a0 b0 by omega, show max b1 a1 = max a1 b1 by omega] at JO2
  have JO3 := Lib.hid (fun W => join_any a0 a1 a0 a1 W)
  rw [show min a0 a0 = a0 by omega, show max a1 a1 = a1 by omega] at JO3
  have RA := Lib.hid (fun W => right_any a0 a1 W)
  have HL := Lib.hid (fun W => has_any b0 b1 a0 W)
  have HH := Lib.hid (fun W => has_any b0 b1 a1 W)
  have HAN := Lib.hid (fun W => has_any a0 a1 n W)
  have HBN := Lib.hid (fun W => has_any b0 b1 n W)
  have OF := Lib.hid (fun W => of_any n W)
  have HON := Lib.hid (fun W => has_any n n n W)
  rw [decide_eq_true (show n ≤ n ∧ n ≤ n by omega)] at HON
  have KT := Lib.hid (show decide (b0 ≤ a0 ∧ a1 ≤ b1) = true → decide (c0 ≤ b0 ∧ b1 ≤ c1) = true → decide (c0 ≤ a0 ∧ a1 ≤ c1) = true from fun h1 h2 => by simp only [decide_eq_true_eq] at *; omega)
  have KE := Lib.hid (show decide (b0 ≤ a0 ∧ a1 ≤ b1) = true → decide (a0 ≤ b0 ∧ b1 ≤ a1) = true → a0 = b0 ∧ a1 = b1 from fun h1 h2 => by simp only [decide_eq_true_eq] at *; omega)
  have KR := Lib.hid (show decide (a0 ≤ a1) = true → decide (b0 ≤ a0 ∧ a1 ≤ b1) = (decide (b0 ≤ a0 ∧ a0 ≤ b1) && decide (b0 ≤ a1 ∧ a1 ≤ b1)) from fun h => by simp only [decide_eq_true_eq] at h; rw [← Bool.decide_and]; exact decide_eq_decide.2 (by omega))
  have KHB := Lib.hid (show decide (b0 ≤ a0 ∧ a1 ≤ b1) = true → decide (a0 ≤ n ∧ n ≤ a1) = true → decide (b0 ≤ n ∧ n ≤ b1) = true from fun h1 h2 => by simp only [decide_eq_true_eq] at *; omega)
  clear wa0 wa1 wb0 wb1 wc0 wc1 wn
  unfold sp at *
  generalize decide (b0 ≤ a0 ∧ a1 ≤ b1) = wab at *
  generalize decide (c0 ≤ b0 ∧ b1 ≤ c1) = wbc at *
  generalize decide (c0 ≤ a0 ∧ a1 ≤ c1) = wac at *
  generalize decide (a0 ≤ b0 ∧ b1 ≤ a1) = wba at *
  generalize decide (a0 ≤ a1) = ra at *
  generalize decide (b0 ≤ a0 ∧ a0 ≤ b1) = hl at *
  generalize decide (b0 ≤ a1 ∧ a1 ≤ b1) = hh at *
  generalize decide (a0 ≤ n ∧ n ≤ a1) = han at *
  generalize decide (b0 ≤ n ∧ n ≤ b1) = hbn at *
  generalize lim (a0 + b0) = p0 at *
  generalize lim (a1 + b1) = p1 at *
  generalize min a0 b0 = j0 at *
  generalize max a1 b1 = j1 at *
  subst hab
  subst hbc
  subst hba
  have HB0 := Lib.hid (below_self w)
  have HB1 := Lib.hid (below_trans HB0.out (below_alloc w (.cells #[.int .i64 a0, .int .i64 a1] 23)))
  have A_1 := Lib.hid (Cl.at (w := w) (x := a0) (y := a1) (g := w.heap.size) (by simp))
  clear HB0 
  have HB2 := Lib.hid (below_trans HB1.out (below_alloc (w.alloc (.cells #[.int .i64 a0, .int .i64 a1] 23)) (.cells #[.int .i64 b0, .int .i64 b1] 23)))
  have A_2 := Lib.hid (A_1.out.alloc (.cells #[.int .i64 b0, .int .i64 b1] 23))
  have B_2 := Lib.hid (Cl.at (w := (w.alloc (.cells #[.int .i64 a0, .int .i64 a1] 23))) (x := b0) (y := b1) (g := w.heap.size + 1) (by simp))
  clear HB1 A_1
  have HB3 := Lib.hid (below_trans HB2.out (below_alloc ((w.alloc (.cells #[.int .i64 a0, .int .i64 a1] 23)).alloc (.cells #[.int .i64 b0, .int .i64 b1] 23)) (.cells #[.int .i64 c0, .int .i64 c1] 23)))
  have A_3 := Lib.hid (A_2.out.alloc (.cells #[.int .i64 c0, .int .i64 c1] 23))
  have B_3 := Lib.hid (B_2.out.alloc (.cells #[.int .i64 c0, .int .i64 c1] 23))
  have C_3 := Lib.hid (Cl.at (w := ((w.alloc (.cells #[.int .i64 a0, .int .i64 a1] 23)).alloc (.cells #[.int .i64 b0, .int .i64 b1] 23))) (x := c0) (y := c1) (g := w.heap.size + 1 + 1) (by simp))
  clear HB2 A_2 B_2
  go_enter Try.func7, Try.ntmps7
  have cA0 := A_3.out.1
  have cA1 := A_3.out.2
  have cB0 := B_3.out.1
  have cB1 := B_3.out.2
  have cC0 := C_3.out.1
  have cC1 := C_3.out.2
  go_wp2_with fail
  clear cA0 cA1 cB0 cB1 cC0 cC1
  refine (SM.out _).mono ?_
  rintro e w4 ⟨rfl, hb⟩
  have HB4 := Lib.hid (below_trans HB3.out hb)
  have A_4 := Lib.hid (A_3.out.below hb)
  have B_4 := Lib.hid (B_3.out.below hb)
  have C_4 := Lib.hid (C_3.out.below hb)
  clear hb HB3 A_3 B_3 C_3
  have cA0 := A_4.out.1
  have cA1 := A_4.out.2
  have cB0 := B_4.out.1
  have cB1 := B_4.out.2
  have cC0 := C_4.out.1
  have cC1 := C_4.out.2
  go_wp2_with fail
  clear cA0 cA1 cB0 cB1 cC0 cC1
  refine (WAA.out _).mono ?_
  rintro e w5 ⟨rfl, hb⟩
  have HB5 := Lib.hid (below_trans HB4.out hb)
  have A_5 := Lib.hid (A_4.out.below hb)
  have B_5 := Lib.hid (B_4.out.below hb)
  have C_5 := Lib.hid (C_4.out.below hb)
  clear hb HB4 A_4 B_4 C_4
  have cA0 := A_5.out.1
  have cA1 := A_5.out.2
  have cB0 := B_5.out.1
  have cB1 := B_5.out.2
  have cC0 := C_5.out.1
  have cC1 := C_5.out.2
  go_wp2_with fail
  clear cA0 cA1 cB0 cB1 cC0 cC1
  refine (WAB.out _).mono ?_
  rintro e w6 ⟨rfl, hb⟩
  have HB6 := Lib.hid (below_trans HB5.out hb)
  have A_6 := Lib.hid (A_5.out.below hb)
  have B_6 := Lib.hid (B_5.out.below hb)
  have C_6 := Lib.hid (C_5.out.below hb)
  clear hb HB5 A_5 B_5 C_5
  have cA0 := A_6.out.1
  have cA1 := A_6.out.2
  have cB0 := B_6.out.1
  have cB1 := B_6.out.2
  have cC0 := C_6.out.1
  have cC1 := C_6.out.2
  go_wp2_with fail
  clear cA0 cA1 cB0 cB1 cC0 cC1
  refine (WBC.out _).mono ?_
  rintro e w7 ⟨rfl, hb⟩
  have HB7 := Lib.hid (below_trans HB6.out hb)
  have A_7 := Lib.hid (A_6.out.below hb)
  have B_7 := Lib.hid (B_6.out.below hb)
  have C_7 := Lib.hid (C_6.out.below hb)
  clear hb HB6 A_6 B_6 C_6
  have cA0 := A_7.out.1
  have cA1 := A_7.out.2
  have cB0 := B_7.out.1
  have cB1 := B_7.out.2
  have cC0 := C_7.out.1
  have cC1 := C_7.out.2
  go_wp2_with fail
  clear cA0 cA1 cB0 cB1 cC0 cC1
  refine (WAB.out _).mono ?_
  rintro e w8 ⟨rfl, hb⟩
  have HB8 := Lib.hid (below_trans HB7.out hb)
  have A_8 := Lib.hid (A_7.out.below hb)
  have B_8 := Lib.hid (B_7.out.below hb)
  have C_8 := Lib.hid (C_7.out.below hb)
  clear hb HB7 A_7 B_7 C_7
  have cA0 := A_8.out.1
  have cA1 := A_8.out.2
  have cB0 := B_8.out.1
  have cB1 := B_8.out.2
  have cC0 := C_8.out.1
  have cC1 := C_8.out.2
  go_wp2_with fail
  clear cA0 cA1 cB0 cB1 cC0 cC1
  refine (WBA.out _).mono ?_
  rintro e w9 ⟨rfl, hb⟩
  have HB9 := Lib.hid (below_trans HB8.out hb)
  have A_9 := Lib.hid (A_8.out.below hb)
  have B_9 := Lib.hid (B_8.out.below hb)
  have C_9 := Lib.hid (C_8.out.below hb)
  clear hb HB8 A_8 B_8 C_8
  have cA0 := A_9.out.1
  have cA1 := A_9.out.2
  have cB0 := B_9.out.1
  have cB1 := B_9.out.2
  have cC0 := C_9.out.1
  have cC1 := C_9.out.2
  go_wp2_with fail
  clear cA0 cA1 cB0 cB1 cC0 cC1
  have HSr := Lib.hid (show ∀ W W', Below W.heap.size W W' → (W.cell? ⟨w.heap.size, 0, none⟩ = some (.int .i64 a0) ∧ W.cell? ⟨w.heap.size, 1, none⟩ = some (.int .i64 a1) ∧ W.cell? ⟨w.heap.size + 1, 0, none⟩ = some (.int .i64 b0) ∧ W.cell? ⟨w.heap.size + 1, 1, none⟩ = some (.int .i64 b1) ∧ Below w.heap.size w W) → (W'.cell? ⟨w.heap.size, 0, none⟩ = some (.int .i64 a0) ∧ W'.cell? ⟨w.heap.size, 1, none⟩ = some (.int .i64 a1) ∧ W'.cell? ⟨w.heap.size + 1, 0, none⟩ = some (.int .i64 b0) ∧ W'.cell? ⟨w.heap.size + 1, 1, none⟩ = some (.int .i64 b1) ∧ Below w.heap.size w W') from fun W W' hb h => by obtain ⟨h0, h1, h2, h3, h4⟩ := h; exact ⟨cell_below hb h0, cell_below hb h1, cell_below hb h2, cell_below hb h3, below_trans h4 hb⟩)
  have tr0 := s_call (S := (fun W => W.cell? ⟨w.heap.size, 0, none⟩ = some (.int .i64 a0) ∧ W.cell? ⟨w.heap.size, 1, none⟩ = some (.int .i64 a1) ∧ W.cell? ⟨w.heap.size + 1, 0, none⟩ = some (.int .i64 b0) ∧ W.cell? ⟨w.heap.size + 1, 1, none⟩ = some (.int .i64 b1) ∧ Below w.heap.size w W)) HSr.out AD1.out
  try dsimp only at tr0
  have Qr0 := Lib.hid tr0
  clear tr0
  have tr1 := s_call (S := (fun W => W.cell? ⟨w.heap.size, 0, none⟩ = some (.int .i64 a0) ∧ W.cell? ⟨w.heap.size, 1, none⟩ = some (.int .i64 a1) ∧ W.cell? ⟨w.heap.size + 1, 0, none⟩ = some (.int .i64 b0) ∧ W.cell? ⟨w.heap.size + 1, 1, none⟩ = some (.int .i64 b1) ∧ Below w.heap.size w W)) HSr.out AD2.out
  try dsimp only at tr1
  have Qr1 := Lib.hid tr1
  clear tr1
  have tr2 := s_call (S := (fun W => W.cell? ⟨w.heap.size, 0, none⟩ = some (.int .i64 a0) ∧ W.cell? ⟨w.heap.size, 1, none⟩ = some (.int .i64 a1) ∧ W.cell? ⟨w.heap.size + 1, 0, none⟩ = some (.int .i64 b0) ∧ W.cell? ⟨w.heap.size + 1, 1, none⟩ = some (.int .i64 b1) ∧ Below w.heap.size w W)) HSr.out JO1.out
  try dsimp only at tr2
  have Qr2 := Lib.hid tr2
  clear tr2
  have tr3 := s_call (S := (fun W => W.cell? ⟨w.heap.size, 0, none⟩ = some (.int .i64 a0) ∧ W.cell? ⟨w.heap.size, 1, none⟩ = some (.int .i64 a1) ∧ W.cell? ⟨w.heap.size + 1, 0, none⟩ = some (.int .i64 b0) ∧ W.cell? ⟨w.heap.size + 1, 1, none⟩ = some (.int .i64 b1) ∧ Below w.heap.size w W)) HSr.out JO2.out
  try dsimp only at tr3
  have Qr3 := Lib.hid tr3
  clear tr3
  have tr4 := s_call (S := (fun W => W.cell? ⟨w.heap.size, 0, none⟩ = some (.int .i64 a0) ∧ W.cell? ⟨w.heap.size, 1, none⟩ = some (.int .i64 a1) ∧ W.cell? ⟨w.heap.size + 1, 0, none⟩ = some (.int .i64 b0) ∧ W.cell? ⟨w.heap.size + 1, 1, none⟩ = some (.int .i64 b1) ∧ Below w.heap.size w W)) HSr.out JO3.out
  try dsimp only at tr4
  have Qr4 := Lib.hid tr4
  clear tr4
  go_region_held3 (fun W => W.cell? ⟨w.heap.size, 0, none⟩ = some (.int .i64 a0) ∧ W.cell? ⟨w.heap.size, 1, none⟩ = some (.int .i64 a1) ∧ W.cell? ⟨w.heap.size + 1, 0, none⟩ = some (.int .i64 b0) ∧ W.cell? ⟨w.heap.size + 1, 1, none⟩ = some (.int .i64 b1) ∧ Below w.heap.size w W)
    (((try dsimp only); (refine ⟨?_, ?_, ?_, ?_, ?_⟩ <;> (first | assumption | exact A_9.out.1 | exact A_9.out.2 | exact B_9.out.1 | exact B_9.out.2 | exact ⟨HB9.out.os, HB9.out.tape, HB9.out.output, HB9.out.size, HB9.out.block⟩ | go_keep))))
    ((first
      | (go_at_call 19; with_reducible refine (Qr0.out _ ?_).mono ?_; assumption; rintro e w' ⟨rfl, zz0, zz1, zz2, zz3, zz4⟩)
      | (go_at_call 19; with_reducible refine (Qr1.out _ ?_).mono ?_; assumption; rintro e w' ⟨rfl, zz0, zz1, zz2, zz3, zz4⟩)
      | (go_at_call 23; with_reducible refine (Qr2.out _ ?_).mono ?_; assumption; rintro e w' ⟨rfl, zz0, zz1, zz2, zz3, zz4⟩)
      | (go_at_call 23; with_reducible refine (Qr3.out _ ?_).mono ?_; assumption; rintro e w' ⟨rfl, zz0, zz1, zz2, zz3, zz4⟩)
      | (go_at_call 23; with_reducible refine (Qr4.out _ ?_).mono ?_; assumption; rintro e w' ⟨rfl, zz0, zz1, zz2, zz3, zz4⟩)))
  have A_10 := Lib.hid (show Cl _ (w.heap.size) (a0) (a1) from ⟨zz0, zz1⟩)
  have B_10 := Lib.hid (show Cl _ (w.heap.size + 1) (b0) (b1) from ⟨zz2, zz3⟩)
  have HB10 := Lib.hid zz4
  clear zz0 zz1 zz2 zz3 zz4
  clear HSr Qr0 Qr1 Qr2 Qr3 Qr4
  clear A_9 B_9 C_9 HB9
  cases ra with
  | false =>
    have cA0 := A_10.out.1
    have cA1 := A_10.out.2
    have cB0 := B_10.out.1
    have cB1 := B_10.out.2
    go_wp2_with fail
    clear cA0 cA1 cB0 cB1
    have HSs := Lib.hid (show ∀ W W', Below W.heap.size W W' → (W.cell? ⟨w.heap.size, 0, none⟩ = some (.int .i64 a0) ∧ W.cell? ⟨w.heap.size, 1, none⟩ = some (.int .i64 a1) ∧ W.cell? ⟨w.heap.size + 1, 0, none⟩ = some (.int .i64 b0) ∧ W.cell? ⟨w.heap.size + 1, 1, none⟩ = some (.int .i64 b1) ∧ Below w.heap.size w W) → (W'.cell? ⟨w.heap.size, 0, none⟩ = some (.int .i64 a0) ∧ W'.cell? ⟨w.heap.size, 1, none⟩ = some (.int .i64 a1) ∧ W'.cell? ⟨w.heap.size + 1, 0, none⟩ = some (.int .i64 b0) ∧ W'.cell? ⟨w.heap.size + 1, 1, none⟩ = some (.int .i64 b1) ∧ Below w.heap.size w W') from fun W W' hb h => by obtain ⟨h0, h1, h2, h3, h4⟩ := h; exact ⟨cell_below hb h0, cell_below hb h1, cell_below hb h2, cell_below hb h3, below_trans h4 hb⟩)
    have ts0 := s_call (S := (fun W => W.cell? ⟨w.heap.size, 0, none⟩ = some (.int .i64 a0) ∧ W.cell? ⟨w.heap.size, 1, none⟩ = some (.int .i64 a1) ∧ W.cell? ⟨w.heap.size + 1, 0, none⟩ = some (.int .i64 b0) ∧ W.cell? ⟨w.heap.size + 1, 1, none⟩ = some (.int .i64 b1) ∧ Below w.heap.size w W)) HSs.out RA.out
    try dsimp only at ts0
    have QRA := Lib.hid ts0
    clear ts0
    refine wp_region_held_drew (S := (fun W => W.cell? ⟨w.heap.size, 0, none⟩ = some (.int .i64 a0) ∧ W.cell? ⟨w.heap.size, 1, none⟩ = some (.int .i64 a1) ∧ W.cell? ⟨w.heap.size + 1, 0, none⟩ = some (.int .i64 b0) ∧ W.cell? ⟨w.heap.size + 1, 1, none⟩ = some (.int .i64 b1) ∧ Below w.heap.size w W)) (by kernel_rfl) ⟨A_10.out.1, A_10.out.2, B_10.out.1, B_10.out.2, ⟨HB10.out.os, HB10.out.tape, HB10.out.output, HB10.out.size, HB10.out.block⟩⟩ (fun hHeld => ?_)
    refine wpAnyH_take (i := 0) (oi := _) (v := .agg #[.int .i64 a0, .int .i64 a1]) rfl (by kernel_rfl) (by kernel_rfl) (by kernel_rfl) (fun _ _ _ h => h) (Or.inl ⟨rfl, fun W hSw => ?_⟩) hHeld ?_
    · obtain ⟨z0, z1, z2, z3, z4⟩ := hSw
      go_simp
    simp only [Act.put, List.getElem_toArray, List.getElem_cons_zero, List.setIfInBounds_toArray, List.set_cons_zero, List.set_cons_succ]
    refine wpAnyH_ready (rs := [1]) (by kernel_rfl) (by simp) (AllReadyH.cons (o := _) rfl (fun K hK => ?_) AllReadyH.nil)
    go_simp
    refine (QRA.out _ hHeld).mono ?_
    rintro e w' ⟨rfl, zz0, zz1, zz2, zz3, zz4⟩
    go_wp2_with fail
    refine hK.out _ _ ⟨zz0, zz1, zz2, zz3, zz4⟩ (fun hHeld => ?_)
    clear hK K
    try simp only [Act.put, List.getElem_toArray, List.getElem_cons_zero, List.getElem_cons_succ, List.setIfInBounds_toArray, List.set_cons_zero, List.set_cons_succ]
    refine wpAnyH_take (i := 2) (oi := _) (v := .bool false) rfl (by kernel_rfl) (by kernel_rfl) (by kernel_rfl) (fun _ _ _ h => h) (Or.inl ⟨rfl, fun W hSw => ?_⟩) hHeld ?_
    · obtain ⟨z0, z1, z2, z3, z4⟩ := hSw
      go_simp
    simp only [Act.put, List.getElem_toArray, List.getElem_cons_zero, List.getElem_cons_succ, List.setIfInBounds_toArray, List.set_cons_zero, List.set_cons_succ]
    refine wpAnyH_take (i := 3) (oi := _) (v := undef) rfl (by kernel_rfl) (by kernel_rfl) (by kernel_rfl) (fun _ _ _ h => h) (Or.inr ⟨rfl, rfl⟩) hHeld ?_
    simp only [Act.put, List.getElem_toArray, List.getElem_cons_zero, List.getElem_cons_succ, List.setIfInBounds_toArray, List.set_cons_zero, List.set_cons_succ]
    refine wpAnyH_take (i := 4) (oi := _) (v := undef) rfl (by kernel_rfl) (by kernel_rfl) (by kernel_rfl) (fun _ _ _ h => h) (Or.inr ⟨rfl, rfl⟩) hHeld ?_
    simp only [Act.put, List.getElem_toArray, List.getElem_cons_zero, List.getElem_cons_succ, List.setIfInBounds_toArray, List.set_cons_zero, List.set_cons_succ]
    refine wpAnyH_take (i := 5) (oi := _) (v := undef) rfl (by kernel_rfl) (by kernel_rfl) (by kernel_rfl) (fun _ _ _ h => h) (Or.inr ⟨rfl, rfl⟩) hHeld ?_
    simp only [Act.put, List.getElem_toArray, List.getElem_cons_zero, List.getElem_cons_succ, List.setIfInBounds_toArray, List.set_cons_zero, List.set_cons_succ]
    refine wpAnyH_take (i := 6) (oi := _) (v := undef) rfl (by kernel_rfl) (by kernel_rfl) (by kernel_rfl) (fun _ _ _ h => h) (Or.inr ⟨rfl, rfl⟩) hHeld ?_
    simp only [Act.put, List.getElem_toArray, List.getElem_cons_zero, List.getElem_cons_succ, List.setIfInBounds_toArray, List.set_cons_zero, List.set_cons_succ]
    refine wpAnyH_take (i := 7) (oi := _) (v := undef) rfl (by kernel_rfl) (by kernel_rfl) (by kernel_rfl) (fun _ _ _ h => h) (Or.inr ⟨rfl, rfl⟩) hHeld ?_
    simp only [Act.put, List.getElem_toArray, List.getElem_cons_zero, List.getElem_cons_succ, List.setIfInBounds_toArray, List.set_cons_zero, List.set_cons_succ]
    refine wpAnyH_take (i := 8) (oi := _) (v := undef) rfl (by kernel_rfl) (by kernel_rfl) (by kernel_rfl) (fun _ _ _ h => h) (Or.inr ⟨rfl, rfl⟩) hHeld ?_
    simp only [Act.put, List.getElem_toArray, List.getElem_cons_zero, List.getElem_cons_succ, List.setIfInBounds_toArray, List.set_cons_zero, List.set_cons_succ]
    refine wpAnyH_take (i := 9) (oi := _) (v := undef) rfl (by kernel_rfl) (by kernel_rfl) (by kernel_rfl) (fun _ _ _ h => h) (Or.inr ⟨rfl, rfl⟩) hHeld ?_
    simp only [Act.put, List.getElem_toArray, List.getElem_cons_zero, List.getElem_cons_succ, List.setIfInBounds_toArray, List.set_cons_zero, List.set_cons_succ]
    refine wpAnyH_take (i := 10) (oi := _) (v := undef) rfl (by kernel_rfl) (by kernel_rfl) (by kernel_rfl) (fun _ _ _ h => h) (Or.inr ⟨rfl, rfl⟩) hHeld ?_
    simp only [Act.put, List.getElem_toArray, List.getElem_cons_zero, List.getElem_cons_succ, List.setIfInBounds_toArray, List.set_cons_zero, List.set_cons_succ]
    refine wpAnyH_take (i := 11) (oi := _) (v := undef) rfl (by kernel_rfl) (by kernel_rfl) (by kernel_rfl) (fun _ _ _ h => h) (Or.inr ⟨rfl, rfl⟩) hHeld ?_
    simp only [Act.put, List.getElem_toArray, List.getElem_cons_zero, List.getElem_cons_succ, List.setIfInBounds_toArray, List.set_cons_zero, List.set_cons_succ]
    refine wpAnyH_take (i := 12) (oi := _) (v := undef) rfl (by kernel_rfl) (by kernel_rfl) (by kernel_rfl) (fun _ _ _ h => h) (Or.inr ⟨rfl, rfl⟩) hHeld ?_
    simp only [Act.put, List.getElem_toArray, List.getElem_cons_zero, List.getElem_cons_succ, List.setIfInBounds_toArray, List.set_cons_zero, List.set_cons_succ]
    refine wpAnyH_take (i := 13) (oi := _) (v := undef) rfl (by kernel_rfl) (by kernel_rfl) (by kernel_rfl) (fun _ _ _ h => h) (Or.inr ⟨rfl, rfl⟩) hHeld ?_
    simp only [Act.put, List.getElem_toArray, List.getElem_cons_zero, List.getElem_cons_succ, List.setIfInBounds_toArray, List.set_cons_zero, List.set_cons_succ]
    refine wpAnyH_take (i := 14) (oi := _) (v := undef) rfl (by kernel_rfl) (by kernel_rfl) (by kernel_rfl) (fun _ _ _ h => h) (Or.inr ⟨rfl, rfl⟩) hHeld ?_
    simp only [Act.put, List.getElem_toArray, List.getElem_cons_zero, List.getElem_cons_succ, List.setIfInBounds_toArray, List.set_cons_zero, List.set_cons_succ]
    refine wpAnyH_take (i := 15) (oi := _) (v := undef) rfl (by kernel_rfl) (by kernel_rfl) (by kernel_rfl) (fun _ _ _ h => h) (Or.inr ⟨rfl, rfl⟩) hHeld ?_
    simp only [Act.put, List.getElem_toArray, List.getElem_cons_zero, List.getElem_cons_succ, List.setIfInBounds_toArray, List.set_cons_zero, List.set_cons_succ]
    refine wpAnyH_take (i := 16) (oi := _) (v := undef) rfl (by kernel_rfl) (by kernel_rfl) (by kernel_rfl) (fun _ _ _ h => h) (Or.inr ⟨rfl, rfl⟩) hHeld ?_
    simp only [Act.put, List.getElem_toArray, List.getElem_cons_zero, List.getElem_cons_succ, List.setIfInBounds_toArray, List.set_cons_zero, List.set_cons_succ]
    refine wpAnyH_take (i := 17) (oi := _) (v := .bool false) rfl (by kernel_rfl) (by kernel_rfl) (by kernel_rfl) (fun _ _ _ h => h) (Or.inl ⟨rfl, fun W hSw => ?_⟩) hHeld ?_
    · obtain ⟨z0, z1, z2, z3, z4⟩ := hSw
      go_simp
    simp only [Act.put, List.getElem_toArray, List.getElem_cons_zero, List.getElem_cons_succ, List.setIfInBounds_toArray, List.set_cons_zero, List.set_cons_succ]
    refine wpAnyH_done (by kernel_rfl) ?_ _
    have A_11 := Lib.hid (show Cl _ (w.heap.size) (a0) (a1) from ⟨zz0, zz1⟩)
    have B_11 := Lib.hid (show Cl _ (w.heap.size + 1) (b0) (b1) from ⟨zz2, zz3⟩)
    have HB11 := Lib.hid zz4
    clear zz0 zz1 zz2 zz3 zz4 hHeld HSs QRA A_10 B_10 HB10
    cases han with
    | false =>
      have cA0 := A_11.out.1
      have cA1 := A_11.out.2
      have cB0 := B_11.out.1
      have cB1 := B_11.out.2
      go_wp2_with fail
      clear cA0 cA1 cB0 cB1
      refine (WAB.out _).mono ?_
      rintro e w12 ⟨rfl, hb⟩
      have HB12 := Lib.hid (below_trans HB11.out hb)
      have A_12 := Lib.hid (A_11.out.below hb)
      have B_12 := Lib.hid (B_11.out.below hb)
      clear hb HB11 A_11 B_11
      have cA0 := A_12.out.1
      have cA1 := A_12.out.2
      have cB0 := B_12.out.1
      have cB1 := B_12.out.2
      go_wp2_with fail
      clear cA0 cA1 cB0 cB1
      refine (HAN.out _).mono ?_
      rintro e w13 ⟨rfl, hb⟩
      have HB13 := Lib.hid (below_trans HB12.out hb)
      have A_13 := Lib.hid (A_12.out.below hb)
      have B_13 := Lib.hid (B_12.out.below hb)
      clear hb HB12 A_12 B_12
      have cA0 := A_13.out.1
      have cA1 := A_13.out.2
      have cB0 := B_13.out.1
      have cB1 := B_13.out.2
      go_wp2_with fail
      clear cA0 cA1 cB0 cB1
      refine (OF.out _).mono ?_
      rintro e w14 ⟨rfl, hb⟩
      have HB14 := Lib.hid (below_trans HB13.out hb)
      have A_14 := Lib.hid (A_13.out.below hb)
      have B_14 := Lib.hid (B_13.out.below hb)
      clear hb HB13 A_13 B_13
      have cA0 := A_14.out.1
      have cA1 := A_14.out.2
      have cB0 := B_14.out.1
      have cB1 := B_14.out.2
      go_wp2_with fail
      clear cA0 cA1 cB0 cB1
      refine (OF.out _).mono ?_
      rintro e w15 ⟨rfl, hb⟩
      have HB15 := Lib.hid (below_trans HB14.out hb)
      have A_15 := Lib.hid (A_14.out.below hb)
      have B_15 := Lib.hid (B_14.out.below hb)
      clear hb HB14 A_14 B_14
      have cA0 := A_15.out.1
      have cA1 := A_15.out.2
      have cB0 := B_15.out.1
      have cB1 := B_15.out.2
      go_wp2_with fail
      clear cA0 cA1 cB0 cB1
      refine (HON.out _).mono ?_
      rintro e w16 ⟨rfl, hb⟩
      have HB16 := Lib.hid (below_trans HB15.out hb)
      have A_16 := Lib.hid (A_15.out.below hb)
      have B_16 := Lib.hid (B_15.out.below hb)
      clear hb HB15 A_15 B_15
      go_wp2_with fail
      go_ret
      exact ⟨rfl, HB16.out⟩
    | true =>
      obtain rfl : hbn = true := KHB.out (by trivial) (by trivial)
      have cA0 := A_11.out.1
      have cA1 := A_11.out.2
      have cB0 := B_11.out.1
      have cB1 := B_11.out.2
      go_wp2_with fail
      clear cA0 cA1 cB0 cB1
      refine (WAB.out _).mono ?_
      rintro e w12 ⟨rfl, hb⟩
      have HB12 := Lib.hid (below_trans HB11.out hb)
      have A_12 := Lib.hid (A_11.out.below hb)
      have B_12 := Lib.hid (B_11.out.below hb)
      clear hb HB11 A_11 B_11
      have cA0 := A_12.out.1
      have cA1 := A_12.out.2
      have cB0 := B_12.out.1
      have cB1 := B_12.out.2
      go_wp2_with fail
      clear cA0 cA1 cB0 cB1
      refine (HAN.out _).mono ?_
      rintro e w13 ⟨rfl, hb⟩
      have HB13 := Lib.hid (below_trans HB12.out hb)
      have A_13 := Lib.hid (A_12.out.below hb)
      have B_13 := Lib.hid (B_12.out.below hb)
      clear hb HB12 A_12 B_12
      have cA0 := A_13.out.1
      have cA1 := A_13.out.2
      have cB0 := B_13.out.1
      have cB1 := B_13.out.2
      go_wp2_with fail
      clear cA0 cA1 cB0 cB1
      refine (HBN.out _).mono ?_
      rintro e w14 ⟨rfl, hb⟩
      have HB14 := Lib.hid (below_trans HB13.out hb)
      have A_14 := Lib.hid (A_13.out.below hb)
      have B_14 := Lib.hid (B_13.out.below hb)
      clear hb HB13 A_13 B_13
      have cA0 := A_14.out.1
      have cA1 := A_14.out.2
      have cB0 := B_14.out.1
      have cB1 := B_14.out.2
      go_wp2_with fail
      clear cA0 cA1 cB0 cB1
      refine (OF.out _).mono ?_
      rintro e w15 ⟨rfl, hb⟩
      have HB15 := Lib.hid (below_trans HB14.out hb)
      have A_15 := Lib.hid (A_14.out.below hb)
      have B_15 := Lib.hid (B_14.out.below hb)
      clear hb HB14 A_14 B_14
      have cA0 := A_15.out.1
      have cA1 := A_15.out.2
      have cB0 := B_15.out.1
      have cB1 := B_15.out.2
      go_wp2_with fail
      clear cA0 cA1 cB0 cB1
      refine (OF.out _).mono ?_
      rintro e w16 ⟨rfl, hb⟩
      have HB16 := Lib.hid (below_trans HB15.out hb)
      have A_16 := Lib.hid (A_15.out.below hb)
      have B_16 := Lib.hid (B_15.out.below hb)
      clear hb HB15 A_15 B_15
      have cA0 := A_16.out.1
      have cA1 := A_16.out.2
      have cB0 := B_16.out.1
      have cB1 := B_16.out.2
      go_wp2_with fail
      clear cA0 cA1 cB0 cB1
      refine (HON.out _).mono ?_
      rintro e w17 ⟨rfl, hb⟩
      have HB17 := Lib.hid (below_trans HB16.out hb)
      have A_17 := Lib.hid (A_16.out.below hb)
      have B_17 := Lib.hid (B_16.out.below hb)
      clear hb HB16 A_16 B_16
      go_wp2_with fail
      go_ret
      exact ⟨rfl, HB17.out⟩
  | true =>
    obtain ⟨rfl, rfl⟩ : hl = true ∧ hh = true := by simpa using (KR.out (by trivial)).symm
    have cA0 := A_10.out.1
    have cA1 := A_10.out.2
    have cB0 := B_10.out.1
    have cB1 := B_10.out.2
    go_wp2_with fail
    clear cA0 cA1 cB0 cB1
    have HSs := Lib.hid (show ∀ W W', Below W.heap.size W W' → (W.cell? ⟨w.heap.size, 0, none⟩ = some (.int .i64 a0) ∧ W.cell? ⟨w.heap.size, 1, none⟩ = some (.int .i64 a1) ∧ W.cell? ⟨w.heap.size + 1, 0, none⟩ = some (.int .i64 b0) ∧ W.cell? ⟨w.heap.size + 1, 1, none⟩ = some (.int .i64 b1) ∧ Below w.heap.size w W) → (W'.cell? ⟨w.heap.size, 0, none⟩ = some (.int .i64 a0) ∧ W'.cell? ⟨w.heap.size, 1, none⟩ = some (.int .i64 a1) ∧ W'.cell? ⟨w.heap.size + 1, 0, none⟩ = some (.int .i64 b0) ∧ W'.cell? ⟨w.heap.size + 1, 1, none⟩ = some (.int .i64 b1) ∧ Below w.heap.size w W') from fun W W' hb h => by obtain ⟨h0, h1, h2, h3, h4⟩ := h; exact ⟨cell_below hb h0, cell_below hb h1, cell_below hb h2, cell_below hb h3, below_trans h4 hb⟩)
    have ts0 := s_call (S := (fun W => W.cell? ⟨w.heap.size, 0, none⟩ = some (.int .i64 a0) ∧ W.cell? ⟨w.heap.size, 1, none⟩ = some (.int .i64 a1) ∧ W.cell? ⟨w.heap.size + 1, 0, none⟩ = some (.int .i64 b0) ∧ W.cell? ⟨w.heap.size + 1, 1, none⟩ = some (.int .i64 b1) ∧ Below w.heap.size w W)) HSs.out RA.out
    try dsimp only at ts0
    have QRA := Lib.hid ts0
    clear ts0
    have ts0 := s_call (S := (fun W => W.cell? ⟨w.heap.size, 0, none⟩ = some (.int .i64 a0) ∧ W.cell? ⟨w.heap.size, 1, none⟩ = some (.int .i64 a1) ∧ W.cell? ⟨w.heap.size + 1, 0, none⟩ = some (.int .i64 b0) ∧ W.cell? ⟨w.heap.size + 1, 1, none⟩ = some (.int .i64 b1) ∧ Below w.heap.size w W)) HSs.out WAB.out
    try dsimp only at ts0
    have QWAB := Lib.hid ts0
    clear ts0
    have ts0 := s_call (S := (fun W => W.cell? ⟨w.heap.size, 0, none⟩ = some (.int .i64 a0) ∧ W.cell? ⟨w.heap.size, 1, none⟩ = some (.int .i64 a1) ∧ W.cell? ⟨w.heap.size + 1, 0, none⟩ = some (.int .i64 b0) ∧ W.cell? ⟨w.heap.size + 1, 1, none⟩ = some (.int .i64 b1) ∧ Below w.heap.size w W)) HSs.out HL.out
    try dsimp only at ts0
    have QHL := Lib.hid ts0
    clear ts0
    have ts0 := s_call (S := (fun W => W.cell? ⟨w.heap.size, 0, none⟩ = some (.int .i64 a0) ∧ W.cell? ⟨w.heap.size, 1, none⟩ = some (.int .i64 a1) ∧ W.cell? ⟨w.heap.size + 1, 0, none⟩ = some (.int .i64 b0) ∧ W.cell? ⟨w.heap.size + 1, 1, none⟩ = some (.int .i64 b1) ∧ Below w.heap.size w W)) HSs.out HH.out
    try dsimp only at ts0
    have QHH := Lib.hid ts0
    clear ts0
    refine wp_region_held_drew (S := (fun W => W.cell? ⟨w.heap.size, 0, none⟩ = some (.int .i64 a0) ∧ W.cell? ⟨w.heap.size, 1, none⟩ = some (.int .i64 a1) ∧ W.cell? ⟨w.heap.size + 1, 0, none⟩ = some (.int .i64 b0) ∧ W.cell? ⟨w.heap.size + 1, 1, none⟩ = some (.int .i64 b1) ∧ Below w.heap.size w W)) (by kernel_rfl) ⟨A_10.out.1, A_10.out.2, B_10.out.1, B_10.out.2, ⟨HB10.out.os, HB10.out.tape, HB10.out.output, HB10.out.size, HB10.out.block⟩⟩ (fun hHeld => ?_)
    refine wpAnyH_take (i := 0) (oi := _) (v := .agg #[.int .i64 a0, .int .i64 a1]) rfl (by kernel_rfl) (by kernel_rfl) (by kernel_rfl) (fun _ _ _ h => h) (Or.inl ⟨rfl, fun W hSw => ?_⟩) hHeld ?_
    · obtain ⟨z0, z1, z2, z3, z4⟩ := hSw
      go_simp
    simp only [Act.put, List.getElem_toArray, List.getElem_cons_zero, List.setIfInBounds_toArray, List.set_cons_zero, List.set_cons_succ]
    refine wpAnyH_ready (rs := [1]) (by kernel_rfl) (by simp) (AllReadyH.cons (o := _) rfl (fun K hK => ?_) AllReadyH.nil)
    go_simp
    refine (QRA.out _ hHeld).mono ?_
    rintro e w' ⟨rfl, zz0, zz1, zz2, zz3, zz4⟩
    go_wp2_with fail
    refine hK.out _ _ ⟨zz0, zz1, zz2, zz3, zz4⟩ (fun hHeld => ?_)
    clear hK K
    try simp only [Act.put, List.getElem_toArray, List.getElem_cons_zero, List.getElem_cons_succ, List.setIfInBounds_toArray, List.set_cons_zero, List.set_cons_succ]
    refine wpAnyH_take (i := 2) (oi := _) (v := .bool true) rfl (by kernel_rfl) (by kernel_rfl) (by kernel_rfl) (fun _ _ _ h => h) (Or.inl ⟨rfl, fun W hSw => ?_⟩) hHeld ?_
    · obtain ⟨z0, z1, z2, z3, z4⟩ := hSw
      go_simp
    simp only [Act.put, List.getElem_toArray, List.getElem_cons_zero, List.getElem_cons_succ, List.setIfInBounds_toArray, List.set_cons_zero, List.set_cons_succ]
    refine wpAnyH_take (i := 3) (oi := _) (v := .agg #[.int .i64 a0, .int .i64 a1]) rfl (by kernel_rfl) (by kernel_rfl) (by kernel_rfl) (fun _ _ _ h => h) (Or.inl ⟨rfl, fun W hSw => ?_⟩) hHeld ?_
    · obtain ⟨z0, z1, z2, z3, z4⟩ := hSw
      go_simp
    simp only [Act.put, List.getElem_toArray, List.getElem_cons_zero, List.getElem_cons_succ, List.setIfInBounds_toArray, List.set_cons_zero, List.set_cons_succ]
    refine wpAnyH_take (i := 4) (oi := _) (v := .agg #[.int .i64 b0, .int .i64 b1]) rfl (by kernel_rfl) (by kernel_rfl) (by kernel_rfl) (fun _ _ _ h => h) (Or.inl ⟨rfl, fun W hSw => ?_⟩) hHeld ?_
    · obtain ⟨z0, z1, z2, z3, z4⟩ := hSw
      go_simp
    simp only [Act.put, List.getElem_toArray, List.getElem_cons_zero, List.getElem_cons_succ, List.setIfInBounds_toArray, List.set_cons_zero, List.set_cons_succ]
    refine wpAnyH_take (i := 6) (oi := _) (v := .agg #[.int .i64 b0, .int .i64 b1]) rfl (by kernel_rfl) (by kernel_rfl) (by kernel_rfl) (fun _ _ _ h => h) (Or.inl ⟨rfl, fun W hSw => ?_⟩) hHeld ?_
    · obtain ⟨z0, z1, z2, z3, z4⟩ := hSw
      go_simp
    simp only [Act.put, List.getElem_toArray, List.getElem_cons_zero, List.getElem_cons_succ, List.setIfInBounds_toArray, List.set_cons_zero, List.set_cons_succ]
    refine wpAnyH_take (i := 7) (oi := _) (v := .pointer (some ⟨w.heap.size, 0, none⟩)) rfl (by kernel_rfl) (by kernel_rfl) (by kernel_rfl) (fun _ _ _ h => h) (Or.inl ⟨rfl, fun W hSw => ?_⟩) hHeld ?_
    · obtain ⟨z0, z1, z2, z3, z4⟩ := hSw
      go_simp
    simp only [Act.put, List.getElem_toArray, List.getElem_cons_zero, List.getElem_cons_succ, List.setIfInBounds_toArray, List.set_cons_zero, List.set_cons_succ]
    refine wpAnyH_take (i := 8) (oi := _) (v := .int .i64 a0) rfl (by kernel_rfl) (by kernel_rfl) (by kernel_rfl) (fun _ _ _ h => h) (Or.inl ⟨rfl, fun W hSw => ?_⟩) hHeld ?_
    · obtain ⟨z0, z1, z2, z3, z4⟩ := hSw
      go_simp
    simp only [Act.put, List.getElem_toArray, List.getElem_cons_zero, List.getElem_cons_succ, List.setIfInBounds_toArray, List.set_cons_zero, List.set_cons_succ]
    refine wpAnyH_ready (rs := [5]) (by kernel_rfl) (by simp) (AllReadyH.cons (o := _) rfl (fun K hK => ?_) AllReadyH.nil)
    go_simp
    refine (QWAB.out _ hHeld).mono ?_
    clear zz0 zz1 zz2 zz3 zz4
    rintro e w' ⟨rfl, zz0, zz1, zz2, zz3, zz4⟩
    go_wp2_with fail
    refine hK.out _ _ ⟨zz0, zz1, zz2, zz3, zz4⟩ (fun hHeld => ?_)
    clear hK K
    try simp only [Act.put, List.getElem_toArray, List.getElem_cons_zero, List.getElem_cons_succ, List.setIfInBounds_toArray, List.set_cons_zero, List.set_cons_succ]
    refine wpAnyH_ready (rs := [9]) (by kernel_rfl) (by simp) (AllReadyH.cons (o := _) rfl (fun K hK => ?_) AllReadyH.nil)
    go_simp
    refine (QHL.out _ hHeld).mono ?_
    clear zz0 zz1 zz2 zz3 zz4
    rintro e w' ⟨rfl, zz0, zz1, zz2, zz3, zz4⟩
    go_wp2_with fail
    refine hK.out _ _ ⟨zz0, zz1, zz2, zz3, zz4⟩ (fun hHeld => ?_)
    clear hK K
    try simp only [Act.put, List.getElem_toArray, List.getElem_cons_zero, List.getElem_cons_succ, List.setIfInBounds_toArray, List.set_cons_zero, List.set_cons_succ]
    refine wpAnyH_take (i := 10) (oi := _) (v := .bool true) rfl (by kernel_rfl) (by kernel_rfl) (by kernel_rfl) (fun _ _ _ h => h) (Or.inl ⟨rfl, fun W hSw => ?_⟩) hHeld ?_
    · obtain ⟨z0, z1, z2, z3, z4⟩ := hSw
      go_simp
    simp only [Act.put, List.getElem_toArray, List.getElem_cons_zero, List.getElem_cons_succ, List.setIfInBounds_toArray, List.set_cons_zero, List.set_cons_succ]
    refine wpAnyH_take (i := 11) (oi := _) (v := .agg #[.int .i64 b0, .int .i64 b1]) rfl (by kernel_rfl) (by kernel_rfl) (by kernel_rfl) (fun _ _ _ h => h) (Or.inl ⟨rfl, fun W hSw => ?_⟩) hHeld ?_
    · obtain ⟨z0, z1, z2, z3, z4⟩ := hSw
      go_simp
    simp only [Act.put, List.getElem_toArray, List.getElem_cons_zero, List.getElem_cons_succ, List.setIfInBounds_toArray, List.set_cons_zero, List.set_cons_succ]
    refine wpAnyH_take (i := 12) (oi := _) (v := .pointer (some ⟨w.heap.size, 1, none⟩)) rfl (by kernel_rfl) (by kernel_rfl) (by kernel_rfl) (fun _ _ _ h => h) (Or.inl ⟨rfl, fun W hSw => ?_⟩) hHeld ?_
    · obtain ⟨z0, z1, z2, z3, z4⟩ := hSw
      go_simp
    simp only [Act.put, List.getElem_toArray, List.getElem_cons_zero, List.getElem_cons_succ, List.setIfInBounds_toArray, List.set_cons_zero, List.set_cons_succ]
    refine wpAnyH_take (i := 13) (oi := _) (v := .int .i64 a1) rfl (by kernel_rfl) (by kernel_rfl) (by kernel_rfl) (fun _ _ _ h => h) (Or.inl ⟨rfl, fun W hSw => ?_⟩) hHeld ?_
    · obtain ⟨z0, z1, z2, z3, z4⟩ := hSw
      go_simp
    simp only [Act.put, List.getElem_toArray, List.getElem_cons_zero, List.getElem_cons_succ, List.setIfInBounds_toArray, List.set_cons_zero, List.set_cons_succ]
    refine wpAnyH_ready (rs := [14]) (by kernel_rfl) (by simp) (AllReadyH.cons (o := _) rfl (fun K hK => ?_) AllReadyH.nil)
    go_simp
    refine (QHH.out _ hHeld).mono ?_
    clear zz0 zz1 zz2 zz3 zz4
    rintro e w' ⟨rfl, zz0, zz1, zz2, zz3, zz4⟩
    go_wp2_with fail
    refine hK.out _ _ ⟨zz0, zz1, zz2, zz3, zz4⟩ (fun hHeld => ?_)
    clear hK K
    try simp only [Act.put, List.getElem_toArray, List.getElem_cons_zero, List.getElem_cons_succ, List.setIfInBounds_toArray, List.set_cons_zero, List.set_cons_succ]
    refine wpAnyH_take (i := 15) (oi := _) (v := .bool true) rfl (by kernel_rfl) (by kernel_rfl) (by kernel_rfl) (fun _ _ _ h => h) (Or.inl ⟨rfl, fun W hSw => ?_⟩) hHeld ?_
    · obtain ⟨z0, z1, z2, z3, z4⟩ := hSw
      go_simp
    simp only [Act.put, List.getElem_toArray, List.getElem_cons_zero, List.getElem_cons_succ, List.setIfInBounds_toArray, List.set_cons_zero, List.set_cons_succ]
    refine wpAnyH_take (i := 16) (oi := _) (v := .bool false) rfl (by kernel_rfl) (by kernel_rfl) (by kernel_rfl) (fun _ _ _ h => h) (Or.inl ⟨rfl, fun W hSw => ?_⟩) hHeld ?_
    · obtain ⟨z0, z1, z2, z3, z4⟩ := hSw
      go_simp
    simp only [Act.put, List.getElem_toArray, List.getElem_cons_zero, List.getElem_cons_succ, List.setIfInBounds_toArray, List.set_cons_zero, List.set_cons_succ]
    refine wpAnyH_take (i := 17) (oi := _) (v := .bool false) rfl (by kernel_rfl) (by kernel_rfl) (by kernel_rfl) (fun _ _ _ h => h) (Or.inl ⟨rfl, fun W hSw => ?_⟩) hHeld ?_
    · obtain ⟨z0, z1, z2, z3, z4⟩ := hSw
      go_simp
    simp only [Act.put, List.getElem_toArray, List.getElem_cons_zero, List.getElem_cons_succ, List.setIfInBounds_toArray, List.set_cons_zero, List.set_cons_succ]
    refine wpAnyH_done (by kernel_rfl) ?_ _
    have A_11 := Lib.hid (show Cl _ (w.heap.size) (a0) (a1) from ⟨zz0, zz1⟩)
    have B_11 := Lib.hid (show Cl _ (w.heap.size + 1) (b0) (b1) from ⟨zz2, zz3⟩)
    have HB11 := Lib.hid zz4
    clear zz0 zz1 zz2 zz3 zz4 hHeld HSs QRA QWAB QHL QHH A_10 B_10 HB10
    cases han with
    | false =>
      have cA0 := A_11.out.1
      have cA1 := A_11.out.2
      have cB0 := B_11.out.1
      have cB1 := B_11.out.2
      go_wp2_with fail
      clear cA0 cA1 cB0 cB1
      refine (WAB.out _).mono ?_
      rintro e w12 ⟨rfl, hb⟩
      have HB12 := Lib.hid (below_trans HB11.out hb)
      have A_12 := Lib.hid (A_11.out.below hb)
      have B_12 := Lib.hid (B_11.out.below hb)
      clear hb HB11 A_11 B_11
      have cA0 := A_12.out.1
      have cA1 := A_12.out.2
      have cB0 := B_12.out.1
      have cB1 := B_12.out.2
      go_wp2_with fail
      clear cA0 cA1 cB0 cB1
      refine (HAN.out _).mono ?_
      rintro e w13 ⟨rfl, hb⟩
      have HB13 := Lib.hid (below_trans HB12.out hb)
      have A_13 := Lib.hid (A_12.out.below hb)
      have B_13 := Lib.hid (B_12.out.below hb)
      clear hb HB12 A_12 B_12
      have cA0 := A_13.out.1
      have cA1 := A_13.out.2
      have cB0 := B_13.out.1
      have cB1 := B_13.out.2
      go_wp2_with fail
      clear cA0 cA1 cB0 cB1
      refine (OF.out _).mono ?_
      rintro e w14 ⟨rfl, hb⟩
      have HB14 := Lib.hid (below_trans HB13.out hb)
      have A_14 := Lib.hid (A_13.out.below hb)
      have B_14 := Lib.hid (B_13.out.below hb)
      clear hb HB13 A_13 B_13
      have cA0 := A_14.out.1
      have cA1 := A_14.out.2
      have cB0 := B_14.out.1
      have cB1 := B_14.out.2
      go_wp2_with fail
      clear cA0 cA1 cB0 cB1
      refine (OF.out _).mono ?_
      rintro e w15 ⟨rfl, hb⟩
      have HB15 := Lib.hid (below_trans HB14.out hb)
      have A_15 := Lib.hid (A_14.out.below hb)
      have B_15 := Lib.hid (B_14.out.below hb)
      clear hb HB14 A_14 B_14
      have cA0 := A_15.out.1
      have cA1 := A_15.out.2
      have cB0 := B_15.out.1
      have cB1 := B_15.out.2
      go_wp2_with fail
      clear cA0 cA1 cB0 cB1
      refine (HON.out _).mono ?_
      rintro e w16 ⟨rfl, hb⟩
      have HB16 := Lib.hid (below_trans HB15.out hb)
      have A_16 := Lib.hid (A_15.out.below hb)
      have B_16 := Lib.hid (B_15.out.below hb)
      clear hb HB15 A_15 B_15
      go_wp2_with fail
      go_ret
      exact ⟨rfl, HB16.out⟩
    | true =>
      obtain rfl : hbn = true := KHB.out (by trivial) (by trivial)
      have cA0 := A_11.out.1
      have cA1 := A_11.out.2
      have cB0 := B_11.out.1
      have cB1 := B_11.out.2
      go_wp2_with fail
      clear cA0 cA1 cB0 cB1
      refine (WAB.out _).mono ?_
      rintro e w12 ⟨rfl, hb⟩
      have HB12 := Lib.hid (below_trans HB11.out hb)
      have A_12 := Lib.hid (A_11.out.below hb)
      have B_12 := Lib.hid (B_11.out.below hb)
      clear hb HB11 A_11 B_11
      have cA0 := A_12.out.1
      have cA1 := A_12.out.2
      have cB0 := B_12.out.1
      have cB1 := B_12.out.2
      go_wp2_with fail
      clear cA0 cA1 cB0 cB1
      refine (HAN.out _).mono ?_
      rintro e w13 ⟨rfl, hb⟩
      have HB13 := Lib.hid (below_trans HB12.out hb)
      have A_13 := Lib.hid (A_12.out.below hb)
      have B_13 := Lib.hid (B_12.out.below hb)
      clear hb HB12 A_12 B_12
      have cA0 := A_13.out.1
      have cA1 := A_13.out.2
      have cB0 := B_13.out.1
      have cB1 := B_13.out.2
      go_wp2_with fail
      clear cA0 cA1 cB0 cB1
      refine (HBN.out _).mono ?_
      rintro e w14 ⟨rfl, hb⟩
      have HB14 := Lib.hid (below_trans HB13.out hb)
      have A_14 := Lib.hid (A_13.out.below hb)
      have B_14 := Lib.hid (B_13.out.below hb)
      clear hb HB13 A_13 B_13
      have cA0 := A_14.out.1
      have cA1 := A_14.out.2
      have cB0 := B_14.out.1
      have cB1 := B_14.out.2
      go_wp2_with fail
      clear cA0 cA1 cB0 cB1
      refine (OF.out _).mono ?_
      rintro e w15 ⟨rfl, hb⟩
      have HB15 := Lib.hid (below_trans HB14.out hb)
      have A_15 := Lib.hid (A_14.out.below hb)
      have B_15 := Lib.hid (B_14.out.below hb)
      clear hb HB14 A_14 B_14
      have cA0 := A_15.out.1
      have cA1 := A_15.out.2
      have cB0 := B_15.out.1
      have cB1 := B_15.out.2
      go_wp2_with fail
      clear cA0 cA1 cB0 cB1
      refine (OF.out _).mono ?_
      rintro e w16 ⟨rfl, hb⟩
      have HB16 := Lib.hid (below_trans HB15.out hb)
      have A_16 := Lib.hid (A_15.out.below hb)
      have B_16 := Lib.hid (B_15.out.below hb)
      clear hb HB15 A_15 B_15
      have cA0 := A_16.out.1
      have cA1 := A_16.out.2
      have cB0 := B_16.out.1
      have cB1 := B_16.out.2
      go_wp2_with fail
      clear cA0 cA1 cB0 cB1
      refine (HON.out _).mono ?_
      rintro e w17 ⟨rfl, hb⟩
      have HB17 := Lib.hid (below_trans HB16.out hb)
      have A_17 := Lib.hid (A_16.out.below hb)
      have B_17 := Lib.hid (B_16.out.below hb)
      clear hb HB16 A_16 B_16
      go_wp2_with fail
      go_ret
      exact ⟨rfl, HB17.out⟩
end Go.Proofs.Ytecnonmcmdaopaa.spanOrders
