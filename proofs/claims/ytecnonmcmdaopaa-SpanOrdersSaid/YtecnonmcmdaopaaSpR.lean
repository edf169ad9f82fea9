/- The functions of span's reference: the same answers. Conditions: the ints are of 64 bits where a sum or a difference is formed. -/
import Derived.Test.YtecnonmcmdaopaaSpF
namespace Go.Proofs.Ytecnonmcmdaopaa.Sp
open Go.RowKit
set_option linter.unusedVariables false
set_option maxRecDepth 100000
theorem radd_e (a b : Int) (ha : I64 a) (hb : I64 b) (w : World) : Calls Try.prog 33 #[.int .i64 a, .int .i64 b] w fun e w' => e = .returned (.int .i64 (lim (a + b))) ∧ w' = w := (radd_any a b ha hb w).mono fun e w' h => ⟨h.1, h.2.symm⟩
theorem rsub_e (a b : Int) (ha : I64 a) (hb : I64 b) (w : World) : Calls Try.prog 34 #[.int .i64 a, .int .i64 b] w fun e w' => e = .returned (.int .i64 (lim (a - b))) ∧ w' = w := (rsub_any a b ha hb w).mono fun e w' h => ⟨h.1, h.2.symm⟩
theorem rright_any (l h : Int) (w : World) : Calls Try.prog 14 #[sp l h] w (Ret (.bool (decide (l ≤ h))) w) := by
  unfold sp
  go_enter Try.func14, Try.ntmps14
  go_wp2_with fail
  go_ret
  exact ⟨rfl, below_alloc _ _⟩
theorem rof_any (n : Int) (w : World) : Calls Try.prog 16 #[.int .i64 n] w (Ret (sp n n) w) := by
  unfold sp
  go_enter Try.func16, Try.ntmps16
  go_wp2_with fail
  exact ret_sp rfl rfl rfl rfl (Blk.new _ _ _) rfl (below_alloc _ _)
theorem rhas_any (a b n : Int) (w : World) : Calls Try.prog 18 #[sp a b, .int .i64 n] w (Ret (.bool (decide (a ≤ n ∧ n ≤ b))) w) := by
  unfold sp
  by_cases h1 : a ≤ n
  · have d1 : decide (a ≤ n) = true := decide_eq_true h1
    have hr : decide (a ≤ n ∧ n ≤ b) = decide (n ≤ b) := by simp [h1]
    rw [hr]
    clear hr h1
    go_enter Try.func18, Try.ntmps18
    go_wp2_with fail
    go_ret
    exact ⟨rfl, below_alloc _ _⟩
  · have d1 : decide (a ≤ n) = false := decide_eq_false h1
    have hr : decide (a ≤ n ∧ n ≤ b) = false := by simp [h1]
    rw [hr]
    clear hr h1
    go_enter Try.func18, Try.ntmps18
    go_wp2_with fail
    go_ret
    exact ⟨rfl, below_alloc _ _⟩
theorem rwithin_any (a b c d : Int) (w : World) : Calls Try.prog 26 #[sp a b, sp c d] w (Ret (.bool (decide (c ≤ a ∧ b ≤ d))) w) := by
  unfold sp
  by_cases h1 : c ≤ a
  · have d1 : decide (c ≤ a) = true := decide_eq_true h1
    have hr : decide (c ≤ a ∧ b ≤ d) = decide (b ≤ d) := by simp [h1]
    rw [hr]
    clear hr h1
    go_enter Try.func26, Try.ntmps26
    go_wp2_with fail
    go_ret
    exact ⟨rfl, below_trans (below_alloc _ _) (below_alloc _ _)⟩
  · have d1 : decide (c ≤ a) = false := decide_eq_false h1
    have hr : decide (c ≤ a ∧ b ≤ d) = false := by simp [h1]
    rw [hr]
    clear hr h1
    go_enter Try.func26, Try.ntmps26
    go_wp2_with fail
    go_ret
    exact ⟨rfl, below_trans (below_alloc _ _) (below_alloc _ _)⟩
theorem rwidth_any (a b : Int) (ha : I64 a) (hb : I64 b) (w : World) : Calls Try.prog 28 #[sp a b] w (Ret (.int .i64 (lim (b - a))) w) := by
  unfold sp
  have H1 := Lib.hid (fun W => rsub_e b a hb ha W)
  clear ha hb
  generalize lim (b - a) = x at *
  go_enter Try.func28, Try.ntmps28
  go_wp2_with fail
  refine (H1.out _).mono ?_
  rintro e w1 ⟨rfl, rfl⟩
  go_wp2_with fail
  go_ret
  exact ⟨rfl, below_alloc _ _⟩
theorem radd_sp (a b c d : Int) (ha : I64 a) (hb : I64 b) (hc : I64 c) (hd : I64 d) (w : World) : Calls Try.prog 20 #[sp a b, sp c d] w (Ret (sp (lim (a + c)) (lim (b + d))) w) := by
  unfold sp
  have H1 := Lib.hid (fun W => radd_e a c ha hc W)
  have H2 := Lib.hid (fun W => radd_e b d hb hd W)
  clear ha hb hc hd
  generalize lim (a + c) = x at *
  generalize lim (b + d) = y at *
  have K0 := Lib.hid (((Blk.at (w := w) (t := 23) (cs := #[.int .i64 a, .int .i64 b]) (g := w.heap.size) (by simp)).alloc (.cells #[.int .i64 c, .int .i64 d] 23)).alloc (.cells #[.int .i64 0, .int .i64 0] 23))
  have K1 := Lib.hid ((Blk.at (w := (w.alloc (.cells #[.int .i64 a, .int .i64 b] 23))) (t := 23) (cs := #[.int .i64 c, .int .i64 d]) (g := w.heap.size + 1) (by simp)).alloc (.cells #[.int .i64 0, .int .i64 0] 23))
  have K2 := Lib.hid (Blk.at (w := ((w.alloc (.cells #[.int .i64 a, .int .i64 b] 23)).alloc (.cells #[.int .i64 c, .int .i64 d] 23))) (t := 23) (cs := #[.int .i64 0, .int .i64 0]) (g := w.heap.size + 1 + 1) (by simp))
  have KB := Lib.hid (below_trans (below_trans (below_trans (below_self w) (below_alloc w (.cells #[.int .i64 a, .int .i64 b] 23))) (below_alloc (w.alloc (.cells #[.int .i64 a, .int .i64 b] 23)) (.cells #[.int .i64 c, .int .i64 d] 23))) (below_alloc ((w.alloc (.cells #[.int .i64 a, .int .i64 b] 23)).alloc (.cells #[.int .i64 c, .int .i64 d] 23)) (.cells #[.int .i64 0, .int .i64 0] 23)))
  go_enter Try.func20, Try.ntmps20
  go_wp2_with fail
  refine (H1.out _).mono ?_
  rintro e w1 ⟨rfl, rfl⟩
  go_wp2_with fail
  refine (H2.out _).mono ?_
  rintro e w1 ⟨rfl, rfl⟩
  go_wp2_with fail
  exact ret_sp rfl rfl rfl rfl (Blk.at (by simp)) rfl (below_trans (below_trans (below_alloc _ _) (below_alloc _ _)) (below_alloc _ _))
theorem rsub_sp (a b c d : Int) (ha : I64 a) (hb : I64 b) (hc : I64 c) (hd : I64 d) (w : World) : Calls Try.prog 22 #[sp a b, sp c d] w (Ret (sp (lim (a - d)) (lim (b - c))) w) := by
  unfold sp
  have H1 := Lib.hid (fun W => rsub_e a d ha hd W)
  have H2 := Lib.hid (fun W => rsub_e b c hb hc W)
  clear ha hb hc hd
  generalize lim (a - d) = x at *
  generalize lim (b - c) = y at *
  have K0 := Lib.hid (((Blk.at (w := w) (t := 23) (cs := #[.int .i64 a, .int .i64 b]) (g := w.heap.size) (by simp)).alloc (.cells #[.int .i64 c, .int .i64 d] 23)).alloc (.cells #[.int .i64 0, .int .i64 0] 23))
  have K1 := Lib.hid ((Blk.at (w := (w.alloc (.cells #[.int .i64 a, .int .i64 b] 23))) (t := 23) (cs := #[.int .i64 c, .int .i64 d]) (g := w.heap.size + 1) (by simp)).alloc (.cells #[.int .i64 0, .int .i64 0] 23))
  have K2 := Lib.hid (Blk.at (w := ((w.alloc (.cells #[.int .i64 a, .int .i64 b] 23)).alloc (.cells #[.int .i64 c, .int .i64 d] 23))) (t := 23) (cs := #[.int .i64 0, .int .i64 0]) (g := w.heap.size + 1 + 1) (by simp))
  have KB := Lib.hid (below_trans (below_trans (below_trans (below_self w) (below_alloc w (.cells #[.int .i64 a, .int .i64 b] 23))) (below_alloc (w.alloc (.cells #[.int .i64 a, .int .i64 b] 23)) (.cells #[.int .i64 c, .int .i64 d] 23))) (below_alloc ((w.alloc (.cells #[.int .i64 a, .int .i64 b] 23)).alloc (.cells #[.int .i64 c, .int .i64 d] 23)) (.cells #[.int .i64 0, .int .i64 0] 23)))
  go_enter Try.func22, Try.ntmps22
  go_wp2_with fail
  refine (H1.out _).mono ?_
  rintro e w1 ⟨rfl, rfl⟩
  go_wp2_with fail
  refine (H2.out _).mono ?_
  rintro e w1 ⟨rfl, rfl⟩
  go_wp2_with fail
  exact ret_sp rfl rfl rfl rfl (Blk.at (by simp)) rfl (below_trans (below_trans (below_alloc _ _) (below_alloc _ _)) (below_alloc _ _))
theorem rjoin_any (a b c d : Int) (w : World) : Calls Try.prog 24 #[sp a b, sp c d] w (Ret (sp (min a c) (max b d)) w) := by
  unfold sp
  have K0 := Lib.hid ((Blk.at (w := w) (t := 23) (cs := #[.int .i64 a, .int .i64 b]) (g := w.heap.size) (by simp)).alloc (.cells #[.int .i64 c, .int .i64 d] 23))
  have K1 := Lib.hid (Blk.at (w := (w.alloc (.cells #[.int .i64 a, .int .i64 b] 23))) (t := 23) (cs := #[.int .i64 c, .int .i64 d]) (g := w.heap.size + 1) (by simp))
  have KB := Lib.hid (below_trans (below_trans (below_self w) (below_alloc w (.cells #[.int .i64 a, .int .i64 b] 23))) (below_alloc (w.alloc (.cells #[.int .i64 a, .int .i64 b] 23)) (.cells #[.int .i64 c, .int .i64 d] 23)))
  by_cases h1 : c < a
  · have d1 := decide_eq_true h1
    have e1 : min a c = c := by omega
    rw [e1]
    clear h1 e1
    by_cases h2 : b < d
    · have d2 := decide_eq_true h2
      have e2 : max b d = d := by omega
      rw [e2]
      clear h2 e2
      go_enter Try.func24, Try.ntmps24
      go_wp2_with fail
      exact ret_sp rfl rfl rfl rfl (Blk.at (by simp)) rfl (below_trans (below_trans (below_alloc _ _) (below_alloc _ _)) (below_alloc _ _))
    · have d2 := decide_eq_false h2
      have e2 : max b d = b := by omega
      rw [e2]
      clear h2 e2
      go_enter Try.func24, Try.ntmps24
      go_wp2_with fail
      exact ret_sp rfl rfl rfl rfl (Blk.at (by simp)) rfl (below_trans (below_trans (below_alloc _ _) (below_alloc _ _)) (below_alloc _ _))
  · have d1 := decide_eq_false h1
    have e1 : min a c = a := by omega
    rw [e1]
    clear h1 e1
    by_cases h2 : b < d
    · have d2 := decide_eq_true h2
      have e2 : max b d = d := by omega
      rw [e2]
      clear h2 e2
      go_enter Try.func24, Try.ntmps24
      go_wp2_with fail
      exact ret_sp rfl rfl rfl rfl (Blk.at (by simp)) rfl (below_trans (below_trans (below_alloc _ _) (below_alloc _ _)) (below_alloc _ _))
    · have d2 := decide_eq_false h2
      have e2 : max b d = b := by omega
      rw [e2]
      clear h2 e2
      go_enter Try.func24, Try.ntmps24
      go_wp2_with fail
      exact ret_sp rfl rfl rfl rfl (Blk.at (by simp)) rfl (below_trans (below_trans (below_alloc _ _) (below_alloc _ _)) (below_alloc _ _))
set_option maxHeartbeats 1000000 in
theorem rmeet_any (a b c d : Int) (w : World) : Calls Try.prog 12 #[sp a b, sp c d] w (Ret (.tuple #[sp (mL a b c d) (mH a b c d), .bool (mB a b c d)]) w) := by
  unfold sp
  have K0 := Lib.hid ((Blk.at (w := w) (t := 23) (cs := #[.int .i64 a, .int .i64 b]) (g := w.heap.size) (by simp)).alloc (.cells #[.int .i64 c, .int .i64 d] 23))
  have K1 := Lib.hid (Blk.at (w := (w.alloc (.cells #[.int .i64 a, .int .i64 b] 23))) (t := 23) (cs := #[.int .i64 c, .int .i64 d]) (g := w.heap.size + 1) (by simp))
  have KB := Lib.hid (below_trans (below_trans (below_self w) (below_alloc w (.cells #[.int .i64 a, .int .i64 b] 23))) (below_alloc (w.alloc (.cells #[.int .i64 a, .int .i64 b] 23)) (.cells #[.int .i64 c, .int .i64 d] 23)))
  by_cases h1 : a < c
  · have d1 := decide_eq_true h1
    by_cases h2 : d < b
    · have d2 := decide_eq_true h2
      have e1 : max a c = c := by omega
      have e2 : min b d = d := by omega
      unfold mL mH mB
      rw [e1, e2]
      clear e1 e2
      by_cases h3 : c ≤ d
      · have d3 : decide (d < c) = false := decide_eq_false (by omega)
        rw [decide_eq_true h3]
        simp only [if_true]
        clear h1 h2 h3
        go_enter Try.func12, Try.ntmps12
        go_wp2_with fail
        exact ret_spb rfl rfl rfl rfl rfl ((Blk.at (by simp)).alloc _) rfl (below_trans (below_trans (below_trans (below_alloc _ _) (below_alloc _ _)) (below_alloc _ _)) (below_alloc _ _))
      · have d3 : decide (d < c) = true := decide_eq_true (by omega)
        rw [decide_eq_false h3]
        simp only [Bool.false_eq_true, if_false]
        clear h1 h2 h3
        go_enter Try.func12, Try.ntmps12
        go_wp2_with fail
        exact ret_spb rfl rfl rfl rfl rfl ((Blk.at (by simp)).alloc _) rfl (below_trans (below_trans (below_trans (below_alloc _ _) (below_alloc _ _)) (below_alloc _ _)) (below_alloc _ _))
    · have d2 := decide_eq_false h2
      have e1 : max a c = c := by omega
      have e2 : min b d = b := by omega
      unfold mL mH mB
      rw [e1, e2]
      clear e1 e2
      by_cases h3 : c ≤ b
      · have d3 : decide (b < c) = false := decide_eq_false (by omega)
        rw [decide_eq_true h3]
        simp only [if_true]
        clear h1 h2 h3
        go_enter Try.func12, Try.ntmps12
        go_wp2_with fail
        exact ret_spb rfl rfl rfl rfl rfl ((Blk.at (by simp)).alloc _) rfl (below_trans (below_trans (below_trans (below_alloc _ _) (below_alloc _ _)) (below_alloc _ _)) (below_alloc _ _))
      · have d3 : decide (b < c) = true := decide_eq_true (by omega)
        rw [decide_eq_false h3]
        simp only [Bool.false_eq_true, if_false]
        clear h1 h2 h3
        go_enter Try.func12, Try.ntmps12
        go_wp2_with fail
        exact ret_spb rfl rfl rfl rfl rfl ((Blk.at (by simp)).alloc _) rfl (below_trans (below_trans (below_trans (below_alloc _ _) (below_alloc _ _)) (below_alloc _ _)) (below_alloc _ _))
  · have d1 := decide_eq_false h1
    by_cases h2 : d < b
    · have d2 := decide_eq_true h2
      have e1 : max a c = a := by omega
      have e2 : min b d = d := by omega
      unfold mL mH mB
      rw [e1, e2]
      clear e1 e2
      by_cases h3 : a ≤ d
      · have d3 : decide (d < a) = false := decide_eq_false (by omega)
        rw [decide_eq_true h3]
        simp only [if_true]
        clear h1 h2 h3
        go_enter Try.func12, Try.ntmps12
        go_wp2_with fail
        exact ret_spb rfl rfl rfl rfl rfl ((Blk.at (by simp)).alloc _) rfl (below_trans (below_trans (below_trans (below_alloc _ _) (below_alloc _ _)) (below_alloc _ _)) (below_alloc _ _))
      · have d3 : decide (d < a) = true := decide_eq_true (by omega)
        rw [decide_eq_false h3]
        simp only [Bool.false_eq_true, if_false]
        clear h1 h2 h3
        go_enter Try.func12, Try.ntmps12
        go_wp2_with fail
        exact ret_spb rfl rfl rfl rfl rfl ((Blk.at (by simp)).alloc _) rfl (below_trans (below_trans (below_trans (below_alloc _ _) (below_alloc _ _)) (below_alloc _ _)) (below_alloc _ _))
    · have d2 := decide_eq_false h2
      have e1 : max a c = a := by omega
      have e2 : min b d = b := by omega
      unfold mL mH mB
      rw [e1, e2]
      clear e1 e2
      by_cases h3 : a ≤ b
      · have d3 : decide (b < a) = false := decide_eq_false (by omega)
        rw [decide_eq_true h3]
        simp only [if_true]
        clear h1 h2 h3
        go_enter Try.func12, Try.ntmps12
        go_wp2_with fail
        exact ret_spb rfl rfl rfl rfl rfl ((Blk.at (by simp)).alloc _) rfl (below_trans (below_trans (below_trans (below_alloc _ _) (below_alloc _ _)) (below_alloc _ _)) (below_alloc _ _))
      · have d3 : decide (b < a) = true := decide_eq_true (by omega)
        rw [decide_eq_false h3]
        simp only [Bool.false_eq_true, if_false]
        clear h1 h2 h3
        go_enter Try.func12, Try.ntmps12
        go_wp2_with fail
        exact ret_spb rfl rfl rfl rfl rfl ((Blk.at (by simp)).alloc _) rfl (below_trans (below_trans (below_trans (below_alloc _ _) (below_alloc _ _)) (below_alloc _ _)) (below_alloc _ _))
set_option maxHeartbeats 1000000 in
theorem rscale_sp (a b n d : Int) (w : World) : Calls Try.prog 10 #[sp a b, .int .i64 n, .int .i64 d] w (Ret (.tuple #[sp (loV a b n d) (hiV a b n d), .bool (okB a b n d)]) w) := by
  have H1 := Lib.hid (fun W => rscale_any a n d W)
  have H2 := Lib.hid (fun W => rscale_any b n d W)
  unfold loV hiV
  unfold sp at *
  by_cases hab : a ≤ b
  · have d0 : decide (b < a) = false := decide_eq_false (by omega)
    have hr := fun h => scR_nn b n d h
    have hq := scQ_bd b n d
    have ok1 : okB a b n d = (scB a n d && scB b n d && decide (hiS b n d ≤ 1125899906842624)) := by unfold okB; rw [decide_eq_true hab, Bool.true_and]
    rw [ok1]
    unfold hiS
    clear ok1 hab
    generalize scQ a n d = qa at *
    generalize scR a n d = ra at *
    generalize scQ b n d = qb at *
    generalize scR b n d = rb at *
    cases h1 : scB a n d with
    | false =>
      rw [h1] at H1
      clear h1 hr hq
      generalize scB b n d = okb at *
      simp only [Bool.false_and, Bool.false_eq_true, if_false]
      go_enter Try.func10, Try.ntmps10
      go_wp2_with fail
      refine (H1.out _).mono ?_
      rintro e w1 ⟨rfl, rfl⟩
      go_wp2_with fail
      refine (H2.out _).mono ?_
      rintro e w1 ⟨rfl, rfl⟩
      go_wp2_with fail
      exact ret_spb rfl rfl rfl rfl rfl (Blk.at (by simp)) rfl (below_trans (below_alloc _ _) (below_alloc _ _))
    | true =>
      rw [h1] at H1
      clear h1
      cases h2 : scB b n d with
      | false =>
        rw [h2] at H2
        clear h2 hr hq
        simp only [Bool.and_false, Bool.false_and, Bool.false_eq_true, if_false]
        go_enter Try.func10, Try.ntmps10
        go_wp2_with fail
        refine (H1.out _).mono ?_
        rintro e w1 ⟨rfl, rfl⟩
        go_wp2_with fail
        refine (H2.out _).mono ?_
        rintro e w1 ⟨rfl, rfl⟩
        go_wp2_with fail
        exact ret_spb rfl rfl rfl rfl rfl (Blk.at (by simp)) rfl (below_trans (below_alloc _ _) (below_alloc _ _))
      | true =>
        rw [h2] at H2
        have hr := hr h2
        clear h2
        simp only [Bool.true_and, Bool.and_true]
        by_cases hz : rb = 0
        · subst hz
          have dq : decide (1125899906842624 < qb) = false := decide_eq_false (by omega)
          simp only [if_true, Int.add_zero]
          rw [decide_eq_true hq.1]
          simp only [if_true]
          clear hq hr
          go_enter Try.func10, Try.ntmps10
          go_wp2_with fail
          refine (H1.out _).mono ?_
          rintro e w1 ⟨rfl, rfl⟩
          go_wp2_with fail
          refine (H2.out _).mono ?_
          rintro e w1 ⟨rfl, rfl⟩
          go_wp2_with fail
          exact ret_spb rfl rfl rfl rfl rfl (Blk.at (by simp)) rfl (below_trans (below_alloc _ _) (below_alloc _ _))
        · have dz : (rb == 0) = false := beq_eq_false_iff_ne.2 hz
          have wq : IntKind.i64.wrap (qb + 1) = qb + 1 := by rw [IntKind.wrap_i64]; omega
          simp only [if_neg hz]
          clear hz hr
          by_cases hm : qb + 1 ≤ 1125899906842624
          · have dm : decide (1125899906842624 < qb + 1) = false := decide_eq_false (by omega)
            rw [decide_eq_true hm]
            simp only [if_true]
            clear hm hq
            go_enter Try.func10, Try.ntmps10
            go_wp2_with fail
            refine (H1.out _).mono ?_
            rintro e w1 ⟨rfl, rfl⟩
            go_wp2_with fail
            refine (H2.out _).mono ?_
            rintro e w1 ⟨rfl, rfl⟩
            go_wp2_with fail
            exact ret_spb rfl rfl rfl rfl rfl (Blk.at (by simp)) rfl (below_trans (below_alloc _ _) (below_alloc _ _))
          · have dm : decide (1125899906842624 < qb + 1) = true := decide_eq_true (by omega)
            rw [decide_eq_false hm]
            simp only [Bool.false_eq_true, if_false]
            clear hm hq
            go_enter Try.func10, Try.ntmps10
            go_wp2_with fail
            refine (H1.out _).mono ?_
            rintro e w1 ⟨rfl, rfl⟩
            go_wp2_with fail
            refine (H2.out _).mono ?_
            rintro e w1 ⟨rfl, rfl⟩
            go_wp2_with fail
            exact ret_spb rfl rfl rfl rfl rfl (Blk.at (by simp)) rfl (below_trans (below_alloc _ _) (below_alloc _ _))
  · have d0 : decide (b < a) = true := decide_eq_true (by omega)
    have ok1 : okB a b n d = false := by unfold okB; rw [decide_eq_false hab, Bool.false_and, Bool.false_and, Bool.false_and]
    rw [ok1]
    clear ok1 hab
    generalize scB a n d = oka at *
    generalize scB b n d = okb at *
    generalize scQ a n d = qa at *
    generalize scR a n d = ra at *
    generalize scQ b n d = qb at *
    generalize scR b n d = rb at *
    simp only [Bool.false_eq_true, if_false]
    go_enter Try.func10, Try.ntmps10
    go_wp2_with fail
    refine (H1.out _).mono ?_
    rintro e w1 ⟨rfl, rfl⟩
    go_wp2_with fail
    refine (H2.out _).mono ?_
    rintro e w1 ⟨rfl, rfl⟩
    go_wp2_with fail
    exact ret_spb rfl rfl rfl rfl rfl (Blk.at (by simp)) rfl (below_trans (below_alloc _ _) (below_alloc _ _))
end Go.Proofs.Ytecnonmcmdaopaa.Sp
