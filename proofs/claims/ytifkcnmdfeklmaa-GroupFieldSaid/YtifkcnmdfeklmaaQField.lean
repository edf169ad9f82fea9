/- The statement GroupField: multiplication modulo P is commutative and associative, the residues modulo Q are a commutative ring, and only multiples of P have no inverse. Conditions: none. -/
import Derived.Test.YtifkcnmdfeklmaaQAbb
namespace Go.Proofs.Ytifkcnmdfeklmaa.groupField
set_option linter.unusedVariables false
open Go.ChangeShapes Go.WideShapes Go.ChangeAt Go.RowKit Grp
open Go.Proofs.Ytifkcnmdfeklmaa

theorem rq_mul (a b : Int) : rq (rq a * b) = rq (a * b) := by unfold rq; rw [Int.mul_emod, Int.emod_emod, ← Int.mul_emod]
theorem rq_mul' (a b : Int) : rq (a * rq b) = rq (a * b) := by rw [Int.mul_comm, rq_mul, Int.mul_comm]
theorem q_assoc (a b c : Int) : rq (a * rq (b * c)) = rq (rq (a * b) * c) := by rw [rq_mul, rq_mul', Int.mul_assoc]
theorem q_distr (a b c : Int) : rq (rq (a * b) + rq (a * c)) = rq (a * rq (b + c)) := by rw [rq_mul', Int.mul_add]; unfold rq; omega
theorem q_sum (a b c : Int) : rq (a + rq (b + c)) = rq (rq (a + b) + c) := by unfold rq; omega
theorem q_back (a b : Int) : rq (rq (a + b) - b) = rq (a + 0) := by unfold rq; omega
set_option maxHeartbeats 6400000 in
set_option maxRecDepth 100000 in
theorem zero_walk (a b c x y i m n k s t r f g h j l : Int) (hx : x = 0) (hm : m = 0) (c1 : Hid (MulP a 1 x)) (c2 : Hid (AddqP a 0 y)) (c3 : Hid (InvP a i false)) (c5 : Hid (MulP a b m)) (c6 : Hid (MulP b a m)) (c7 : Hid (MulP m c n)) (c8 : Hid (MulP b c k)) (c9 : Hid (MulP a k n))
    (c11 : Hid (AddqP a b s)) (c12 : Hid (AddqP b a s)) (c13 : Hid (AddqP s c t)) (c14 : Hid (AddqP b c r)) (c15 : Hid (AddqP a r t)) (c16 : Hid (SubqP s b y))
    (c17 : Hid (MulqP a b f)) (c18 : Hid (MulqP b a f)) (c19 : Hid (MulqP f c g)) (c20 : Hid (MulqP b c h)) (c21 : Hid (MulqP a h g)) (c22 : Hid (MulqP a r j)) (c23 : Hid (MulqP a c l)) (c24 : Hid (AddqP f l j)) (c25 : Hid (MulqP a 1 y))
    (d3 : decide (0 ≤ y) = true) (d4 : decide (y < 1152921504606845789) = true) (w : World) :
    Calls Try.prog 7 #[.int .i64 a, .int .i64 b, .int .i64 c] w (IsTrue w) := by
  have em : (m == m) = true := by simp
  have en : (n == n) = true := by simp
  have es : (s == s) = true := by simp
  have et : (t == t) = true := by simp
  have ef : (f == f) = true := by simp
  have eg : (g == g) = true := by simp
  have ej : (j == j) = true := by simp
  have ey : (y == y) = true := by simp
  subst hx
  subst hm
  go_enter Try.func7, Try.ntmps7
  go_wp2_with fail
  refine (small_any _).mono ?_
  rintro e w1 ⟨rfl, k1, rfl⟩
  go_wp2_with fail
  refine (c1.out _).mono ?_
  rintro e w2 ⟨rfl, m0, rfl⟩
  go_wp2_with fail
  refine (c2.out _).mono ?_
  rintro e w2 ⟨rfl, rfl⟩
  go_wp2_with fail
  refine (c3.out _).mono ?_
  rintro e w2 ⟨rfl, m2, rfl⟩
  go_wp2_with fail
  refine (c5.out _).mono ?_
  rintro e w2 ⟨rfl, m3, rfl⟩
  go_wp2_with fail
  refine (c6.out _).mono ?_
  rintro e w2 ⟨rfl, m4, rfl⟩
  go_wp2_with fail
  refine (c5.out _).mono ?_
  rintro e w2 ⟨rfl, m5, rfl⟩
  go_wp2_with fail
  refine (c7.out _).mono ?_
  rintro e w2 ⟨rfl, m6, rfl⟩
  go_wp2_with fail
  refine (c8.out _).mono ?_
  rintro e w2 ⟨rfl, m7, rfl⟩
  go_wp2_with fail
  refine (c9.out _).mono ?_
  rintro e w2 ⟨rfl, m8, rfl⟩
  go_wp2_with fail
  refine (c5.out _).mono ?_
  rintro e w2 ⟨rfl, m9, rfl⟩
  go_wp2_with fail
  refine (c11.out _).mono ?_
  rintro e w2 ⟨rfl, rfl⟩
  go_wp2_with fail
  refine (c12.out _).mono ?_
  rintro e w2 ⟨rfl, rfl⟩
  go_wp2_with fail
  refine (c11.out _).mono ?_
  rintro e w2 ⟨rfl, rfl⟩
  go_wp2_with fail
  refine (c13.out _).mono ?_
  rintro e w2 ⟨rfl, rfl⟩
  go_wp2_with fail
  refine (c14.out _).mono ?_
  rintro e w2 ⟨rfl, rfl⟩
  go_wp2_with fail
  refine (c15.out _).mono ?_
  rintro e w2 ⟨rfl, rfl⟩
  go_wp2_with fail
  refine (c11.out _).mono ?_
  rintro e w2 ⟨rfl, rfl⟩
  go_wp2_with fail
  refine (c16.out _).mono ?_
  rintro e w2 ⟨rfl, rfl⟩
  go_wp2_with fail
  refine (c17.out _).mono ?_
  rintro e w2 ⟨rfl, m18, rfl⟩
  go_wp2_with fail
  refine (c18.out _).mono ?_
  rintro e w2 ⟨rfl, m19, rfl⟩
  go_wp2_with fail
  refine (c17.out _).mono ?_
  rintro e w2 ⟨rfl, m20, rfl⟩
  go_wp2_with fail
  refine (c19.out _).mono ?_
  rintro e w2 ⟨rfl, m21, rfl⟩
  go_wp2_with fail
  refine (c20.out _).mono ?_
  rintro e w2 ⟨rfl, m22, rfl⟩
  go_wp2_with fail
  refine (c21.out _).mono ?_
  rintro e w2 ⟨rfl, m23, rfl⟩
  go_wp2_with fail
  refine (c14.out _).mono ?_
  rintro e w2 ⟨rfl, rfl⟩
  go_wp2_with fail
  refine (c22.out _).mono ?_
  rintro e w2 ⟨rfl, m25, rfl⟩
  go_wp2_with fail
  refine (c17.out _).mono ?_
  rintro e w2 ⟨rfl, m26, rfl⟩
  go_wp2_with fail
  refine (c23.out _).mono ?_
  rintro e w2 ⟨rfl, m27, rfl⟩
  go_wp2_with fail
  refine (c24.out _).mono ?_
  rintro e w2 ⟨rfl, rfl⟩
  go_wp2_with fail
  refine (c25.out _).mono ?_
  rintro e w2 ⟨rfl, m29, rfl⟩
  go_wp2_with fail
  go_ret
  exact ⟨rfl, _, rfl⟩

set_option maxHeartbeats 6400000 in
set_option maxRecDepth 100000 in
theorem main_walk (a b c x y i m n k s t r f g h j l z : Int) (q : Bool) (hx : (x == 0) = false) (hx' : (x != 0) = true) (hm : (m == 0) = q) (hz : (z == 0) = q) (c1 : Hid (MulP a 1 x)) (c2 : Hid (AddqP a 0 y)) (c3 : Hid (InvP a i true)) (c5 : Hid (MulP a b m)) (c6 : Hid (MulP b a m)) (c7 : Hid (MulP m c n)) (c8 : Hid (MulP b c k)) (c9 : Hid (MulP a k n))
    (c11 : Hid (AddqP a b s)) (c12 : Hid (AddqP b a s)) (c13 : Hid (AddqP s c t)) (c14 : Hid (AddqP b c r)) (c15 : Hid (AddqP a r t)) (c16 : Hid (SubqP s b y))
    (c17 : Hid (MulqP a b f)) (c18 : Hid (MulqP b a f)) (c19 : Hid (MulqP f c g)) (c20 : Hid (MulqP b c h)) (c21 : Hid (MulqP a h g)) (c22 : Hid (MulqP a r j)) (c23 : Hid (MulqP a c l)) (c24 : Hid (AddqP f l j)) (c25 : Hid (MulqP a 1 y))
    (d3 : decide (0 ≤ y) = true) (d4 : decide (y < 1152921504606845789) = true)
    (d1 : decide (0 ≤ x) = true) (d2 : decide (x < 2305843009213691579) = true) (d5 : decide (1 ≤ i) = true) (d6 : decide (i < 2305843009213691579) = true) (c4 : Hid (MulP a i 1)) (c10 : Hid (MulP b 1 z)) (w : World) :
    Calls Try.prog 7 #[.int .i64 a, .int .i64 b, .int .i64 c] w (IsTrue w) := by
  have em : (m == m) = true := by simp
  have en : (n == n) = true := by simp
  have es : (s == s) = true := by simp
  have et : (t == t) = true := by simp
  have ef : (f == f) = true := by simp
  have eg : (g == g) = true := by simp
  have ej : (j == j) = true := by simp
  have ey : (y == y) = true := by simp
  cases q
  all_goals
    go_enter Try.func7, Try.ntmps7
    go_wp2_with fail
    refine (small_any _).mono ?_
    rintro e w1 ⟨rfl, k1, rfl⟩
    go_wp2_with fail
    refine (c1.out _).mono ?_
    rintro e w2 ⟨rfl, m0, rfl⟩
    go_wp2_with fail
    refine (c2.out _).mono ?_
    rintro e w2 ⟨rfl, rfl⟩
    go_wp2_with fail
    refine (c3.out _).mono ?_
    rintro e w2 ⟨rfl, m2, rfl⟩
    go_wp2_with fail
    refine (c4.out _).mono ?_
    rintro e w2 ⟨rfl, m3, rfl⟩
    go_wp2_with fail
    refine (c5.out _).mono ?_
    rintro e w2 ⟨rfl, m4, rfl⟩
    go_wp2_with fail
    refine (c6.out _).mono ?_
    rintro e w2 ⟨rfl, m5, rfl⟩
    go_wp2_with fail
    refine (c5.out _).mono ?_
    rintro e w2 ⟨rfl, m6, rfl⟩
    go_wp2_with fail
    refine (c7.out _).mono ?_
    rintro e w2 ⟨rfl, m7, rfl⟩
    go_wp2_with fail
    refine (c8.out _).mono ?_
    rintro e w2 ⟨rfl, m8, rfl⟩
    go_wp2_with fail
    refine (c9.out _).mono ?_
    rintro e w2 ⟨rfl, m9, rfl⟩
    go_wp2_with fail
    refine (c5.out _).mono ?_
    rintro e w2 ⟨rfl, m10, rfl⟩
    go_wp2_with fail
    refine (c10.out _).mono ?_
    rintro e w2 ⟨rfl, m11, rfl⟩
    go_wp2_with fail
    refine (c11.out _).mono ?_
    rintro e w2 ⟨rfl, rfl⟩
    go_wp2_with fail
    refine (c12.out _).mono ?_
    rintro e w2 ⟨rfl, rfl⟩
    go_wp2_with fail
    refine (c11.out _).mono ?_
    rintro e w2 ⟨rfl, rfl⟩
    go_wp2_with fail
    refine (c13.out _).mono ?_
    rintro e w2 ⟨rfl, rfl⟩
    go_wp2_with fail
    refine (c14.out _).mono ?_
    rintro e w2 ⟨rfl, rfl⟩
    go_wp2_with fail
    refine (c15.out _).mono ?_
    rintro e w2 ⟨rfl, rfl⟩
    go_wp2_with fail
    refine (c11.out _).mono ?_
    rintro e w2 ⟨rfl, rfl⟩
    go_wp2_with fail
    refine (c16.out _).mono ?_
    rintro e w2 ⟨rfl, rfl⟩
    go_wp2_with fail
    refine (c17.out _).mono ?_
    rintro e w2 ⟨rfl, m20, rfl⟩
    go_wp2_with fail
    refine (c18.out _).mono ?_
    rintro e w2 ⟨rfl, m21, rfl⟩
    go_wp2_with fail
    refine (c17.out _).mono ?_
    rintro e w2 ⟨rfl, m22, rfl⟩
    go_wp2_with fail
    refine (c19.out _).mono ?_
    rintro e w2 ⟨rfl, m23, rfl⟩
    go_wp2_with fail
    refine (c20.out _).mono ?_
    rintro e w2 ⟨rfl, m24, rfl⟩
    go_wp2_with fail
    refine (c21.out _).mono ?_
    rintro e w2 ⟨rfl, m25, rfl⟩
    go_wp2_with fail
    refine (c14.out _).mono ?_
    rintro e w2 ⟨rfl, rfl⟩
    go_wp2_with fail
    refine (c22.out _).mono ?_
    rintro e w2 ⟨rfl, m27, rfl⟩
    go_wp2_with fail
    refine (c17.out _).mono ?_
    rintro e w2 ⟨rfl, m28, rfl⟩
    go_wp2_with fail
    refine (c23.out _).mono ?_
    rintro e w2 ⟨rfl, m29, rfl⟩
    go_wp2_with fail
    refine (c24.out _).mono ?_
    rintro e w2 ⟨rfl, rfl⟩
    go_wp2_with fail
    refine (c25.out _).mono ?_
    rintro e w2 ⟨rfl, m31, rfl⟩
    go_wp2_with fail
    go_ret
    exact ⟨rfl, _, rfl⟩

theorem beq_of_iff {a b c d : Int} (h : a = b ↔ c = d) : (a == b) = (c == d) := by
  by_cases hc : c = d
  · rw [beq_iff_eq.2 hc, beq_iff_eq.2 (h.2 hc)]
  · rw [beq_eq_false_iff_ne.2 hc, beq_eq_false_iff_ne.2 fun ha => hc (h.1 ha)]
theorem walk (a : Int) (ha : I64 a) (b : Int) (hb : I64 b) (c : Int) (hc : I64 c) (w : World) :
    Calls Try.prog 7 #[.int .i64 a, .int .i64 b, .int .i64 c] w (IsTrue w) := by
  have c1 : MulP a 1 (rp a) := fun W => by have h := mul_any a 1 W; rw [mu_one] at h; exact h
  have c3 := fun W => inv_any a W
  have c6 : MulP b a (mu a b) := fun W => by have h := mul_any b a W; rw [mu_comm] at h; exact h
  have c9 : MulP a (mu b c) (mu (mu a b) c) := fun W => by have h := mul_any a (mu b c) W; rw [← mu_assoc] at h; exact h
  have c10 : MulP b 1 (rp b) := fun W => by have h := mul_any b 1 W; rw [mu_one] at h; exact h
  have c12 : AddqP b a (rq (a + b)) := fun W => by have h := addq_any b a W; rw [Int.add_comm] at h; exact h
  have c15 : AddqP a (rq (b + c)) (rq (rq (a + b) + c)) := fun W => by have h := addq_any a (rq (b + c)) W; rw [q_sum] at h; exact h
  have c16 : SubqP (rq (a + b)) b (rq (a + 0)) := fun W => by have h := subq_any (rq (a + b)) b W; rw [q_back] at h; exact h
  have c18 : MulqP b a (rq (a * b)) := fun W => by have h := mulq_any b a W; rw [Int.mul_comm] at h; exact h
  have c21 : MulqP a (rq (b * c)) (rq (rq (a * b) * c)) := fun W => by have h := mulq_any a (rq (b * c)) W; rw [q_assoc] at h; exact h
  have c24 : AddqP (rq (a * b)) (rq (a * c)) (rq (a * rq (b + c))) := fun W => by have h := addq_any (rq (a * b)) (rq (a * c)) W; rw [q_distr] at h; exact h
  have c25 : MulqP a 1 (rq (a + 0)) := fun W => by have h := mulq_any a 1 W; rw [Int.mul_one] at h; rw [Int.add_zero]; exact h
  by_cases hx : rp a = 0
  · rw [show (rp a != 0) = false by rw [hx]; rfl] at c3
    exact zero_walk a b c _ _ _ _ _ _ _ _ _ _ _ _ _ _ hx ((mu_zero_iff a b).2 (.inl hx)) (Lib.hid c1) (Lib.hid fun W => addq_any a 0 W) (Lib.hid c3) (Lib.hid fun W => mul_any a b W) (Lib.hid c6) (Lib.hid fun W => mul_any _ c W) (Lib.hid fun W => mul_any b c W) (Lib.hid c9)
      (Lib.hid fun W => addq_any a b W) (Lib.hid c12) (Lib.hid fun W => addq_any _ c W) (Lib.hid fun W => addq_any b c W) (Lib.hid c15) (Lib.hid c16)
      (Lib.hid fun W => mulq_any a b W) (Lib.hid c18) (Lib.hid fun W => mulq_any _ c W) (Lib.hid fun W => mulq_any b c W) (Lib.hid c21) (Lib.hid fun W => mulq_any a _ W) (Lib.hid fun W => mulq_any a c W) (Lib.hid c24) (Lib.hid c25)
      (decide_eq_true (rq_bd _).1) (decide_eq_true (rq_bd _).2) w
  · rw [show (rp a != 0) = true from bne_iff_ne.2 hx] at c3
    have hm : (mu a b == 0) = (rp b == 0) := beq_of_iff ((mu_zero_iff a b).trans ⟨fun h => h.resolve_left hx, .inr⟩)
    have h1 := iv_bd a
    have h2 := iv_ne hx
    have c4 : MulP a (iv a) 1 := fun W => by have h := mul_any a (iv a) W; rw [mu_iv hx] at h; exact h
    exact main_walk a b c _ _ _ _ _ _ _ _ _ _ _ _ _ _ _ _ (beq_eq_false_iff_ne.2 hx) (bne_iff_ne.2 hx) hm rfl (Lib.hid c1) (Lib.hid fun W => addq_any a 0 W) (Lib.hid c3) (Lib.hid fun W => mul_any a b W) (Lib.hid c6) (Lib.hid fun W => mul_any _ c W) (Lib.hid fun W => mul_any b c W) (Lib.hid c9)
      (Lib.hid fun W => addq_any a b W) (Lib.hid c12) (Lib.hid fun W => addq_any _ c W) (Lib.hid fun W => addq_any b c W) (Lib.hid c15) (Lib.hid c16)
      (Lib.hid fun W => mulq_any a b W) (Lib.hid c18) (Lib.hid fun W => mulq_any _ c W) (Lib.hid fun W => mulq_any b c W) (Lib.hid c21) (Lib.hid fun W => mulq_any a _ W) (Lib.hid fun W => mulq_any a c W) (Lib.hid c24) (Lib.hid c25)
      (decide_eq_true (rq_bd _).1) (decide_eq_true (rq_bd _).2)
      (decide_eq_true (rp_bd a).1) (decide_eq_true (rp_bd a).2) (decide_eq_true (by omega)) (decide_eq_true h1.2) (Lib.hid c4) (Lib.hid c10) w
theorem own : ownKnob Try.prog.godebug = none := by kernel_rfl
theorem laidOut : laidOutB Try.prog = true := by kernel_rfl

set_option maxRecDepth 100000 in
theorem lifted (os : Os) (started : os.Started) (H : Type) (enc : TypeId × Value → H) :
    ReturnsInHanded {} Try.checked os 7 .any (Rows.groupFieldSpec.pre6 enc Try.prog Try.f7 Rows.groupFieldRow.domain false) (Rows.groupFieldSpec.post enc Try.prog Try.f7 false true false false) := by
  refine returnsInHanded_of_change_sized (C := Try.checked) own started (by kernel_rfl) Try.func7
    (ChangeSpec.witness6 (enc := enc) (C := Try.checked) false ⟨#[], #[.int .i64 0, .int .i64 0, .int .i64 0], []⟩ 8 (by kernel_rfl) (by kernel_rfl) (by kernel_rfl) (by kernel_rfl)) ?_
  intro W base args ds gs before hval0 hW hcnd hsz0 _
  have hsz : (DataW.weightsEach Try.prog (Try.f7.params.toList ++ Rows.groupFieldSpec.plain.varTypes Try.prog) (ds ++ gs)).all (· ≤ reachBytes) = true := hsz0
  clear hsz0
  have hval : ∀ (j : Nat) t v, Try.f7.params[j]? = some t → args[j]? = some v → Value.okWide Try.prog W .any base t v := hval0
  have hW' := hW
  obtain ⟨p, q, hA0, hV, rfl, hfz, hnd⟩ := hW
  have hA : DataW.TrodAll enc Try.prog W 0 (fun _ => true) true Try.f7.params.toList args.toList ds p := hA0
  rw [Try.params7] at hA hval hsz
  obtain ⟨v0, vs0, d0, ds0, p0, q0, hargs, rfl, rfl, h0, r0⟩ := trodAll_cons hA
  obtain ⟨v1, vs1, d1, ds1, p1, q1, rfl, rfl, rfl, h1, r1⟩ := trodAll_cons r0
  obtain ⟨v2, vs2, d2, ds2, p2, q2, rfl, rfl, rfl, h2, r2⟩ := trodAll_cons r1
  obtain ⟨rfl, rfl, rfl⟩ := trodAll_nil r2
  obtain rfl : args = #[v0, v1, v2] := by cases args; simp_all
  obtain ⟨rfl, rfl⟩ := trodVars_none hV
  obtain ⟨a0, rfl, rfl, rfl, w0⟩ := open_int Try.underlying3 (hval 0 3 v0 rfl rfl) h0
  obtain ⟨a1, rfl, rfl, rfl, w1⟩ := open_int Try.underlying3 (hval 1 3 v1 rfl rfl) h1
  obtain ⟨a2, rfl, rfl, rfl, w2⟩ := open_int Try.underlying3 (hval 2 3 v2 rfl rfl) h2
  clear hA0 hval0
  simp only [List.append_nil] at hW'
  refine (walk (w := W) a0 (i64_of_wf w0) a1 (i64_of_wf w1) a2 (i64_of_wf w2)).mono fun e W' hi => ?_
  obtain ⟨he, hb⟩ := hi.below
  subst he
  exact ⟨_, rfl, _, _, _, [], _, [], hW', (trodAll_cons_mk (shut_bool Try.underlying4 _) trodAll_mk0), (trodAll_cons_mk (shut_int Try.underlying3 w0) (trodAll_cons_mk (shut_int Try.underlying3 w1) (trodAll_cons_mk (shut_int Try.underlying3 w2) trodAll_mk0))), rfl, hb.frame _, fun h => by cases h⟩

theorem over : Rows.groupFieldRow.holds Try.pinned (OpenSpec.ofChange Rows.groupFieldSpec) :=
  OpenClaim.holds_of_wide 7 Try.f7 rfl rfl rfl rfl rfl rfl rfl ⟨rfl, rfl, rfl, rfl, rfl⟩ rfl rfl rfl rfl rfl (by kernel_rfl) Try.func7 (by kernel_rfl)
    (of_decide_eq_true (by kernel_rfl)) (by unfold Func.isWrapper; first | (rw [if_pos (by decide +kernel)]; kernel_rfl) | (rw [if_neg (by decide +kernel)]; exact ⟨rfl, rfl⟩))
    (fun os started H enc _ => lifted os started H enc)

theorem proved : Rows.GroupFieldSaid := over
end Go.Proofs.Ytifkcnmdfeklmaa.groupField
