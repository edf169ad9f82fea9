/- The statement GroupPowers: in the group the product of powers is the power of the sum of the exponents, the power of a power that of the product, a negative exponent gives the inverse; of every int the square is the power 2. Conditions: none. -/
import Derived.Test.YtifkcnmdfeklmaaQAbb
namespace Go.Proofs.Ytifkcnmdfeklmaa.groupPowers
set_option linter.unusedVariables false
open Go.ChangeShapes Go.WideShapes Go.ChangeAt Go.RowKit Grp
open Go.Proofs.Ytifkcnmdfeklmaa

set_option maxHeartbeats 3200000 in
set_option maxRecDepth 100000 in
theorem out_walk (y d e x q : Int) (c1 : Hid (MulP y 1 x)) (c2 : Hid (ExpP y 2 q)) (c3 : Hid (MulP y y q)) (c4 : Hid (ExpP y 1 x)) (c5 : Hid (ExpP y 0 1)) (c6 : Hid (InP x false)) (w : World) :
    Calls Try.prog 5 #[.int .i64 y, .int .i64 d, .int .i64 e] w (IsTrue w) := by
  have e1 : (q != q) = false := by simp
  have e2 : (x != x) = false := by simp
  go_enter Try.func5, Try.ntmps5
  go_wp2_with fail
  refine (small_any _).mono ?_
  rintro e w1 ⟨rfl, k1, rfl⟩
  go_wp2_with fail
  refine (c1.out _).mono ?_
  rintro e w2 ⟨rfl, m0, rfl⟩
  go_wp2_with fail
  refine (c2.out _).mono ?_
  rintro e w2 ⟨rfl, m1, rfl⟩
  go_wp2_with fail
  refine (c3.out _).mono ?_
  rintro e w2 ⟨rfl, m2, rfl⟩
  go_wp2_with fail
  refine (c4.out _).mono ?_
  rintro e w2 ⟨rfl, m3, rfl⟩
  go_wp2_with fail
  refine (c5.out _).mono ?_
  rintro e w2 ⟨rfl, m4, rfl⟩
  go_wp2_with fail
  refine (c6.out _).mono ?_
  rintro e w2 ⟨rfl, m5, rfl⟩
  go_wp2_with fail
  go_ret
  exact ⟨rfl, _, rfl⟩

set_option maxHeartbeats 3200000 in
set_option maxRecDepth 100000 in
theorem in_walk (y d e x q u v p s r t i f z : Int) (c1 : Hid (MulP y 1 x)) (c2 : Hid (ExpP y 2 q)) (c3 : Hid (MulP y y q)) (c4 : Hid (ExpP y 1 x)) (c5 : Hid (ExpP y 0 1)) (c6 : Hid (InP x true))
    (c7 : Hid (ExpP y d u)) (c8 : Hid (ExpP y e v)) (c9 : Hid (MulP u v p)) (c10 : Hid (AddqP d e s)) (c11 : Hid (ExpP y s p)) (c12 : Hid (ExpP u e r)) (c13 : Hid (MulqP d e t)) (c14 : Hid (ExpP y t r))
    (c15 : Hid (InvP u i true)) (c16 : Hid (SubqP 0 d f)) (c17 : Hid (ExpP y f i)) (c18 : Hid (AddqP d 0 z)) (c19 : Hid (ExpP y z u)) (w : World) :
    Calls Try.prog 5 #[.int .i64 y, .int .i64 d, .int .i64 e] w (IsTrue w) := by
  have e1 : (q != q) = false := by simp
  have e2 : (x != x) = false := by simp
  have e3 : (p == p) = true := by simp
  have e4 : (r == r) = true := by simp
  have e5 : (i == i) = true := by simp
  have e6 : (u == u) = true := by simp
  go_enter Try.func5, Try.ntmps5
  go_wp2_with fail
  refine (small_any _).mono ?_
  rintro e w1 ⟨rfl, k1, rfl⟩
  go_wp2_with fail
  refine (c1.out _).mono ?_
  rintro e w2 ⟨rfl, m0, rfl⟩
  go_wp2_with fail
  refine (c2.out _).mono ?_
  rintro e w2 ⟨rfl, m1, rfl⟩
  go_wp2_with fail
  refine (c3.out _).mono ?_
  rintro e w2 ⟨rfl, m2, rfl⟩
  go_wp2_with fail
  refine (c4.out _).mono ?_
  rintro e w2 ⟨rfl, m3, rfl⟩
  go_wp2_with fail
  refine (c5.out _).mono ?_
  rintro e w2 ⟨rfl, m4, rfl⟩
  go_wp2_with fail
  refine (c6.out _).mono ?_
  rintro e w2 ⟨rfl, m5, rfl⟩
  go_wp2_with fail
  refine (c7.out _).mono ?_
  rintro e w2 ⟨rfl, m6, rfl⟩
  go_wp2_with fail
  refine (c8.out _).mono ?_
  rintro e w2 ⟨rfl, m7, rfl⟩
  go_wp2_with fail
  refine (c9.out _).mono ?_
  rintro e w2 ⟨rfl, m8, rfl⟩
  go_wp2_with fail
  refine (c10.out _).mono ?_
  rintro e w2 ⟨rfl, rfl⟩
  go_wp2_with fail
  refine (c11.out _).mono ?_
  rintro e w2 ⟨rfl, m10, rfl⟩
  go_wp2_with fail
  refine (c7.out _).mono ?_
  rintro e w2 ⟨rfl, m11, rfl⟩
  go_wp2_with fail
  refine (c12.out _).mono ?_
  rintro e w2 ⟨rfl, m12, rfl⟩
  go_wp2_with fail
  refine (c13.out _).mono ?_
  rintro e w2 ⟨rfl, m13, rfl⟩
  go_wp2_with fail
  refine (c14.out _).mono ?_
  rintro e w2 ⟨rfl, m14, rfl⟩
  go_wp2_with fail
  refine (c7.out _).mono ?_
  rintro e w2 ⟨rfl, m15, rfl⟩
  go_wp2_with fail
  refine (c15.out _).mono ?_
  rintro e w2 ⟨rfl, m16, rfl⟩
  go_wp2_with fail
  refine (c16.out _).mono ?_
  rintro e w2 ⟨rfl, rfl⟩
  go_wp2_with fail
  refine (c17.out _).mono ?_
  rintro e w2 ⟨rfl, m18, rfl⟩
  go_wp2_with fail
  refine (c7.out _).mono ?_
  rintro e w2 ⟨rfl, m19, rfl⟩
  go_wp2_with fail
  refine (c18.out _).mono ?_
  rintro e w2 ⟨rfl, rfl⟩
  go_wp2_with fail
  refine (c19.out _).mono ?_
  rintro e w2 ⟨rfl, m21, rfl⟩
  go_wp2_with fail
  go_ret
  exact ⟨rfl, _, rfl⟩
theorem walk (y : Int) (hy : I64 y) (d : Int) (hd : I64 d) (e : Int) (he : I64 e) (w : World) :
    Calls Try.prog 5 #[.int .i64 y, .int .i64 d, .int .i64 e] w (IsTrue w) := by
  have c1 : MulP y 1 (rp y) := fun W => by have h := mul_any y 1 W; rw [mu_one] at h; exact h
  have c2 : ExpP y 2 (mu y y) := fun W => by have h := exp_any y 2 (i64c (by decide)) W; rw [xe_two] at h; exact h
  have c4 : ExpP y 1 (rp y) := fun W => by have h := exp_any y 1 (i64c (by decide)) W; rw [xe_one] at h; exact h
  have c5 : ExpP y 0 1 := fun W => by have h := exp_any y 0 (i64c (by decide)) W; rw [xe_zero] at h; exact h
  have c6 := fun W => in_any (rp y) W
  cases hn : inB (rp y) with
  | false =>
    rw [hn] at c6
    exact out_walk y d e _ _ (Lib.hid c1) (Lib.hid c2) (Lib.hid fun W => mul_any y y W) (Lib.hid c4) (Lib.hid c5) (Lib.hid c6) w
  | true =>
    rw [hn] at c6
    have h := (of_inB hn).2.2
    rw [ex_rp] at h
    have c11 := fun W => exp_any y (rq (d + e)) (i64_rq _) W
    rw [← xe_add h] at c11
    have c14 := fun W => exp_any y (rq (d * e)) (i64_rq _) W
    rw [← xe_mul h] at c14
    have c15 := fun W => inv_any (xe y d) W
    rw [xe_inv h, show (rp (xe y d) != 0) = true from bne_iff_ne.2 (in_ne (xe_pow_one h d))] at c15
    have c19 := fun W => exp_any y (rq (d + 0)) (i64_rq _) W
    rw [xe_rq h, Int.add_zero] at c19
    have c18 := fun W => addq_any d 0 W
    rw [Int.add_zero] at c18
    exact in_walk y d e _ _ _ _ _ _ _ _ _ _ _ (Lib.hid c1) (Lib.hid c2) (Lib.hid fun W => mul_any y y W) (Lib.hid c4) (Lib.hid c5) (Lib.hid c6)
      (Lib.hid fun W => exp_any y d hd W) (Lib.hid fun W => exp_any y e he W) (Lib.hid fun W => mul_any _ _ W) (Lib.hid fun W => addq_any d e W) (Lib.hid c11) (Lib.hid fun W => exp_any _ e he W) (Lib.hid fun W => mulq_any d e W) (Lib.hid c14)
      (Lib.hid c15) (Lib.hid fun W => subq_any 0 d W) (Lib.hid fun W => exp_any y _ (i64_rq _) W) (Lib.hid c18) (Lib.hid c19) w
theorem own : ownKnob Try.prog.godebug = none := by kernel_rfl
theorem laidOut : laidOutB Try.prog = true := by kernel_rfl

set_option maxRecDepth 100000 in
theorem lifted (os : Os) (started : os.Started) (H : Type) (enc : TypeId × Value → H) :
    ReturnsInHanded {} Try.checked os 5 .any (Rows.groupPowersSpec.pre6 enc Try.prog Try.f5 Rows.groupPowersRow.domain false) (Rows.groupPowersSpec.post enc Try.prog Try.f5 false true false false) := by
  refine returnsInHanded_of_change_sized (C := Try.checked) own started (by kernel_rfl) Try.func5
    (ChangeSpec.witness6 (enc := enc) (C := Try.checked) false ⟨#[], #[.int .i64 0, .int .i64 0, .int .i64 0], []⟩ 8 (by kernel_rfl) (by kernel_rfl) (by kernel_rfl) (by kernel_rfl)) ?_
  intro W base args ds gs before hval0 hW hcnd hsz0 _
  have hsz : (DataW.weightsEach Try.prog (Try.f5.params.toList ++ Rows.groupPowersSpec.plain.varTypes Try.prog) (ds ++ gs)).all (· ≤ reachBytes) = true := hsz0
  clear hsz0
  have hval : ∀ (j : Nat) t v, Try.f5.params[j]? = some t → args[j]? = some v → Value.okWide Try.prog W .any base t v := hval0
  have hW' := hW
  obtain ⟨p, q, hA0, hV, rfl, hfz, hnd⟩ := hW
  have hA : DataW.TrodAll enc Try.prog W 0 (fun _ => true) true Try.f5.params.toList args.toList ds p := hA0
  rw [Try.params5] at hA hval hsz
  obtain ⟨v0, vs0, d0, ds0, p0, q0, hargs, rfl, rfl, h0, r0⟩ := trodAll_cons hA
  obtain ⟨v1, vs1, d1, ds1, p1, q1, rfl, rfl, rfl, h1, r1⟩ := trodAll_cons r0
  obtain ⟨v2, vs2, d2, ds2, p2, q2, rfl, rfl, rfl, h2, r2⟩ := trodAll_cons r1
  obtain ⟨rfl, rfl, rfl⟩ := trodAll_nil r2
  obtain rfl : args = #[v0, v1, v2] := by cases args; simp_all
  obtain ⟨rfl, rfl⟩ := trodVars_none hV
  obtain ⟨a0, rfl, rfl, rfl, w0⟩ := open_int Try.underlying3 (hval 0 3 v0 rfl rfl) h0
  obtain ⟨a1, rfl, rfl, rfl, w1⟩ := open_int Try.underlying3 (hval 1 3 v1 rfl rfl) h1
  obtain ⟨a2, rfl, rfl, rfl, w2⟩ := open_int Try.underlying3 (hval 2 3 v2 rfl rfl) h2
  clear hA0 hval0
  simp only [List.append_nil] at hW'
  refine (walk (w := W) a0 (i64_of_wf w0) a1 (i64_of_wf w1) a2 (i64_of_wf w2)).mono fun e W' hi => ?_
  obtain ⟨he, hb⟩ := hi.below
  subst he
  exact ⟨_, rfl, _, _, _, [], _, [], hW', (trodAll_cons_mk (shut_bool Try.underlying4 _) trodAll_mk0), (trodAll_cons_mk (shut_int Try.underlying3 w0) (trodAll_cons_mk (shut_int Try.underlying3 w1) (trodAll_cons_mk (shut_int Try.underlying3 w2) trodAll_mk0))), rfl, hb.frame _, fun h => by cases h⟩

theorem over : Rows.groupPowersRow.holds Try.pinned (OpenSpec.ofChange Rows.groupPowersSpec) :=
  OpenClaim.holds_of_wide 5 Try.f5 rfl rfl rfl rfl rfl rfl rfl ⟨rfl, rfl, rfl, rfl, rfl⟩ rfl rfl rfl rfl rfl (by kernel_rfl) Try.func5 (by kernel_rfl)
    (of_decide_eq_true (by kernel_rfl)) (by unfold Func.isWrapper; first | (rw [if_pos (by decide +kernel)]; kernel_rfl) | (rw [if_neg (by decide +kernel)]; exact ⟨rfl, rfl⟩))
    (fun os started H enc _ => lifted os started H enc)

theorem proved : Rows.GroupPowersSaid := over
end Go.Proofs.Ytifkcnmdfeklmaa.groupPowers
