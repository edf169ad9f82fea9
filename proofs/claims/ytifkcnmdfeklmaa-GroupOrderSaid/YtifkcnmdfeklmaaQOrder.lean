/- The statement GroupOrder: powers of G are equal exactly if their exponents have the same residue modulo Q, and every member of the group but 1 generates it. Conditions: none. -/
import Derived.Test.YtifkcnmdfeklmaaQAbb
namespace Go.Proofs.Ytifkcnmdfeklmaa.groupOrder
set_option linter.unusedVariables false
open Go.ChangeShapes Go.WideShapes Go.ChangeAt Go.RowKit Grp
open Go.Proofs.Ytifkcnmdfeklmaa

set_option maxHeartbeats 3200000 in
set_option maxRecDepth 100000 in
theorem end_walk (d e y x s u v : Int) (n : Bool) (hs : (s == 0) = n) (hu : (u == v) = n) (hx : x = 0 ∨ x = 1) (c1 : Hid (SubqP d e s)) (c2 : Hid (ExpP 4 d u)) (c3 : Hid (ExpP 4 e v)) (c4 : Hid (MulP y y x)) (w : World) :
    Calls Try.prog 6 #[.int .i64 d, .int .i64 e, .int .i64 y] w (IsTrue w) := by
  rcases hx with rfl | rfl
  all_goals cases n
  all_goals
    go_enter Try.func6, Try.ntmps6
    go_wp2_with fail
    refine (small_any _).mono ?_
    rintro e w1 ⟨rfl, k1, rfl⟩
    go_wp2_with fail
    refine (c1.out _).mono ?_
    rintro e w2 ⟨rfl, rfl⟩
    go_wp2_with fail
    refine (c2.out _).mono ?_
    rintro e w2 ⟨rfl, m1, rfl⟩
    go_wp2_with fail
    refine (c3.out _).mono ?_
    rintro e w2 ⟨rfl, m2, rfl⟩
    go_wp2_with fail
    refine (c4.out _).mono ?_
    rintro e w2 ⟨rfl, m3, rfl⟩
    go_wp2_with fail
    go_ret
    exact ⟨rfl, _, rfl⟩

set_option maxHeartbeats 3200000 in
set_option maxRecDepth 100000 in
theorem main_walk (d e y x s u v p z : Int) (n m : Bool) (hs : (s == 0) = n) (hu : (u == v) = n) (hx : (x == 0) = false) (hx' : (x == 1) = false) (hp : (p == 1) = m) (hz : (z == 0) = m) (c1 : Hid (SubqP d e s)) (c2 : Hid (ExpP 4 d u)) (c3 : Hid (ExpP 4 e v)) (c4 : Hid (MulP y y x)) (c5 : Hid (ExpP x d p)) (c6 : Hid (AddqP d 0 z)) (w : World) :
    Calls Try.prog 6 #[.int .i64 d, .int .i64 e, .int .i64 y] w (IsTrue w) := by
  cases n
  all_goals cases m
  all_goals
    go_enter Try.func6, Try.ntmps6
    go_wp2_with fail
    refine (small_any _).mono ?_
    rintro e w1 ⟨rfl, k1, rfl⟩
    go_wp2_with fail
    refine (c1.out _).mono ?_
    rintro e w2 ⟨rfl, rfl⟩
    go_wp2_with fail
    refine (c2.out _).mono ?_
    rintro e w2 ⟨rfl, m1, rfl⟩
    go_wp2_with fail
    refine (c3.out _).mono ?_
    rintro e w2 ⟨rfl, m2, rfl⟩
    go_wp2_with fail
    refine (c4.out _).mono ?_
    rintro e w2 ⟨rfl, m3, rfl⟩
    go_wp2_with fail
    refine (c5.out _).mono ?_
    rintro e w2 ⟨rfl, m4, rfl⟩
    go_wp2_with fail
    refine (c6.out _).mono ?_
    rintro e w2 ⟨rfl, rfl⟩
    go_wp2_with fail
    go_ret
    exact ⟨rfl, _, rfl⟩

theorem beq_of_iff {a b c d : Int} (h : a = b ↔ c = d) : (a == b) = (c == d) := by
  by_cases hc : c = d
  · rw [beq_iff_eq.2 hc, beq_iff_eq.2 (h.2 hc)]
  · rw [beq_eq_false_iff_ne.2 hc, beq_eq_false_iff_ne.2 fun ha => hc (h.1 ha)]
theorem walk (d : Int) (hd : I64 d) (e : Int) (he : I64 e) (y : Int) (hy : I64 y) (w : World) :
    Calls Try.prog 6 #[.int .i64 d, .int .i64 e, .int .i64 y] w (IsTrue w) := by
  have h4 : (xe 4 d == xe 4 e) = (rq (d - e) == 0) := beq_of_iff (xe_eq_iff v_four (by decide))
  by_cases hx : mu y y = 0 ∨ mu y y = 1
  · exact end_walk d e y _ _ _ _ _ rfl h4 hx (Lib.hid fun W => subq_any d e W) (Lib.hid fun W => exp_any 4 d hd W) (Lib.hid fun W => exp_any 4 e he W) (Lib.hid fun W => mul_any y y W) w
  · have h0 : mu y y ≠ 0 := fun h => hx (.inl h)
    have h1 : mu y y ≠ 1 := fun h => hx (.inr h)
    have hy0 : rp y ≠ 0 := fun h => h0 ((mu_zero_iff y y).2 (.inl h))
    have hm : (xe (mu y y) d == 1) = (rq (d + 0) == 0) := by
      rw [Int.add_zero]
      exact beq_of_iff (xe_one_iff (sq_in hy0) (by rw [rp_mu]; exact h1))
    exact main_walk d e y _ _ _ _ _ _ _ _ rfl h4 (beq_eq_false_iff_ne.2 h0) (beq_eq_false_iff_ne.2 h1) hm rfl (Lib.hid fun W => subq_any d e W) (Lib.hid fun W => exp_any 4 d hd W) (Lib.hid fun W => exp_any 4 e he W) (Lib.hid fun W => mul_any y y W)
      (Lib.hid fun W => exp_any _ d hd W) (Lib.hid fun W => addq_any d 0 W) w
theorem own : ownKnob Try.prog.godebug = none := by kernel_rfl
theorem laidOut : laidOutB Try.prog = true := by kernel_rfl

set_option maxRecDepth 100000 in
theorem lifted (os : Os) (started : os.Started) (H : Type) (enc : TypeId × Value → H) :
    ReturnsInHanded {} Try.checked os 6 .any (Rows.groupOrderSpec.pre6 enc Try.prog Try.f6 Rows.groupOrderRow.domain false) (Rows.groupOrderSpec.post enc Try.prog Try.f6 false true false false) := by
  refine returnsInHanded_of_change_sized (C := Try.checked) own started (by kernel_rfl) Try.func6
    (ChangeSpec.witness6 (enc := enc) (C := Try.checked) false ⟨#[], #[.int .i64 0, .int .i64 0, .int .i64 0], []⟩ 8 (by kernel_rfl) (by kernel_rfl) (by kernel_rfl) (by kernel_rfl)) ?_
  intro W base args ds gs before hval0 hW hcnd hsz0 _
  have hsz : (DataW.weightsEach Try.prog (Try.f6.params.toList ++ Rows.groupOrderSpec.plain.varTypes Try.prog) (ds ++ gs)).all (· ≤ reachBytes) = true := hsz0
  clear hsz0
  have hval : ∀ (j : Nat) t v, Try.f6.params[j]? = some t → args[j]? = some v → Value.okWide Try.prog W .any base t v := hval0
  have hW' := hW
  obtain ⟨p, q, hA0, hV, rfl, hfz, hnd⟩ := hW
  have hA : DataW.TrodAll enc Try.prog W 0 (fun _ => true) true Try.f6.params.toList args.toList ds p := hA0
  rw [Try.params6] at hA hval hsz
  obtain ⟨v0, vs0, d0, ds0, p0, q0, hargs, rfl, rfl, h0, r0⟩ := trodAll_cons hA
  obtain ⟨v1, vs1, d1, ds1, p1, q1, rfl, rfl, rfl, h1, r1⟩ := trodAll_cons r0
  obtain ⟨v2, vs2, d2, ds2, p2, q2, rfl, rfl, rfl, h2, r2⟩ := trodAll_cons r1
  obtain ⟨rfl, rfl, rfl⟩ := trodAll_nil r2
  obtain rfl : args = #[v0, v1, v2] := by cases args; simp_all
  obtain ⟨rfl, rfl⟩ := trodVars_none hV
  obtain ⟨a0, rfl, rfl, rfl, w0⟩ := open_int Try.underlying3 (hval 0 3 v0 rfl rfl) h0
  obtain ⟨a1, rfl, rfl, rfl, w1⟩ := open_int Try.underlying3 (hval 1 3 v1 rfl rfl) h1
  obtain ⟨a2, rfl, rfl, rfl, w2⟩ := open_int Try.underlying3 (hval 2 3 v2 rfl rfl) h2
  clear hA0 hval0
  simp only [List.append_nil] at hW'
  refine (walk (w := W) a0 (i64_of_wf w0) a1 (i64_of_wf w1) a2 (i64_of_wf w2)).mono fun e W' hi => ?_
  obtain ⟨he, hb⟩ := hi.below
  subst he
  exact ⟨_, rfl, _, _, _, [], _, [], hW', (trodAll_cons_mk (shut_bool Try.underlying4 _) trodAll_mk0), (trodAll_cons_mk (shut_int Try.underlying3 w0) (trodAll_cons_mk (shut_int Try.underlying3 w1) (trodAll_cons_mk (shut_int Try.underlying3 w2) trodAll_mk0))), rfl, hb.frame _, fun h => by cases h⟩

theorem over : Rows.groupOrderRow.holds Try.pinned (OpenSpec.ofChange Rows.groupOrderSpec) :=
  OpenClaim.holds_of_wide 6 Try.f6 rfl rfl rfl rfl rfl rfl rfl ⟨rfl, rfl, rfl, rfl, rfl⟩ rfl rfl rfl rfl rfl (by kernel_rfl) Try.func6 (by kernel_rfl)
    (of_decide_eq_true (by kernel_rfl)) (by unfold Func.isWrapper; first | (rw [if_pos (by decide +kernel)]; kernel_rfl) | (rw [if_neg (by decide +kernel)]; exact ⟨rfl, rfl⟩))
    (fun os started H enc _ => lifted os started H enc)

theorem proved : Rows.GroupOrderSaid := over
end Go.Proofs.Ytifkcnmdfeklmaa.groupOrder
