/- The statement GroupMembers: of every int that is no multiple of P, exactly the residue or its negative is in the group; squares, powers of G, products and inverses of members are members; every member is 1 to the power of Q. Conditions: none. -/
import Derived.Test.YtifkcnmdfeklmaaQMem
namespace Go.Proofs.Ytifkcnmdfeklmaa.groupMembers
set_option linter.unusedVariables false
open Go.ChangeShapes Go.WideShapes Go.ChangeAt Go.RowKit Grp
open Go.Proofs.Ytifkcnmdfeklmaa

abbrev InP (y : Int) (b : Bool) : Prop := ∀ W, Calls Try.prog 15 #[.int .i64 y] W fun e w' => e = .returned (.bool b) ∧ ∃ n, w' = W.drewN n
abbrev MulP (a b c : Int) : Prop := ∀ W, Calls Try.prog 11 #[.int .i64 a, .int .i64 b] W fun e w' => e = .returned (.int .i64 c) ∧ ∃ n, w' = W.drewN n
abbrev ExpP (a b c : Int) : Prop := ∀ W, Calls Try.prog 13 #[.int .i64 a, .int .i64 b] W fun e w' => e = .returned (.int .i64 c) ∧ ∃ n, w' = W.drewN n
abbrev InvP (a b : Int) (c : Bool) : Prop := ∀ W, Calls Try.prog 9 #[.int .i64 a] W fun e w' => e = .returned (.tuple #[.int .i64 b, .bool c]) ∧ ∃ n, w' = W.drewN n

set_option maxHeartbeats 3200000 in
set_option maxRecDepth 100000 in
theorem zero_walk (a b e x y : Int) (h : x = 0 ∨ y = 0) (c1 : Hid (MulP a 1 x)) (c2 : Hid (MulP b 1 y)) (c3 : Hid (InP 0 false)) (w : World) :
    Calls Try.prog 4 #[.int .i64 a, .int .i64 b, .int .i64 e] w (IsTrue w) := by
  by_cases hx : x = 0
  · subst hx
    clear h
    go_enter Try.func4, Try.ntmps4
    go_wp2_with fail
    refine (small_any _).mono ?_
    rintro e w1 ⟨rfl, k1, rfl⟩
    go_wp2_with fail
    refine (c1.out _).mono ?_
    rintro e w2 ⟨rfl, k2, rfl⟩
    go_wp2_with fail
    refine (c2.out _).mono ?_
    rintro e w2 ⟨rfl, k3, rfl⟩
    go_wp2_with fail
    refine (c3.out _).mono ?_
    rintro e w2 ⟨rfl, k4, rfl⟩
    go_wp2_with fail
    go_ret
    exact ⟨rfl, _, rfl⟩
  · obtain rfl : y = 0 := by omega
    have d0 : (x == 0) = false := beq_eq_false_iff_ne.2 hx
    clear h hx
    go_enter Try.func4, Try.ntmps4
    go_wp2_with fail
    refine (small_any _).mono ?_
    rintro e w1 ⟨rfl, k1, rfl⟩
    go_wp2_with fail
    refine (c1.out _).mono ?_
    rintro e w2 ⟨rfl, k2, rfl⟩
    go_wp2_with fail
    refine (c2.out _).mono ?_
    rintro e w2 ⟨rfl, k3, rfl⟩
    go_wp2_with fail
    refine (c3.out _).mono ?_
    rintro e w2 ⟨rfl, k4, rfl⟩
    go_wp2_with fail
    go_ret
    exact ⟨rfl, _, rfl⟩

set_option maxHeartbeats 3200000 in
set_option maxRecDepth 100000 in
theorem main_walk (a b e x y i z q g m l : Int) (n p u : Bool) (hx : (x == 0) = false) (hy : (y == 0) = false) (hm : wrap64 (2305843009213691579 - x) = m)
    (c1 : Hid (MulP a 1 x)) (c2 : Hid (MulP b 1 y)) (c3 : Hid (InvP x i true)) (c4 : Hid (InP x n)) (c5 : Hid (InP m (!n)))
    (c6 : Hid (MulP x x q)) (c7 : Hid (InP q true)) (c8 : Hid (ExpP 4 e g)) (c9 : Hid (InP g true)) (c10 : Hid (MulP x y z)) (c11 : Hid (InP y p)) (c12 : Hid (InP z (n == p)))
    (c13 : Hid (InP i n)) (c14 : Hid (MulP i x 1)) (c15 : Hid (ExpP x 1152921504606845789 l)) (hl : l = if n then 1 else 2305843009213691578) (hu : (a == x) = u) (c16 : Hid (InP a (n && u))) (w : World) :
    Calls Try.prog 4 #[.int .i64 a, .int .i64 b, .int .i64 e] w (IsTrue w) := by
  cases n
  case' false => obtain rfl : l = 2305843009213691578 := hl
  case' true => obtain rfl : l = 1 := hl
  all_goals cases p
  all_goals cases u
  all_goals
    go_enter Try.func4, Try.ntmps4
    go_wp2_with fail
    refine (small_any _).mono ?_
    rintro e w1 ⟨rfl, k1, rfl⟩
    go_wp2_with fail
    refine (c1.out _).mono ?_
    rintro e w2 ⟨rfl, k2, rfl⟩
    go_wp2_with fail
    refine (c2.out _).mono ?_
    rintro e w2 ⟨rfl, k3, rfl⟩
    go_wp2_with fail
    refine (c3.out _).mono ?_
    rintro e w2 ⟨rfl, k4, rfl⟩
    go_wp2_with fail
    refine (c4.out _).mono ?_
    rintro e w2 ⟨rfl, k5, rfl⟩
    go_wp2_with fail
    refine (c5.out _).mono ?_
    rintro e w2 ⟨rfl, k6, rfl⟩
    go_wp2_with fail
    refine (c6.out _).mono ?_
    rintro e w2 ⟨rfl, m0, rfl⟩
    go_wp2_with fail
    refine (c7.out _).mono ?_
    rintro e w2 ⟨rfl, m1, rfl⟩
    go_wp2_with fail
    refine (c8.out _).mono ?_
    rintro e w2 ⟨rfl, m2, rfl⟩
    go_wp2_with fail
    refine (c9.out _).mono ?_
    rintro e w2 ⟨rfl, m3, rfl⟩
    go_wp2_with fail
    refine (c10.out _).mono ?_
    rintro e w2 ⟨rfl, m4, rfl⟩
    go_wp2_with fail
    refine (c12.out _).mono ?_
    rintro e w2 ⟨rfl, m6, rfl⟩
    go_wp2_with fail
    refine (c11.out _).mono ?_
    rintro e w2 ⟨rfl, m5, rfl⟩
    go_wp2_with fail
    refine (c13.out _).mono ?_
    rintro e w2 ⟨rfl, m7, rfl⟩
    go_wp2_with fail
    refine (c14.out _).mono ?_
    rintro e w2 ⟨rfl, m8, rfl⟩
    go_wp2_with fail
    refine (c15.out _).mono ?_
    rintro e w2 ⟨rfl, m9, rfl⟩
    go_wp2_with fail
    refine (c16.out _).mono ?_
    rintro e w2 ⟨rfl, m10, rfl⟩
    go_wp2_with fail
    go_ret
    exact ⟨rfl, _, rfl⟩
theorem walk (a : Int) (ha : I64 a) (b : Int) (hb : I64 b) (e : Int) (he : I64 e) (w : World) :
    Calls Try.prog 4 #[.int .i64 a, .int .i64 b, .int .i64 e] w (IsTrue w) := by
  have c1 : MulP a 1 (rp a) := fun W => by have h := mul_any a 1 W; rw [mu_one] at h; exact h
  have c2 : MulP b 1 (rp b) := fun W => by have h := mul_any b 1 W; rw [mu_one] at h; exact h
  by_cases hz : rp a = 0 ∨ rp b = 0
  · exact zero_walk a b e _ _ hz (Lib.hid c1) (Lib.hid c2) (Lib.hid fun W => by have h := in_any 0 W; rw [v_in0] at h; exact h) w
  · have hx : rp a ≠ 0 := fun h => hz (.inl h)
    have hy : rp b ≠ 0 := fun h => hz (.inr h)
    have bx := rp_bd a
    have yb := rp_bd b
    have rx : rp (rp a) ≠ 0 := by rw [rp_rp]; exact hx
    have ry : rp (rp b) ≠ 0 := by rw [rp_rp]; exact hy
    have c16 := fun W => in_any a W
    rw [in_self a] at c16
    have h3 := fun W => inv_any (rp a) W
    rw [show (rp (rp a) != 0) = true from bne_iff_ne.2 rx] at h3
    have h5 := fun W => in_any (2305843009213691579 - rp a) W
    rw [in_minus (rp a) (by omega) bx.2] at h5
    have h7 := fun W => in_any (mu (rp a) (rp a)) W
    rw [in_sq rx] at h7
    have h9 := fun W => in_any (xe 4 e) W
    rw [in_xe v_four] at h9
    have h12 := fun W => in_any (mu (rp a) (rp b)) W
    rw [in_mu rx bx.1 bx.2 ry yb.1 yb.2] at h12
    have h13 := fun W => in_any (iv (rp a)) W
    rw [in_iv rx bx.1 bx.2] at h13
    have h14 := fun W => mul_any (iv (rp a)) (rp a) W
    rw [mu_comm, mu_iv rx] at h14
    exact main_walk a b e (rp a) (rp b) (iv (rp a)) (mu (rp a) (rp b)) (mu (rp a) (rp a)) (xe 4 e) (2305843009213691579 - rp a) (xe (rp a) 1152921504606845789) (inB (rp a)) (inB (rp b)) (a == rp a)
      (beq_eq_false_iff_ne.2 hx) (beq_eq_false_iff_ne.2 hy) (by unfold wrap64; omega)
      (Lib.hid c1) (Lib.hid c2) (Lib.hid h3) (Lib.hid fun W => in_any (rp a) W) (Lib.hid h5)
      (Lib.hid fun W => mul_any (rp a) (rp a) W) (Lib.hid h7) (Lib.hid fun W => exp_any 4 e he W) (Lib.hid h9) (Lib.hid fun W => mul_any (rp a) (rp b) W) (Lib.hid fun W => in_any (rp b) W) (Lib.hid h12)
      (Lib.hid h13) (Lib.hid h14) (Lib.hid fun W => exp_any (rp a) 1152921504606845789 i64qq W) (in_last rx bx.1 bx.2) rfl (Lib.hid c16) w
theorem own : ownKnob Try.prog.godebug = none := by kernel_rfl
theorem laidOut : laidOutB Try.prog = true := by kernel_rfl

set_option maxRecDepth 100000 in
theorem lifted (os : Os) (started : os.Started) (H : Type) (enc : TypeId × Value → H) :
    ReturnsInHanded {} Try.checked os 4 .any (Rows.groupMembersSpec.pre6 enc Try.prog Try.f4 Rows.groupMembersRow.domain false) (Rows.groupMembersSpec.post enc Try.prog Try.f4 false true false false) := by
  refine returnsInHanded_of_change_sized (C := Try.checked) own started (by kernel_rfl) Try.func4
    (ChangeSpec.witness6 (enc := enc) (C := Try.checked) false ⟨#[], #[.int .i64 0, .int .i64 0, .int .i64 0], []⟩ 8 (by kernel_rfl) (by kernel_rfl) (by kernel_rfl) (by kernel_rfl)) ?_
  intro W base args ds gs before hval0 hW hcnd hsz0 _
  have hsz : (DataW.weightsEach Try.prog (Try.f4.params.toList ++ Rows.groupMembersSpec.plain.varTypes Try.prog) (ds ++ gs)).all (· ≤ reachBytes) = true := hsz0
  clear hsz0
  have hval : ∀ (j : Nat) t v, Try.f4.params[j]? = some t → args[j]? = some v → Value.okWide Try.prog W .any base t v := hval0
  have hW' := hW
  obtain ⟨p, q, hA0, hV, rfl, hfz, hnd⟩ := hW
  have hA : DataW.TrodAll enc Try.prog W 0 (fun _ => true) true Try.f4.params.toList args.toList ds p := hA0
  rw [Try.params4] at hA hval hsz
  obtain ⟨v0, vs0, d0, ds0, p0, q0, hargs, rfl, rfl, h0, r0⟩ := trodAll_cons hA
  obtain ⟨v1, vs1, d1, ds1, p1, q1, rfl, rfl, rfl, h1, r1⟩ := trodAll_cons r0
  obtain ⟨v2, vs2, d2, ds2, p2, q2, rfl, rfl, rfl, h2, r2⟩ := trodAll_cons r1
  obtain ⟨rfl, rfl, rfl⟩ := trodAll_nil r2
  obtain rfl : args = #[v0, v1, v2] := by cases args; simp_all
  obtain ⟨rfl, rfl⟩ := trodVars_none hV
  obtain ⟨a0, rfl, rfl, rfl, w0⟩ := open_int Try.underlying3 (hval 0 3 v0 rfl rfl) h0
  obtain ⟨a1, rfl, rfl, rfl, w1⟩ := open_int Try.underlying3 (hval 1 3 v1 rfl rfl) h1
  obtain ⟨a2, rfl, rfl, rfl, w2⟩ := open_int Try.underlying3 (hval 2 3 v2 rfl rfl) h2
  clear hA0 hval0
  simp only [List.append_nil] at hW'
  refine (walk (w := W) a0 (i64_of_wf w0) a1 (i64_of_wf w1) a2 (i64_of_wf w2)).mono fun e W' hi => ?_
  obtain ⟨he, hb⟩ := hi.below
  subst he
  exact ⟨_, rfl, _, _, _, [], _, [], hW', (trodAll_cons_mk (shut_bool Try.underlying4 _) trodAll_mk0), (trodAll_cons_mk (shut_int Try.underlying3 w0) (trodAll_cons_mk (shut_int Try.underlying3 w1) (trodAll_cons_mk (shut_int Try.underlying3 w2) trodAll_mk0))), rfl, hb.frame _, fun h => by cases h⟩

theorem over : Rows.groupMembersRow.holds Try.pinned (OpenSpec.ofChange Rows.groupMembersSpec) :=
  OpenClaim.holds_of_wide 4 Try.f4 rfl rfl rfl rfl rfl rfl rfl ⟨rfl, rfl, rfl, rfl, rfl⟩ rfl rfl rfl rfl rfl (by kernel_rfl) Try.func4 (by kernel_rfl)
    (of_decide_eq_true (by kernel_rfl)) (by unfold Func.isWrapper; first | (rw [if_pos (by decide +kernel)]; kernel_rfl) | (rw [if_neg (by decide +kernel)]; exact ⟨rfl, rfl⟩))
    (fun os started H enc _ => lifted os started H enc)

theorem proved : Rows.GroupMembersSaid := over
end Go.Proofs.Ytifkcnmdfeklmaa.groupMembers
