/- The statement SpanOrders: Within is reflexive, transitive and antisymmetric, Add and Join do not depend on the order, and for right spans Within says that every integer of one is in the other. Conditions: none. -/
import Derived.Test.YtecnonmcmdaopaaSpOrdA
import Derived.Test.YtecnonmcmdaopaaSpOrdB
import Derived.Test.YtecnonmcmdaopaaSpOrdC
import Derived.Test.YtecnonmcmdaopaaSpOrdD
import Derived.Test.YtecnonmcmdaopaaSpOrdE
namespace Go.Proofs.Ytecnonmcmdaopaa.spanOrders
open Go.ChangeShapes Go.WideShapes Go.ChangeAt Go.RowKit Go.Joins Go.Deep Sp
set_option linter.unusedVariables false
set_option maxRecDepth 100000
theorem walk (a0 a1 : Int) (wa0 : I64 a0) (wa1 : I64 a1) (b0 b1 : Int) (wb0 : I64 b0) (wb1 : I64 b1) (c0 c1 : Int) (wc0 : I64 c0) (wc1 : I64 c1) (n : Int) (wn : I64 n) (w : World) : Calls Try.prog 7 #[sp a0 a1, sp b0 b1, sp c0 c1, .int .i64 n] w (IsTrue w) := by
  cases hab : decide (b0 ≤ a0 ∧ a1 ≤ b1) with
  | false => exact walkA a0 a1 wa0 wa1 b0 b1 wb0 wb1 c0 c1 wc0 wc1 n wn w hab
  | true =>
    cases hbc : decide (c0 ≤ b0 ∧ b1 ≤ c1) with
    | false =>
      cases hba : decide (a0 ≤ b0 ∧ b1 ≤ a1) with
      | false => exact walkB a0 a1 wa0 wa1 b0 b1 wb0 wb1 c0 c1 wc0 wc1 n wn w hab hbc hba
      | true => exact walkD a0 a1 wa0 wa1 b0 b1 wb0 wb1 c0 c1 wc0 wc1 n wn w hab hbc hba
    | true =>
      cases hba : decide (a0 ≤ b0 ∧ b1 ≤ a1) with
      | false => exact walkC a0 a1 wa0 wa1 b0 b1 wb0 wb1 c0 c1 wc0 wc1 n wn w hab hbc hba
      | true => exact walkE a0 a1 wa0 wa1 b0 b1 wb0 wb1 c0 c1 wc0 wc1 n wn w hab hbc hba
set_option maxRecDepth 100000 in
theorem lifted (os : Os) (started : os.Started) (H : Type) (enc : TypeId × Value → H) :
    ReturnsInHanded {} Try.checked os 7 .any (Rows.spanOrdersSpec.pre6 enc Try.prog Try.f7 Rows.spanOrdersRow.domain false) (Rows.spanOrdersSpec.post enc Try.prog Try.f7 false true false false) := by
  refine returnsInHanded_of_change_sized (C := Try.checked) own started (by kernel_rfl) Try.func7
    (ChangeSpec.witness6 (enc := enc) (C := Try.checked) false ⟨#[], #[.agg #[.int .i64 0, .int .i64 0], .agg #[.int .i64 0, .int .i64 0], .agg #[.int .i64 0, .int .i64 0], .int .i64 0], []⟩ 8 (by kernel_rfl) (by kernel_rfl) (by kernel_rfl) (by kernel_rfl)) ?_
  intro W base args ds gs before hval0 hW hcnd hsz0 _
  have hval : ∀ (j : Nat) t v, Try.f7.params[j]? = some t → args[j]? = some v → Value.okWide Try.prog W .any base t v := hval0
  have hW' := hW
  obtain ⟨p, q, hA0, hV, rfl, hfz, hnd⟩ := hW
  have hA : DataW.TrodAll enc Try.prog W 0 (fun _ => true) true Try.f7.params.toList args.toList ds p := hA0
  rw [Try.params7] at hA hval
  obtain ⟨v0, vs0, d0, ds0, p0, q0, hargs, rfl, rfl, h0, r0⟩ := trodAll_cons hA
  obtain ⟨v1, vs1, d1, ds1, p1, q1, rfl, rfl, rfl, h1, r1⟩ := trodAll_cons r0
  obtain ⟨v2, vs2, d2, ds2, p2, q2, rfl, rfl, rfl, h2, r2⟩ := trodAll_cons r1
  obtain ⟨v3, vs3, d3, ds3, p3, q3, rfl, rfl, rfl, h3, r3⟩ := trodAll_cons r2
  obtain ⟨rfl, rfl, rfl⟩ := trodAll_nil r3
  obtain rfl : args = #[v0, v1, v2, v3] := by cases args; simp_all
  obtain ⟨rfl, rfl⟩ := trodVars_none hV
  obtain ⟨y0, m0, rfl, wy0, wm0, rfl, t0⟩ := open_span (hval 0 23 v0 rfl rfl) h0
  obtain ⟨y1, m1, rfl, wy1, wm1, rfl, t1⟩ := open_span (hval 1 23 v1 rfl rfl) h1
  obtain ⟨y2, m2, rfl, wy2, wm2, rfl, t2⟩ := open_span (hval 2 23 v2 rfl rfl) h2
  obtain ⟨a3, rfl, rfl, rfl, w3⟩ := open_int Try.underlying3 (hval 3 3 v3 rfl rfl) h3
  clear hA0 hval0
  simp only [List.append_nil] at hW'
  refine (walk y0 m0 wy0 wm0 y1 m1 wy1 wm1 y2 m2 wy2 wm2 a3 (i64_of_wf w3) W).mono fun e W' ⟨he, hb⟩ => ?_
  subst he
  exact ⟨_, rfl, _, _, _, [], _, [], hW', (trodAll_cons_mk (shut_bool Try.underlying4 _) trodAll_mk0), (trodAll_cons_mk (t0 _ _ _ _) (trodAll_cons_mk (t1 _ _ _ _) (trodAll_cons_mk (t2 _ _ _ _) (trodAll_cons_mk (shut_int Try.underlying3 w3) trodAll_mk0)))), rfl, hb.frame _, fun h => by cases h⟩
theorem over : Rows.spanOrdersRow.holds Try.pinned (OpenSpec.ofChange Rows.spanOrdersSpec) :=
  OpenClaim.holds_of_wide 7 Try.f7 rfl rfl rfl rfl rfl rfl rfl ⟨rfl, rfl, rfl, rfl, rfl⟩ rfl rfl rfl rfl rfl (by kernel_rfl) Try.func7 (by kernel_rfl)
    (of_decide_eq_true (by kernel_rfl)) (by unfold Func.isWrapper; first | (rw [if_pos (by decide +kernel)]; kernel_rfl) | (rw [if_neg (by decide +kernel)]; exact ⟨rfl, rfl⟩))
    (fun os started H enc _ => lifted os started H enc)
theorem proved : Rows.SpanOrdersSaid := over
end Go.Proofs.Ytecnonmcmdaopaa.spanOrders
