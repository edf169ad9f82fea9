/- The statement ExactLimits: for every three ints the limited sums and differences are commutative, monotonic, and undone inside the limits, and Clamp stays between its limits. Conditions: none. -/
import Derived.Test.YtbpibdjmffhmpaaOpen
import Derived.Deep.DeepCutAuto
import Derived.OpenShut
import Derived.SizedLaws
import Derived.ProofKit
namespace Go.Proofs.Ytbpibdjmffhmpaa.exactLimits
open Go.ChangeShapes Go.WideShapes Go.ChangeAt Go.RowKit
open Go.Proofs.Ytbpibdjmffhmpaa

set_option maxHeartbeats 1600000 in
set_option maxRecDepth 100000 in
theorem walk (a : Int) (ha : I64 a) (b : Int) (hb : I64 b) (c : Int) (hc : I64 c) (w : World) : Calls Try.prog 8 #[.int .i64 a, .int .i64 b, .int .i64 c] w (IsTrue w) := by
  have ls := lim_bd (a + b)
  have ld := lim_bd (a - b)
  have c1 := fun W => add_any a b ha hb W
  have c2 := fun W => sub_any a b ha hb W
  have c3 := fun W => add_any b a hb ha W
  have c4 := fun W => add_any a 0 ha (i64c (by decide)) W
  have c5 := fun W => sub_any a 0 ha (i64c (by decide)) W
  have c6 := fun W => sub_any a a ha ha W
  rw [Int.add_comm b a] at c3
  rw [Int.add_zero, lim_in ha] at c4
  rw [Int.sub_zero, lim_in ha] at c5
  rw [Int.sub_self, lim_in (i64c (by decide))] at c6
  have f1 : 0 ≤ b → a ≤ lim (a + b) := fun h => by unfold lim; unfold I64 at ha; (repeat' split) <;> omega
  have f2 : b ≤ 0 → lim (a + b) ≤ a := fun h => by unfold lim; unfold I64 at ha; (repeat' split) <;> omega
  have f3 : 0 ≤ b → lim (a - b) ≤ a := fun h => by unfold lim; unfold I64 at ha; (repeat' split) <;> omega
  have f4 : b ≤ 0 → a ≤ lim (a - b) := fun h => by unfold lim; unfold I64 at ha; (repeat' split) <;> omega
  have f5 : lim (a + b) ≠ 9223372036854775807 → lim (a + b) ≠ -9223372036854775808 → lim (a + b) = a + b := by unfold lim; (repeat' split) <;> omega
  generalize hs : lim (a + b) = s at *
  generalize hd : lim (a - b) = d at *
  have C1 := Lib.hid c1
  have C2 := Lib.hid c2
  have C3 := Lib.hid c3
  have C4 := Lib.hid c4
  have C5 := Lib.hid c5
  have C6 := Lib.hid c6
  have F1 := Lib.hid f1
  have F2 := Lib.hid f2
  have F3 := Lib.hid f3
  have F4 := Lib.hid f4
  have F5 := Lib.hid f5
  have HS := Lib.hid hs
  have HD := Lib.hid hd
  clear c1 c2 c3 c4 c5 c6 f1 f2 f3 f4 f5 hs hd
  go_enter Try.func8, Try.ntmps8
  go_wp2_with fail
  refine (small_any _).mono ?_
  rintro e w1 ⟨rfl, hbel⟩
  have HBEL := Lib.hid hbel
  clear hbel
  go_wp2_with fail
  refine (C1.out _).mono ?_
  rintro e w' ⟨rfl, rfl⟩
  go_wp2_with fail
  refine (C2.out _).mono ?_
  rintro e w' ⟨rfl, rfl⟩
  go_wp2_with fail
  refine (C3.out _).mono ?_
  rintro e w' ⟨rfl, rfl⟩
  have e1 : (s == s) = true := by simp
  go_wp2_with fail
  refine (C4.out _).mono ?_
  rintro e w' ⟨rfl, rfl⟩
  have e2 : (a == a) = true := by simp
  go_wp2_with fail
  refine (C5.out _).mono ?_
  rintro e w' ⟨rfl, rfl⟩
  go_wp2_with fail
  refine (C6.out _).mono ?_
  rintro e w' ⟨rfl, rfl⟩
  go_upto_region 5 with fail
  go_cut [11] (fun v wc => v = .bool true ∧ w1 = wc)
  case first =>
    by_cases h1 : b < 0
    · have d1 : decide (b < 0) = true := decide_eq_true h1
      have d2 : decide (0 < b) = false := decide_eq_false (by omega)
      have d3 : decide (s ≤ a) = true := decide_eq_true (F2.out (by omega))
      have d4 : decide (a ≤ d) = true := decide_eq_true (F4.out (by omega))
      go_wp2_with fail
      go_meet
      exact ⟨rfl, rfl⟩
    · have d1 : decide (b < 0) = false := decide_eq_false h1
      have d3 : decide (a ≤ s) = true := decide_eq_true (F1.out (by omega))
      have d4 : decide (d ≤ a) = true := decide_eq_true (F3.out (by omega))
      by_cases h2 : 0 < b
      · have d2 : decide (0 < b) = true := decide_eq_true h2
        go_wp2_with fail
        go_meet
        exact ⟨rfl, rfl⟩
      · have d2 : decide (0 < b) = false := decide_eq_false h2
        have d5 : decide (s ≤ a) = true := decide_eq_true (F2.out (by omega))
        have d6 : decide (a ≤ d) = true := decide_eq_true (F4.out (by omega))
        go_wp2_with fail
        go_meet
        exact ⟨rfl, rfl⟩
  case rest =>
    obtain ⟨rfl, rfl⟩ := hcut
    go_upto_region 6 with fail
    go_cut [12] (fun v wc => v = .bool true ∧ w1 = wc)
    case first =>
      by_cases h1 : s = 9223372036854775807
      · have d1 : (s == 9223372036854775807) = true := beq_iff_eq.2 h1
        clear h1
        go_wp2_with fail
        go_meet
        exact ⟨rfl, rfl⟩
      · have d1 : (s == 9223372036854775807) = false := beq_eq_false_iff_ne.2 h1
        by_cases h2 : s = -9223372036854775808
        · have d2 : (s == -9223372036854775808) = true := beq_iff_eq.2 h2
          clear h1 h2
          go_wp2_with fail
          go_meet
          exact ⟨rfl, rfl⟩
        · have d2 : (s == -9223372036854775808) = false := beq_eq_false_iff_ne.2 h2
          have h3 := F5.out h1 h2
          have c7 := fun W => sub_any s b ls hb W
          have c8 := fun W => sub_any s a ls ha W
          rw [show s - b = a by omega, lim_in ha] at c7
          rw [show s - a = b by omega, lim_in hb] at c8
          have C7 := Lib.hid c7
          have C8 := Lib.hid c8
          have e3 : (b == b) = true := by simp
          clear h1 h2 h3 c7 c8
          go_wp2_with fail
          refine (C7.out _).mono ?_
          rintro e w' ⟨rfl, rfl⟩
          go_wp2_with fail
          refine (C8.out _).mono ?_
          rintro e w' ⟨rfl, rfl⟩
          go_wp2_with fail
          go_meet
          exact ⟨rfl, rfl⟩
    case rest =>
      obtain ⟨rfl, rfl⟩ := hcut
      go_upto_region 7 with fail
      go_cut [13] (fun v wc => v = .bool true ∧ w1 = wc)
      case first =>
        by_cases h1 : c < a
        · have d1 : decide (c < a) = true := decide_eq_true h1
          go_wp2_with fail
          go_meet
          exact ⟨rfl, rfl⟩
        · have d1 : decide (c < a) = false := decide_eq_false h1
          have c7 := fun W => add_any c b hc hb W
          have c8 := fun W => sub_any c b hc hb W
          have g1 : s ≤ lim (c + b) := by rw [← HS.out]; unfold lim; (repeat' split) <;> omega
          have g2 : d ≤ lim (c - b) := by rw [← HD.out]; unfold lim; (repeat' split) <;> omega
          generalize lim (c + b) = s2 at *
          generalize lim (c - b) = d2 at *
          have e1 : decide (s ≤ s2) = true := decide_eq_true g1
          have e2 : decide (d ≤ d2) = true := decide_eq_true g2
          have C7 := Lib.hid c7
          have C8 := Lib.hid c8
          clear c7 c8
          go_wp2_with fail
          refine (C1.out _).mono ?_
          rintro e w' ⟨rfl, rfl⟩
          go_wp2_with fail
          refine (C7.out _).mono ?_
          rintro e w' ⟨rfl, rfl⟩
          go_wp2_with fail
          refine (C2.out _).mono ?_
          rintro e w' ⟨rfl, rfl⟩
          go_wp2_with fail
          refine (C8.out _).mono ?_
          rintro e w' ⟨rfl, rfl⟩
          go_wp2_with fail
          go_meet
          exact ⟨rfl, rfl⟩
      case rest =>
        obtain ⟨rfl, rfl⟩ := hcut
        go_wp2_with fail
        refine (clamp_any c a b _).mono ?_
        rintro e w' ⟨rfl, rfl⟩
        have c9 := fun W => clamp_any (clampV c a b) a b W
        have k1 : a ≤ b → a ≤ clampV c a b ∧ clampV c a b ≤ b ∧ clampV (clampV c a b) a b = clampV c a b ∧ (a ≤ c → c ≤ b → clampV c a b = c) := fun h => by
          unfold clampV; (repeat' split) <;> omega
        generalize hx : clampV c a b = x at *
        have HX := Lib.hid hx
        have C9 := Lib.hid c9
        have K1 := Lib.hid k1
        clear hx c9 k1
        go_upto_region 9 with fail
        go_cut [15] (fun v wc => v = .bool true ∧ w1 = wc)
        case first =>
          by_cases h1 : b < a
          · have d1 : decide (b < a) = true := decide_eq_true h1
            go_wp2_with fail
            go_meet
            exact ⟨rfl, rfl⟩
          · have d1 : decide (b < a) = false := decide_eq_false h1
            obtain ⟨k2, k3, k4, k5⟩ := K1.out (by omega)
            have d2 : decide (a ≤ x) = true := decide_eq_true k2
            have d3 : decide (x ≤ b) = true := decide_eq_true k3
            have e3 : (x == x) = true := by simp
            have c10 := fun W => (C9.out W)
            rw [k4] at c10
            have C10 := Lib.hid c10
            have K5 := Lib.hid k5
            clear c10 k4 k5
            by_cases h2 : c < a
            · have d4 : decide (c < a) = true := decide_eq_true h2
              go_wp2_with fail
              refine (C10.out _).mono ?_
              rintro e w' ⟨rfl, rfl⟩
              go_wp2_with fail
              go_meet
              exact ⟨rfl, rfl⟩
            · have d4 : decide (c < a) = false := decide_eq_false h2
              by_cases h3 : b < c
              · have d5 : decide (b < c) = true := decide_eq_true h3
                go_wp2_with fail
                refine (C10.out _).mono ?_
                rintro e w' ⟨rfl, rfl⟩
                go_wp2_with fail
                go_meet
                exact ⟨rfl, rfl⟩
              · have d5 : decide (b < c) = false := decide_eq_false h3
                have d6 : (x == c) = true := beq_iff_eq.2 (K5.out (by omega) (by omega))
                go_wp2_with fail
                refine (C10.out _).mono ?_
                rintro e w' ⟨rfl, rfl⟩
                go_wp2_with fail
                go_meet
                exact ⟨rfl, rfl⟩
        case rest =>
          obtain ⟨rfl, rfl⟩ := hcut
          go_wp2_with fail
          go_ret
          exact ⟨rfl, HBEL.out⟩
theorem own : ownKnob Try.prog.godebug = none := by kernel_rfl
theorem laidOut : laidOutB Try.prog = true := by kernel_rfl

set_option maxRecDepth 100000 in
theorem lifted (os : Os) (started : os.Started) (H : Type) (enc : TypeId × Value → H) :
    ReturnsInHanded {} Try.checked os 8 .any (Rows.exactLimitsSpec.pre6 enc Try.prog Try.f8 Rows.exactLimitsRow.domain false) (Rows.exactLimitsSpec.post enc Try.prog Try.f8 false true false false) := by
  refine returnsInHanded_of_change_sized (C := Try.checked) own started (by kernel_rfl) Try.func8
    (ChangeSpec.witness6 (enc := enc) (C := Try.checked) false ⟨#[], #[.int .i64 0, .int .i64 0, .int .i64 0], []⟩ 8 (by kernel_rfl) (by kernel_rfl) (by kernel_rfl) (by kernel_rfl)) ?_
  intro W base args ds gs before hval0 hW hcnd hsz0 _
  have hsz : (DataW.weightsEach Try.prog (Try.f8.params.toList ++ Rows.exactLimitsSpec.plain.varTypes Try.prog) (ds ++ gs)).all (· ≤ reachBytes) = true := hsz0
  clear hsz0
  have hval : ∀ (j : Nat) t v, Try.f8.params[j]? = some t → args[j]? = some v → Value.okWide Try.prog W .any base t v := hval0
  have hW' := hW
  obtain ⟨p, q, hA0, hV, rfl, hfz, hnd⟩ := hW
  have hA : DataW.TrodAll enc Try.prog W 0 (fun _ => true) true Try.f8.params.toList args.toList ds p := hA0
  rw [Try.params8] at hA hval hsz
  obtain ⟨v0, vs0, d0, ds0, p0, q0, hargs, rfl, rfl, h0, r0⟩ := trodAll_cons hA
  obtain ⟨v1, vs1, d1, ds1, p1, q1, rfl, rfl, rfl, h1, r1⟩ := trodAll_cons r0
  obtain ⟨v2, vs2, d2, ds2, p2, q2, rfl, rfl, rfl, h2, r2⟩ := trodAll_cons r1
  obtain ⟨rfl, rfl, rfl⟩ := trodAll_nil r2
  obtain rfl : args = #[v0, v1, v2] := by cases args; simp_all
  obtain ⟨rfl, rfl⟩ := trodVars_none hV
  obtain ⟨a0, rfl, rfl, rfl, w0⟩ := open_int Try.underlying3 (hval 0 3 v0 rfl rfl) h0
  obtain ⟨a1, rfl, rfl, rfl, w1⟩ := open_int Try.underlying3 (hval 1 3 v1 rfl rfl) h1
  obtain ⟨a2, rfl, rfl, rfl, w2⟩ := open_int Try.underlying3 (hval 2 3 v2 rfl rfl) h2
  clear hA0 hval0
  simp only [List.append_nil] at hW'
  refine (walk a0 (i64_of_wf w0) a1 (i64_of_wf w1) a2 (i64_of_wf w2) W).mono fun e W' ⟨he, hb⟩ => ?_
  subst he
  exact ⟨_, rfl, _, _, _, [], _, [], hW', (trodAll_cons_mk (shut_bool Try.underlying4 _) trodAll_mk0), (trodAll_cons_mk (shut_int Try.underlying3 w0) (trodAll_cons_mk (shut_int Try.underlying3 w1) (trodAll_cons_mk (shut_int Try.underlying3 w2) trodAll_mk0))), rfl, hb.frame _, fun h => by cases h⟩

theorem over : Rows.exactLimitsRow.holds Try.pinned (OpenSpec.ofChange Rows.exactLimitsSpec) :=
  OpenClaim.holds_of_wide 8 Try.f8 rfl rfl rfl rfl rfl rfl rfl ⟨rfl, rfl, rfl, rfl, rfl⟩ rfl rfl rfl rfl rfl (by kernel_rfl) Try.func8 (by kernel_rfl)
    (of_decide_eq_true (by kernel_rfl)) (by unfold Func.isWrapper; first | (rw [if_pos (by decide +kernel)]; kernel_rfl) | (rw [if_neg (by decide +kernel)]; exact ⟨rfl, rfl⟩))
    (fun os started H enc _ => lifted os started H enc)

theorem proved : Rows.ExactLimitsSaid := over
end Go.Proofs.Ytbpibdjmffhmpaa.exactLimits
