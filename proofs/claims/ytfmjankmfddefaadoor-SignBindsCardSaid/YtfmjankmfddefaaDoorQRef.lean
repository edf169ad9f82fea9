/- The reference's functions of layer 4: sums, differences and products of residues, powers, inverses by Euclid's algorithm, and membership. Conditions: exponents are ints. -/
import Derived.Test.YtfmjankmfddefaaDoorQTimes
import Derived.Test.YtfmjankmfddefaaDoorQExp
namespace Go.Proofs.YtfmjankmfddefaaDoor.Gp
set_option linter.unusedVariables false
open Go.RowKit Grp

theorem rmodq_any (a : Int) (w : World) : Calls Tryd.prog 49 #[.int .i64 a, .int .i64 1152921504606845789] w fun e w' => e = .returned (.int .i64 (rq a)) ∧ w' = w := refmod_any a _ (by decide) (by decide) w
theorem rmodp_any (a : Int) (w : World) : Calls Tryd.prog 49 #[.int .i64 a, .int .i64 2305843009213691579] w fun e w' => e = .returned (.int .i64 (rp a)) ∧ w' = w := refmod_any a _ (by decide) (by decide) w
theorem timesp_any (a b : Int) (ha : 0 ≤ a ∧ a < 2305843009213691579) (hb : 0 ≤ b) (w : World) :
    Calls Tryd.prog 50 #[.int .i64 a, .int .i64 b, .int .i64 2305843009213691579] w fun e w' => e = .returned (.int .i64 (mu a b)) ∧ w' = w := times_any a b _ (by decide) ha hb w
theorem timesq_any (a b : Int) (ha : 0 ≤ a ∧ a < 1152921504606845789) (hb : 0 ≤ b) (w : World) :
    Calls Tryd.prog 50 #[.int .i64 a, .int .i64 b, .int .i64 1152921504606845789] w fun e w' => e = .returned (.int .i64 (rq (a * b))) ∧ w' = w := times_any a b _ (by decide) ha hb w
theorem rmul_any (a b : Int) (w : World) : Calls Tryd.prog 41 #[.int .i64 a, .int .i64 b] w fun e w' => e = .returned (.int .i64 (mu a b)) ∧ w' = w := by
  have h := fun W => timesp_any (rp a) (rp b) (rp_bd a) (rp_bd b).1 W
  rw [mu_rp, mu_rp'] at h
  have H := Lib.hid h
  clear h
  go_enter Tryd.func41, Tryd.ntmps41
  go_wp2_with fail
  refine (rmodp_any _ _).mono ?_
  rintro e w' ⟨rfl, rfl⟩
  go_wp2_with fail
  refine (rmodp_any _ _).mono ?_
  rintro e w' ⟨rfl, rfl⟩
  go_wp2_with fail
  refine (H.out _).mono ?_
  rintro e w' ⟨rfl, rfl⟩
  go_wp2_with fail
  go_ret
  exact ⟨rfl, rfl⟩
theorem rmulq_any (a b : Int) (w : World) : Calls Tryd.prog 39 #[.int .i64 a, .int .i64 b] w fun e w' => e = .returned (.int .i64 (rq (a * b))) ∧ w' = w := by
  have h := fun W => timesq_any (rq a) (rq b) (rq_bd a) (rq_bd b).1 W
  rw [show rq (rq a * rq b) = rq (a * b) from (Int.mul_emod a b _).symm] at h
  have H := Lib.hid h
  clear h
  go_enter Tryd.func39, Tryd.ntmps39
  go_wp2_with fail
  refine (rmodq_any _ _).mono ?_
  rintro e w' ⟨rfl, rfl⟩
  go_wp2_with fail
  refine (rmodq_any _ _).mono ?_
  rintro e w' ⟨rfl, rfl⟩
  go_wp2_with fail
  refine (H.out _).mono ?_
  rintro e w' ⟨rfl, rfl⟩
  go_wp2_with fail
  go_ret
  exact ⟨rfl, rfl⟩
theorem raddq_any (a b : Int) (w : World) : Calls Tryd.prog 38 #[.int .i64 a, .int .i64 b] w fun e w' => e = .returned (.int .i64 (rq (a + b))) ∧ w' = w := by
  have e1 : wrap64 (rq a + rq b) = rq a + rq b := w64 (by have := rq_bd a; have := rq_bd b; omega) (by have := rq_bd a; have := rq_bd b; omega)
  have e2 : rq (rq a + rq b) = rq (a + b) := by unfold rq; omega
  have E2 := Lib.hid e2
  clear e2
  go_enter Tryd.func38, Tryd.ntmps38
  go_wp2_with (go_at_call 49; refine (rmodq_any _ _).mono ?_; rintro e w' ⟨rfl, rfl⟩)
  go_ret
  exact ⟨ret_i E2.out, rfl⟩
/-- what the loop of the reference's Exp keeps -/
def Ep (z x b : Int) (E : Nat) : Prop := 0 ≤ x ∧ x < 2305843009213691579 ∧ 0 ≤ b ∧ b < 2305843009213691579 ∧ mu x (ex b E) = z
theorem ep_half (b : Int) (E : Nat) : ex (mu b b) (E / 2) = ex b (2 * (E / 2)) := by rw [← ex_two, ex_ex]
theorem ep_even {z x b : Int} {E : Nat} (h : Ep z x b E) (he : E % 2 = 0) : Ep z x (mu b b) (E / 2) := by
  obtain ⟨h1, h2, h3, h4, h5⟩ := h
  refine ⟨h1, h2, (mu_bd b b).1, (mu_bd b b).2, ?_⟩
  rw [ep_half, show 2 * (E / 2) = E by omega]
  exact h5
theorem ep_odd {z x b : Int} {E : Nat} (h : Ep z x b E) (he : E % 2 = 1) : Ep z (mu x b) (mu b b) (E / 2) := by
  obtain ⟨h1, h2, h3, h4, h5⟩ := h
  refine ⟨(mu_bd x b).1, (mu_bd x b).2, (mu_bd b b).1, (mu_bd b b).2, ?_⟩
  rw [ep_half, mu_assoc, mu_comm b, ← ex_succ, show 2 * (E / 2) + 1 = E by omega]
  exact h5
theorem ep_end {z x b : Int} (h : Ep z x b 0) : x = z := by
  obtain ⟨h1, h2, h3, h4, h5⟩ := h
  rw [ex_zero, mu_one, rp_of h1 h2] at h5
  exact h5
theorem ep_start (a : Int) (E : Nat) : Ep (ex a E) 1 (rp a) E := ⟨by decide, by decide, (rp_bd a).1, (rp_bd a).2, by rw [ex_rp, one_mu, rp_ex]⟩

set_option maxHeartbeats 1600000 in
theorem rexp_walk (a e z : Int) (E : Nat) (hE : (if e < 0 then rq e else e) = (E : Int)) (hz : ex a E = z) (hlt : E < 9223372036854775808) (w : World) :
    Calls Tryd.prog 32 #[.int .i64 a, .int .i64 e] w fun x w' => x = .returned (.int .i64 z) ∧ w' = w := by
  have hs := ep_start a E
  rw [hz] at hs
  have HS := Lib.hid hs
  have HLT := Lib.hid hlt
  clear hs hz hlt
  go_enter Tryd.func32, Tryd.ntmps32
  by_cases h : e < 0
  case' pos =>
    rw [if_pos h] at hE
    have HE := Lib.hid hE
    clear hE
    go_wp2_with fail
    refine (rmodq_any _ _).mono ?_
    rintro x w' ⟨rfl, rfl⟩
    rw [HE.out]
    go_wp2_with fail
  case' neg =>
    rw [if_neg h] at hE
    subst hE
    go_wp2_with fail
  all_goals
    refine (rmodp_any _ _).mono ?_
    rintro x w' ⟨rfl, rfl⟩
    go_wp2_with fail
    go_loop [1, 5, 6] (fun v x b => ∃ (N : Nat) (X B : Int), v = .int .i64 N ∧ x = .int .i64 X ∧ b = .int .i64 B ∧ Hid (N ≤ E) ∧ Hid (Ep z X B N)) (fun v _ _ => (intOf v).toNat)
    case atStart => exact ⟨E, 1, rp a, rfl, rfl, rfl, Lib.hid (Nat.le_refl _), HS⟩
    case round =>
      obtain ⟨N, X, B, rfl, rfl, rfl, HNE, HI⟩ := hrel
      by_cases hN : 0 < N
      · have h2 : N % 2 = 0 ∨ N % 2 = 1 := by omega
        have hq : Int.tdiv (N : Int) 2 = ((N / 2 : Nat) : Int) := by rw [Int.tdiv_eq_ediv_of_nonneg (by omega)]; rfl
        have hm : Int.tmod (N : Int) 2 = ((N % 2 : Nat) : Int) := by rw [Int.tmod_eq_emod_of_nonneg (by omega)]; rfl
        have HB := Lib.hid (timesp_any B B ⟨HI.out.2.2.1, HI.out.2.2.2.1⟩ HI.out.2.2.1)
        have HN := Lib.hid (show N / 2 < N by omega)
        have HM := Lib.hid (show N / 2 ≤ E by have := HNE.out; omega)
        have HQ := Lib.hid (show wrap64 ((N / 2 : Nat) : Int) = ((N / 2 : Nat) : Int) by have := HNE.out; have := HLT.out; unfold wrap64; omega)
        rcases h2 with h2 | h2
        · have HN0 := Lib.hid (ep_even HI.out h2)
          rw [h2] at hm
          clear h2
          generalize N / 2 = M at *
          go_wp2_with fail
          refine (HB.out _).mono ?_
          rintro x w2 ⟨rfl, rfl⟩
          go_wp2_with fail
          clear hq hm
          go_round
          case rel => exact ⟨M, X, mu B B, ret_i0 HQ.out.symm, rfl, rfl, HM, HN0⟩
          case measure => rw [HQ.out]; exact HN.out
        · have HN0 := Lib.hid (ep_odd HI.out h2)
          have HX := Lib.hid (timesp_any X B ⟨HI.out.1, HI.out.2.1⟩ HI.out.2.2.1)
          rw [h2] at hm
          clear h2
          generalize N / 2 = M at *
          go_wp2_with fail
          refine (HX.out _).mono ?_
          rintro x w2 ⟨rfl, rfl⟩
          go_wp2_with fail
          refine (HB.out _).mono ?_
          rintro x w2 ⟨rfl, rfl⟩
          go_wp2_with fail
          clear hq hm
          go_round
          case rel => exact ⟨M, mu X B, mu B B, ret_i0 HQ.out.symm, rfl, rfl, HM, HN0⟩
          case measure => rw [HQ.out]; exact HN.out
      · obtain rfl : N = 0 := by omega
        have hx := ep_end HI.out
        clear HI
        subst hx
        go_wp2_with fail
        go_ret
        exact ⟨rfl, rfl⟩
theorem rexp_any (a e : Int) (he : I64 e) (w : World) : Calls Tryd.prog 32 #[.int .i64 a, .int .i64 e] w fun x w' => x = .returned (.int .i64 (xe a e)) ∧ w' = w := by
  have hE : (if e < 0 then rq e else e) = ((er e : Nat) : Int) := by unfold er rq; split <;> omega
  have hlt : er e < 9223372036854775808 := by unfold I64 at he; unfold er; split <;> omega
  exact rexp_walk a e _ _ hE rfl hlt w

theorem ret_b {a b : Bool} (h : a = b) : Ending.returned (.bool a) = .returned (.bool b) := by rw [h]
theorem i64q : I64 1152921504606845789 := ⟨by decide, by decide⟩
theorem rin_any (y : Int) (w : World) : Calls Tryd.prog 53 #[.int .i64 y] w fun e w' => e = .returned (.bool (inB y)) ∧ w' = w := by
  have h := fun W => rexp_any y 1152921504606845789 i64q W
  have H := Lib.hid h
  clear h
  by_cases h0 : 0 < y
  · by_cases h1 : y < 2305843009213691579
    · rw [inB_of h0 h1, ← xe_q]
      have d0 : decide (1 ≤ y) = true := decide_eq_true h0
      have d1 : decide (y < 2305843009213691579) = true := decide_eq_true h1
      clear h0 h1
      go_enter Tryd.func53, Tryd.ntmps53
      go_wp2_with fail
      refine (H.out _).mono ?_
      rintro e w' ⟨rfl, rfl⟩
      go_wp2_with fail
      go_ret
      exact ⟨rfl, rfl⟩
    · rw [inB_out (.inr (by omega))]
      have d0 : decide (1 ≤ y) = true := decide_eq_true h0
      have d1 : decide (y < 2305843009213691579) = false := decide_eq_false h1
      clear h0 h1
      go_enter Tryd.func53, Tryd.ntmps53
      go_wp2_with fail
      go_ret
      exact ⟨rfl, rfl⟩
  · rw [inB_out (.inl (by omega))]
    have d0 : decide (1 ≤ y) = false := decide_eq_false (by omega)
    clear h0
    go_enter Tryd.func53, Tryd.ntmps53
    go_wp2_with fail
    go_ret
    exact ⟨rfl, rfl⟩
end Go.Proofs.YtfmjankmfddefaaDoor.Gp
