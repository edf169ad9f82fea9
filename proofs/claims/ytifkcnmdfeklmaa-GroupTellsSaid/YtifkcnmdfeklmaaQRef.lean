/- The reference's functions of layer 4: sums, differences and products of residues, powers, inverses by Euclid's algorithm, and membership. Conditions: exponents are ints. -/
import Derived.Test.YtifkcnmdfeklmaaQTimes
import Derived.Test.YtifkcnmdfeklmaaQEuclid
import Derived.Test.YtifkcnmdfeklmaaQExp
namespace Go.Proofs.Ytifkcnmdfeklmaa
set_option linter.unusedVariables false
open Go.RowKit Grp

theorem rmodq_any (a : Int) (w : World) : Calls Try.prog 24 #[.int .i64 a, .int .i64 1152921504606845789] w fun e w' => e = .returned (.int .i64 (rq a)) ∧ w' = w := refmod_any a _ (by decide) (by decide) w
theorem rmodp_any (a : Int) (w : World) : Calls Try.prog 24 #[.int .i64 a, .int .i64 2305843009213691579] w fun e w' => e = .returned (.int .i64 (rp a)) ∧ w' = w := refmod_any a _ (by decide) (by decide) w
theorem timesp_any (a b : Int) (ha : 0 ≤ a ∧ a < 2305843009213691579) (hb : 0 ≤ b) (w : World) :
    Calls Try.prog 26 #[.int .i64 a, .int .i64 b, .int .i64 2305843009213691579] w fun e w' => e = .returned (.int .i64 (mu a b)) ∧ w' = w := times_any a b _ (by decide) ha hb w
theorem timesq_any (a b : Int) (ha : 0 ≤ a ∧ a < 1152921504606845789) (hb : 0 ≤ b) (w : World) :
    Calls Try.prog 26 #[.int .i64 a, .int .i64 b, .int .i64 1152921504606845789] w fun e w' => e = .returned (.int .i64 (rq (a * b))) ∧ w' = w := times_any a b _ (by decide) ha hb w
theorem rmul_any (a b : Int) (w : World) : Calls Try.prog 12 #[.int .i64 a, .int .i64 b] w fun e w' => e = .returned (.int .i64 (mu a b)) ∧ w' = w := by
  have h := fun W => timesp_any (rp a) (rp b) (rp_bd a) (rp_bd b).1 W
  rw [mu_rp, mu_rp'] at h
  have H := Lib.hid h
  clear h
  go_enter Try.func12, Try.ntmps12
  go_wp2_with fail
  refine (rmodp_any _ _).mono ?_
  rintro e w' ⟨rfl, rfl⟩
  go_wp2_with fail
  refine (rmodp_any _ _).mono ?_
  rintro e w' ⟨rfl, rfl⟩
  go_wp2_with fail
  refine (H.out _).mono ?_
  rintro e w' ⟨rfl, rfl⟩
  go_wp2_with fail
  go_ret
  exact ⟨rfl, rfl⟩
theorem rmulq_any (a b : Int) (w : World) : Calls Try.prog 22 #[.int .i64 a, .int .i64 b] w fun e w' => e = .returned (.int .i64 (rq (a * b))) ∧ w' = w := by
  have h := fun W => timesq_any (rq a) (rq b) (rq_bd a) (rq_bd b).1 W
  rw [show rq (rq a * rq b) = rq (a * b) from (Int.mul_emod a b _).symm] at h
  have H := Lib.hid h
  clear h
  go_enter Try.func22, Try.ntmps22
  go_wp2_with fail
  refine (rmodq_any _ _).mono ?_
  rintro e w' ⟨rfl, rfl⟩
  go_wp2_with fail
  refine (rmodq_any _ _).mono ?_
  rintro e w' ⟨rfl, rfl⟩
  go_wp2_with fail
  refine (H.out _).mono ?_
  rintro e w' ⟨rfl, rfl⟩
  go_wp2_with fail
  go_ret
  exact ⟨rfl, rfl⟩
theorem raddq_any (a b : Int) (w : World) : Calls Try.prog 18 #[.int .i64 a, .int .i64 b] w fun e w' => e = .returned (.int .i64 (rq (a + b))) ∧ w' = w := by
  have e1 : wrap64 (rq a + rq b) = rq a + rq b := w64 (by have := rq_bd a; have := rq_bd b; omega) (by have := rq_bd a; have := rq_bd b; omega)
  have e2 : rq (rq a + rq b) = rq (a + b) := by unfold rq; omega
  have E2 := Lib.hid e2
  clear e2
  go_enter Try.func18, Try.ntmps18
  go_wp2_with (go_at_call 24; refine (rmodq_any _ _).mono ?_; rintro e w' ⟨rfl, rfl⟩)
  go_ret
  exact ⟨ret_i E2.out, rfl⟩
theorem rsubq_any (a b : Int) (w : World) : Calls Try.prog 20 #[.int .i64 a, .int .i64 b] w fun e w' => e = .returned (.int .i64 (rq (a - b))) ∧ w' = w := by
  have e1 : wrap64 (rq a - rq b) = rq a - rq b := by have := rq_bd a; have := rq_bd b; unfold wrap64; omega
  have e2 : rq (rq a - rq b) = rq (a - b) := by unfold rq; omega
  have E2 := Lib.hid e2
  clear e2
  go_enter Try.func20, Try.ntmps20
  go_wp2_with (go_at_call 24; refine (rmodq_any _ _).mono ?_; rintro e w' ⟨rfl, rfl⟩)
  go_ret
  exact ⟨ret_i E2.out, rfl⟩

/-- what the loop of the reference's Exp keeps -/
def Ep (z x b : Int) (E : Nat) : Prop := 0 ≤ x ∧ x < 2305843009213691579 ∧ 0 ≤ b ∧ b < 2305843009213691579 ∧ mu x (ex b E) = z
theorem ep_half (b : Int) (E : Nat) : ex (mu b b) (E / 2) = ex b (2 * (E / 2)) := by rw [← ex_two, ex_ex]
theorem ep_even {z x b : Int} {E : Nat} (h : Ep z x b E) (he : E % 2 = 0) : Ep z x (mu b b) (E / 2) := by
  obtain ⟨h1, h2, h3, h4, h5⟩ := h
  refine ⟨h1, h2, (mu_bd b b).1, (mu_bd b b).2, ?_⟩
  rw [ep_half, show 2 * (E / 2) = E by omega]
  exact h5
theorem ep_odd {z x b : Int} {E : Nat} (h : Ep z x b E) (he : E % 2 = 1) : Ep z (mu x b) (mu b b) (E / 2) := by
  obtain ⟨h1, h2, h3, h4, h5⟩ := h
  refine ⟨(mu_bd x b).1, (mu_bd x b).2, (mu_bd b b).1, (mu_bd b b).2, ?_⟩
  rw [ep_half, mu_assoc, mu_comm b, ← ex_succ, show 2 * (E / 2) + 1 = E by omega]
  exact h5
theorem ep_end {z x b : Int} (h : Ep z x b 0) : x = z := by
  obtain ⟨h1, h2, h3, h4, h5⟩ := h
  rw [ex_zero, mu_one, rp_of h1 h2] at h5
  exact h5
theorem ep_start (a : Int) (E : Nat) : Ep (ex a E) 1 (rp a) E := ⟨by decide, by decide, (rp_bd a).1, (rp_bd a).2, by rw [ex_rp, one_mu, rp_ex]⟩

set_option maxHeartbeats 1600000 in
theorem rexp_walk (a e z : Int) (E : Nat) (hE : (if e < 0 then rq e else e) = (E : Int)) (hz : ex a E = z) (hlt : E < 9223372036854775808) (w : World) :
    Calls Try.prog 14 #[.int .i64 a, .int .i64 e] w fun x w' => x = .returned (.int .i64 z) ∧ w' = w := by
  have hs := ep_start a E
  rw [hz] at hs
  have HS := Lib.hid hs
  have HLT := Lib.hid hlt
  clear hs hz hlt
  go_enter Try.func14, Try.ntmps14
  by_cases h : e < 0
  case' pos =>
    rw [if_pos h] at hE
    have HE := Lib.hid hE
    clear hE
    go_wp2_with fail
    refine (rmodq_any _ _).mono ?_
    rintro x w' ⟨rfl, rfl⟩
    rw [HE.out]
    go_wp2_with fail
  case' neg =>
    rw [if_neg h] at hE
    subst hE
    go_wp2_with fail
  all_goals
    refine (rmodp_any _ _).mono ?_
    rintro x w' ⟨rfl, rfl⟩
    go_wp2_with fail
    go_loop [1, 5, 6] (fun v x b => ∃ (N : Nat) (X B : Int), v = .int .i64 N ∧ x = .int .i64 X ∧ b = .int .i64 B ∧ Hid (N ≤ E) ∧ Hid (Ep z X B N)) (fun v _ _ => (intOf v).toNat)
    case atStart => exact ⟨E, 1, rp a, rfl, rfl, rfl, Lib.hid (Nat.le_refl _), HS⟩
    case round =>
      obtain ⟨N, X, B, rfl, rfl, rfl, HNE, HI⟩ := hrel
      by_cases hN : 0 < N
      · have h2 : N % 2 = 0 ∨ N % 2 = 1 := by omega
        have hq : Int.tdiv (N : Int) 2 = ((N / 2 : Nat) : Int) := by rw [Int.tdiv_eq_ediv_of_nonneg (by omega)]; rfl
        have hm : Int.tmod (N : Int) 2 = ((N % 2 : Nat) : Int) := by rw [Int.tmod_eq_emod_of_nonneg (by omega)]; rfl
        have HB := Lib.hid (timesp_any B B ⟨HI.out.2.2.1, HI.out.2.2.2.1⟩ HI.out.2.2.1)
        have HN := Lib.hid (show N / 2 < N by omega)
        have HM := Lib.hid (show N / 2 ≤ E by have := HNE.out; omega)
        have HQ := Lib.hid (show wrap64 ((N / 2 : Nat) : Int) = ((N / 2 : Nat) : Int) by have := HNE.out; have := HLT.out; unfold wrap64; omega)
        rcases h2 with h2 | h2
        · have HN0 := Lib.hid (ep_even HI.out h2)
          rw [h2] at hm
          clear h2
          generalize N / 2 = M at *
          go_wp2_with fail
          refine (HB.out _).mono ?_
          rintro x w2 ⟨rfl, rfl⟩
          go_wp2_with fail
          clear hq hm
          go_round
          case rel => exact ⟨M, X, mu B B, ret_i0 HQ.out.symm, rfl, rfl, HM, HN0⟩
          case measure => rw [HQ.out]; exact HN.out
        · have HN0 := Lib.hid (ep_odd HI.out h2)
          have HX := Lib.hid (timesp_any X B ⟨HI.out.1, HI.out.2.1⟩ HI.out.2.2.1)
          rw [h2] at hm
          clear h2
          generalize N / 2 = M at *
          go_wp2_with fail
          refine (HX.out _).mono ?_
          rintro x w2 ⟨rfl, rfl⟩
          go_wp2_with fail
          refine (HB.out _).mono ?_
          rintro x w2 ⟨rfl, rfl⟩
          go_wp2_with fail
          clear hq hm
          go_round
          case rel => exact ⟨M, mu X B, mu B B, ret_i0 HQ.out.symm, rfl, rfl, HM, HN0⟩
          case measure => rw [HQ.out]; exact HN.out
      · obtain rfl : N = 0 := by omega
        have hx := ep_end HI.out
        clear HI
        subst hx
        go_wp2_with fail
        go_ret
        exact ⟨rfl, rfl⟩
theorem rexp_any (a e : Int) (he : I64 e) (w : World) : Calls Try.prog 14 #[.int .i64 a, .int .i64 e] w fun x w' => x = .returned (.int .i64 (xe a e)) ∧ w' = w := by
  have hE : (if e < 0 then rq e else e) = ((er e : Nat) : Int) := by unfold er rq; split <;> omega
  have hlt : er e < 9223372036854775808 := by unfold I64 at he; unfold er; split <;> omega
  exact rexp_walk a e _ _ hE rfl hlt w

theorem quo_fit {r s : Int} (h : 0 ≤ r) : Int.tdiv r s = r / s := Int.tdiv_eq_ediv_of_nonneg h
theorem w64b {x : Int} (h0 : -2305843009213691579 ≤ x) (h1 : x ≤ 2305843009213691579) : wrap64 x = x := by unfold wrap64; omega
set_option maxHeartbeats 1600000 in
theorem rinv_any (a : Int) (w : World) : Calls Try.prog 10 #[.int .i64 a] w fun x w' => x = .returned (.tuple #[.int .i64 (iv a), .bool (rp a != 0)]) ∧ w' = w := by
  by_cases hz : rp a = 0
  · rw [iv_zero hz, show (rp a != 0) = false by rw [hz]; rfl]
    go_enter Try.func10, Try.ntmps10
    go_wp2_with fail
    refine (rmodp_any _ _).mono ?_
    rintro x w' ⟨rfl, rfl⟩
    rw [hz]
    go_wp2_with fail
    go_ret2
    exact ⟨rfl, rfl⟩
  · have hs := eu_start rfl hz
    have hb : (rp a == 0) = false := beq_eq_false_iff_ne.2 hz
    have hb' : (rp a != 0) = true := bne_iff_ne.2 hz
    have HS := Lib.hid hs
    rw [hb']
    clear hs hz hb'
    go_enter Try.func10, Try.ntmps10
    go_wp2_with fail
    refine (rmodp_any _ _).mono ?_
    rintro x w' ⟨rfl, rfl⟩
    go_wp2_with fail
    go_loop [4, 5, 6, 7] (fun u v c d => ∃ R S X Y : Int, u = .int .i64 R ∧ v = .int .i64 S ∧ c = .int .i64 X ∧ d = .int .i64 Y ∧ Hid (Eu a R S X Y)) (fun _ v _ _ => (intOf v).toNat)
    case atStart => exact ⟨_, _, _, _, rfl, rfl, rfl, rfl, HS⟩
    case round =>
      obtain ⟨R, S, X, Y, rfl, rfl, rfl, rfl, HI⟩ := hrel
      by_cases hS : 0 < S
      · obtain ⟨b1, b2, b3, b4, b5, b6, b7, b8, b9, b10, b11, hE⟩ := eu_step HI.out hS
        have hq := quo_fit (r := R) (s := S) (by have := HI.out.1; omega)
        have w0 : wrap64 (R / S) = R / S := w64b (by omega) b2
        have w1 : wrap64 (R / S * S) = R / S * S := w64b (by omega) b4
        have w2 : wrap64 (R / S * Y) = R / S * Y := w64b b5 b6
        have w3 : wrap64 (R - R / S * S) = R - R / S * S := w64b (by omega) (by have := HI.out.2.2.2.1; omega)
        have w4 : wrap64 (X - R / S * Y) = X - R / S * Y := w64b b7 b8
        have HE := Lib.hid hE
        have W3 := Lib.hid w3
        have W4 := Lib.hid w4
        have HB := Lib.hid (show (R - R / S * S).toNat < S.toNat by omega)
        have hS0 : (S == 0) = false := beq_eq_false_iff_ne.2 (by omega)
        clear b1 b2 b3 b4 b5 b6 b7 b8 b9 b10 b11 hE
        go_wp2_with fail
        clear w0 w1 w2 w3 w4 hq hS0
        go_round
        case rel => exact ⟨S, _, Y, _, rfl, ret_i0 W3.out.symm, rfl, ret_i0 W4.out.symm, HE⟩
        case measure => rw [W3.out]; exact HB.out
      · have he := eu_end HI.out hS
        have hd : decide (0 < S) = false := decide_eq_false hS
        clear hS HI HS
        go_wp2_with fail
        refine (rmodp_any _ _).mono ?_
        rintro x w' ⟨rfl, rfl⟩
        rw [he]
        go_wp2_with fail
        go_ret2
        exact ⟨rfl, rfl⟩
theorem ret_b {a b : Bool} (h : a = b) : Ending.returned (.bool a) = .returned (.bool b) := by rw [h]
theorem i64q : I64 1152921504606845789 := ⟨by decide, by decide⟩
theorem rin_any (y : Int) (w : World) : Calls Try.prog 16 #[.int .i64 y] w fun e w' => e = .returned (.bool (inB y)) ∧ w' = w := by
  have h := fun W => rexp_any y 1152921504606845789 i64q W
  have H := Lib.hid h
  clear h
  by_cases h0 : 0 < y
  · by_cases h1 : y < 2305843009213691579
    · rw [inB_of h0 h1, ← xe_q]
      have d0 : decide (1 ≤ y) = true := decide_eq_true h0
      have d1 : decide (y < 2305843009213691579) = true := decide_eq_true h1
      clear h0 h1
      go_enter Try.func16, Try.ntmps16
      go_wp2_with fail
      refine (H.out _).mono ?_
      rintro e w' ⟨rfl, rfl⟩
      go_wp2_with fail
      go_ret
      exact ⟨rfl, rfl⟩
    · rw [inB_out (.inr (by omega))]
      have d0 : decide (1 ≤ y) = true := decide_eq_true h0
      have d1 : decide (y < 2305843009213691579) = false := decide_eq_false h1
      clear h0 h1
      go_enter Try.func16, Try.ntmps16
      go_wp2_with fail
      go_ret
      exact ⟨rfl, rfl⟩
  · rw [inB_out (.inl (by omega))]
    have d0 : decide (1 ≤ y) = false := decide_eq_false (by omega)
    clear h0
    go_enter Try.func16, Try.ntmps16
    go_wp2_with fail
    go_ret
    exact ⟨rfl, rfl⟩
end Go.Proofs.Ytifkcnmdfeklmaa
