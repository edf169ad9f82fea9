/- The reference's own Scale: the same answers as exact.Scale. Conditions: none (every three ints). -/
import Derived.Test.YtecnonmcmdaopaaAdd
namespace Go.Proofs.Ytecnonmcmdaopaa
open Go.RowKit
set_option linter.unusedVariables false
theorem and_nat (n m : Nat) (hn : n < 9223372036854775808) (hm : m < 9223372036854775808) : bits .and .i64 (n : Int) (m : Int) = ((n &&& m : Nat) : Int) := by
  show IntKind.i64.wrap ((BitVec.ofInt 64 n &&& BitVec.ofInt 64 m).toNat : Nat) = ((n &&& m : Nat) : Int)
  rw [BitVec.toNat_and, BitVec.toNat_ofInt, BitVec.toNat_ofInt]
  have h1 : ((n : Int) % ((2 ^ 64 : Nat) : Int)).toNat = n := by omega
  have h2 : ((m : Int) % ((2 ^ 64 : Nat) : Int)).toNat = m := by omega
  rw [h1, h2]
  have h3 : n &&& m ≤ n := Nat.and_le_left
  rw [IntKind.wrap_i64]
  omega

/-- the bits of num that have been taken after k rounds, and the bit that comes next -/
def pk (num k : Nat) : Nat := num / 2 ^ (51 - k)
def bk (k : Nat) : Nat := 1125899906842624 / 2 ^ k
def qk (a num d k : Nat) : Nat := a * pk num k / d
def rk (a num d k : Nat) : Nat := a * pk num k % d
theorem bk_next (k : Nat) : bk k / 2 = bk (k + 1) := by unfold bk; rw [Nat.div_div_eq_div_mul, Nat.pow_succ]
theorem bk_pow (k : Nat) (hk : k ≤ 50) : bk k = 2 ^ (50 - k) := by
  unfold bk
  have : (1125899906842624 : Nat) = 2 ^ (50 - k) * 2 ^ k := by rw [← Nat.pow_add, show 50 - k + k = 50 by omega]
  rw [this, Nat.mul_div_cancel _ (Nat.two_pow_pos k)]
theorem bk_end : bk 51 = 0 := by decide
theorem bk_le (k : Nat) : bk k ≤ 1125899906842624 := Nat.div_le_self _ _
theorem pk_zero (num : Nat) (h : num ≤ 1125899906842624) : pk num 0 = 0 := by unfold pk; exact Nat.div_eq_of_lt (by simp; omega)
theorem pk_all (num : Nat) : pk num 51 = num := by unfold pk; simp
theorem pk_next (num k : Nat) (hk : k ≤ 50) : pk num (k + 1) = 2 * pk num k + num / 2 ^ (50 - k) % 2 := by
  unfold pk
  rw [show 51 - (k + 1) = 50 - k by omega, show 51 - k = 50 - k + 1 by omega, Nat.pow_succ, ← Nat.div_div_eq_div_mul]
  omega
theorem pk_le (num k : Nat) : pk num k ≤ num := Nat.div_le_self _ _
theorem and_pow (n i : Nat) : n &&& 2 ^ i = n / 2 ^ i % 2 * 2 ^ i := by
  have h : n / 2 ^ i % 2 < 2 := Nat.mod_lt _ (by omega)
  apply Nat.eq_of_testBit_eq
  intro j
  rw [Nat.testBit_and, Nat.testBit_two_pow]
  by_cases h1 : n / 2 ^ i % 2 = 1
  · rw [h1, Nat.one_mul, Nat.testBit_two_pow]
    by_cases hij : i = j
    · subst hij
      simp [Nat.testBit_eq_decide_div_mod_eq, h1]
    · simp [hij]
  · rw [show n / 2 ^ i % 2 = 0 by omega, Nat.zero_mul, Nat.zero_testBit]
    by_cases hij : i = j
    · subst hij
      simp [Nat.testBit_eq_decide_div_mod_eq, h1]
    · simp [hij]
theorem and_bk (num k : Nat) (hk : k ≤ 50) : num &&& bk k = num / 2 ^ (50 - k) % 2 * bk k := by
  rw [bk_pow k hk, and_pow]
theorem step_k (a num d k o : Nat) (hd : 0 < d) (hk : k ≤ 50) (ho : num / 2 ^ (50 - k) % 2 = o) :
    qk a num d (k + 1) = 2 * qk a num d k + (2 * rk a num d k + a * o) / d ∧ rk a num d (k + 1) = (2 * rk a num d k + a * o) % d := by
  have h1 := Nat.div_add_mod (a * pk num k) d
  have h2 : a * pk num (k + 1) = (2 * rk a num d k + a * o) + d * (2 * qk a num d k) := by
    rw [pk_next num k hk, ho, Nat.mul_add, Nat.mul_left_comm a 2]
    unfold qk rk
    rw [Nat.mul_left_comm d 2]
    omega
  constructor
  · rw [show qk a num d (k + 1) = a * pk num (k + 1) / d from rfl, h2, Nat.add_mul_div_left _ _ hd]
    omega
  · rw [show rk a num d (k + 1) = a * pk num (k + 1) % d from rfl, h2, Nat.add_mul_mod_self_left]
theorem qk_le (a num d k : Nat) : qk a num d k ≤ a * num / d := Nat.div_le_div_right (Nat.mul_le_mul_left a (pk_le num k))
theorem cdiv {x d e : Nat} {X : Int} (hX : X = (x : Int)) (h : x / d = e) : X / (d : Int) = (e : Int) := by rw [hX, ← h, Int.natCast_ediv]
theorem cmod {x d e : Nat} {X : Int} (hX : X = (x : Int)) (h : x % d = e) : X % (d : Int) = (e : Int) := by rw [hX, ← h, Int.natCast_emod]
theorem nat_max {a b : Nat} : (a : Int) ≤ (b : Int) ↔ a ≤ b := by omega

set_option maxHeartbeats 1600000 in
set_option maxRecDepth 100000 in
/-- The reference's Scale within the limits. -/
theorem rscale_in (a num d : Nat) (ha : a ≤ 1125899906842624) (hn : num ≤ 1125899906842624) (hd0 : 0 < d) (hd : d ≤ 1125899906842624) (w : World) :
    Calls Try.prog 32 #[.int .i64 a, .int .i64 num, .int .i64 d] w fun e w' => (e = if a * num / d ≤ 1125899906842624 then .returned (.tuple #[.int .i64 ((a * num / d : Nat) : Int), .int .i64 ((a * num % d : Nat) : Int), .bool true]) else .returned (.tuple #[.int .i64 0, .int .i64 0, .bool false])) ∧ w = w' := by
  have da0 : decide ((a : Int) < 0) = false := decide_eq_false (by omega)
  have da1 : decide ((1125899906842624 : Int) < (a : Int)) = false := decide_eq_false (by omega)
  have da2 : decide (1125899906842624 < a) = false := decide_eq_false (by omega)
  have dn0 : decide ((num : Int) < 0) = false := decide_eq_false (by omega)
  have dn1 : decide ((1125899906842624 : Int) < (num : Int)) = false := decide_eq_false (by omega)
  have dn2 : decide (1125899906842624 < num) = false := decide_eq_false (by omega)
  have dd0 : decide ((d : Int) < 1) = false := decide_eq_false (by omega)
  have dd2 : decide (d < 1) = false := decide_eq_false (by omega)
  have dd1 : decide ((1125899906842624 : Int) < (d : Int)) = false := decide_eq_false (by omega)
  have dd3 : decide (1125899906842624 < d) = false := decide_eq_false (by omega)
  have hz : ((d : Int) == 0) = false := beq_eq_false_iff_ne.2 (by omega)
  go_enter Try.func32, Try.ntmps32
  go_wp2_with fail
  go_loop [9, 10, 11] (fun q r b => ∃ k : Nat, k ≤ 51 ∧ b = .int .i64 (bk k : Nat) ∧ q = .int .i64 (qk a num d k : Nat) ∧ r = .int .i64 (rk a num d k : Nat) ∧ Hid (qk a num d k ≤ 1125899906842624)) (fun _ _ b => (intOf b).toNat)
  case atStart => exact ⟨0, by omega, rfl, by unfold qk; rw [pk_zero num hn]; simp, by unfold rk; rw [pk_zero num hn]; simp, Lib.hid (by unfold qk; rw [pk_zero num hn]; simp)⟩
  case round =>
    obtain ⟨k, hk, rfl, rfl, rfl, hqv⟩ := hrel
    by_cases hlt : k ≤ 50
    · have hb0 : 0 < bk k := by rw [bk_pow k hlt]; exact Nat.two_pow_pos _
      have hbl := bk_le k
      have hrl : rk a num d k < d := Nat.mod_lt _ hd0
      have hqv2 := hqv.out
      have hand := and_nat num (bk k) (by omega) (by omega)
      rw [and_bk num k hlt] at hand
      have ho : num / 2 ^ (50 - k) % 2 = 0 ∨ num / 2 ^ (50 - k) % 2 = 1 := by omega
      have hbn : ((bk k : Nat) : Int) / 2 = ((bk (k + 1) : Nat) : Int) := by rw [← bk_next k]; omega
      have hdb : decide ((0 : Int) < ((bk k : Nat) : Int)) = true := decide_eq_true (by omega)
      have hdb2 : decide (0 < bk k) = true := decide_eq_true hb0
      have hqle := qk_le a num d (k + 1)
      have HQLE := Lib.hid hqle
      have hbm : bk (k + 1) < bk k := by rw [← bk_next k]; omega
      rcases ho with ho | ho
      · obtain ⟨s1, s2⟩ := step_k a num d k 0 hd0 hlt ho
        rw [ho, Nat.zero_mul] at hand
        rw [Nat.mul_zero, Nat.add_zero] at s1 s2
        have S1 := Lib.hid s1
        have S2 := Lib.hid s2
        have hdr : (2 * rk a num d k) / d ≤ 2 * rk a num d k := Nat.div_le_self _ _
        have hfl : (2 * rk a num d k) % d < d := Nat.mod_lt _ hd0
        rw [s1] at hqle
        clear s1 s2 ho
        generalize hb2 : bk (k + 1) = b2 at *
        have HB2 := Lib.hid hb2
        clear hb2
        generalize hbb : bk k = bb at *
        generalize qk a num d k = q at *
        generalize hrr : rk a num d k = r at *
        generalize hee : (2 * r) / d = e1 at *
        generalize hff : (2 * r) % d = f1 at *
        have w1 : (2 * (r : Int)) / (d : Int) = (e1 : Int) := cdiv (by omega) hee
        have w2 : (2 * (r : Int)) % (d : Int) = (f1 : Int) := cmod (by omega) hff
        clear hbb hrr hee hff
        by_cases hv : 2 * q + e1 ≤ 1125899906842624
        · have dv : decide ((1125899906842624 : Int) < 2 * (q : Int) + (e1 : Int)) = false := decide_eq_false (by omega)
          have HV := Lib.hid hv
          clear hqle
          go_wp2_with fail
          go_round
          case rel => exact ⟨k + 1, by omega, by rw [HB2.out], by rw [S1.out, Int.natCast_add, Int.natCast_mul]; rfl, by rw [S2.out, w2], Lib.hid (by rw [S1.out]; exact HV.out)⟩
          case measure => simp [intOf]; omega
        · have dv : decide ((1125899906842624 : Int) < 2 * (q : Int) + (e1 : Int)) = true := decide_eq_true (by omega)
          have hno : ¬ a * num / d ≤ 1125899906842624 := by omega
          have HNO := Lib.hid hno
          clear hv hqle hno
          go_wp2_with fail
          go_ret3
          exact ⟨by first | rfl | (rw [if_neg HNO.out]; rfl), rfl⟩
      · obtain ⟨s1, s2⟩ := step_k a num d k 1 hd0 hlt ho
        rw [ho, Nat.one_mul] at hand
        rw [Nat.mul_one] at s1 s2
        have hne : (((bk k : Nat) : Int) != 0) = true := bne_iff_ne.2 (by omega)
        have S1 := Lib.hid s1
        have S2 := Lib.hid s2
        have hdr : (2 * rk a num d k + a) / d ≤ 2 * rk a num d k + a := Nat.div_le_self _ _
        have hfl : (2 * rk a num d k + a) % d < d := Nat.mod_lt _ hd0
        rw [s1] at hqle
        clear s1 s2 ho
        generalize hb2 : bk (k + 1) = b2 at *
        have HB2 := Lib.hid hb2
        clear hb2
        generalize hbb : bk k = bb at *
        generalize qk a num d k = q at *
        generalize hrr : rk a num d k = r at *
        generalize hee : (2 * r + a) / d = e1 at *
        generalize hff : (2 * r + a) % d = f1 at *
        have w1 : (2 * (r : Int) + (a : Int)) / (d : Int) = (e1 : Int) := cdiv (by omega) hee
        have w2 : (2 * (r : Int) + (a : Int)) % (d : Int) = (f1 : Int) := cmod (by omega) hff
        clear hbb hrr hee hff
        by_cases hv : 2 * q + e1 ≤ 1125899906842624
        · have dv : decide ((1125899906842624 : Int) < 2 * (q : Int) + (e1 : Int)) = false := decide_eq_false (by omega)
          have HV := Lib.hid hv
          clear hqle
          go_wp2_with fail
          go_round
          case rel => exact ⟨k + 1, by omega, by rw [HB2.out], by rw [S1.out, Int.natCast_add, Int.natCast_mul]; rfl, by rw [S2.out, w2], Lib.hid (by rw [S1.out]; exact HV.out)⟩
          case measure => simp [intOf]; omega
        · have dv : decide ((1125899906842624 : Int) < 2 * (q : Int) + (e1 : Int)) = true := decide_eq_true (by omega)
          have hno : ¬ a * num / d ≤ 1125899906842624 := by omega
          have HNO := Lib.hid hno
          clear hv hqle hno
          go_wp2_with fail
          go_ret3
          exact ⟨by first | rfl | (rw [if_neg HNO.out]; rfl), rfl⟩
    · obtain rfl : k = 51 := by omega
      have h1 : qk a num d 51 = a * num / d := by unfold qk; rw [pk_all]
      have h2 : rk a num d 51 = a * num % d := by unfold rk; rw [pk_all]
      have h3 := hqv.out
      rw [h1] at h3
      have H1 := Lib.hid h1
      have H2 := Lib.hid h2
      have H3 := Lib.hid h3
      rw [bk_end]
      clear h1 h2 h3
      go_wp2_with fail
      go_ret3
      exact ⟨ret_iib (by rw [H1.out, Int.natCast_ediv, Int.natCast_mul]) (by rw [H2.out, Int.natCast_emod, Int.natCast_mul]) rfl, rfl⟩

set_option maxRecDepth 100000 in
theorem rscale_out (a n d : Int) (h : ¬ ((0 ≤ a ∧ a ≤ 1125899906842624) ∧ (0 ≤ n ∧ n ≤ 1125899906842624) ∧ (1 ≤ d ∧ d ≤ 1125899906842624))) (w : World) :
    Calls Try.prog 32 #[.int .i64 a, .int .i64 n, .int .i64 d] w fun e w' => e = .returned (.tuple #[.int .i64 0, .int .i64 0, .bool false]) ∧ w = w' := by
  by_cases h0 : a < 0
  · have d0 : decide (a < 0) = true := decide_eq_true h0
    clear h h0
    go_enter Try.func32, Try.ntmps32
    go_wp2_with fail
    go_ret3
    exact ⟨rfl, rfl⟩
  · have d0 : decide (a < 0) = false := decide_eq_false h0
    by_cases h1 : 1125899906842624 < a
    · have d1 : decide (1125899906842624 < a) = true := decide_eq_true h1
      clear h h0 h1
      go_enter Try.func32, Try.ntmps32
      go_wp2_with fail
      go_ret3
      exact ⟨rfl, rfl⟩
    · have d1 : decide (1125899906842624 < a) = false := decide_eq_false h1
      by_cases h2 : n < 0
      · have d2 : decide (n < 0) = true := decide_eq_true h2
        clear h h0 h1 h2
        go_enter Try.func32, Try.ntmps32
        go_wp2_with fail
        go_ret3
        exact ⟨rfl, rfl⟩
      · have d2 : decide (n < 0) = false := decide_eq_false h2
        by_cases h3 : 1125899906842624 < n
        · have d3 : decide (1125899906842624 < n) = true := decide_eq_true h3
          clear h h0 h1 h2 h3
          go_enter Try.func32, Try.ntmps32
          go_wp2_with fail
          go_ret3
          exact ⟨rfl, rfl⟩
        · have d3 : decide (1125899906842624 < n) = false := decide_eq_false h3
          by_cases h4 : d < 1
          · have d4 : decide (d < 1) = true := decide_eq_true h4
            clear h h0 h1 h2 h3 h4
            go_enter Try.func32, Try.ntmps32
            go_wp2_with fail
            go_ret3
            exact ⟨rfl, rfl⟩
          · have d4 : decide (d < 1) = false := decide_eq_false h4
            have d5 : decide (1125899906842624 < d) = true := decide_eq_true (by omega)
            clear h h0 h1 h2 h3 h4
            go_enter Try.func32, Try.ntmps32
            go_wp2_with fail
            go_ret3
            exact ⟨rfl, rfl⟩

/-- The reference's Scale at every three ints. -/
theorem rscale_any (a n d : Int) (w : World) :
    Calls Try.prog 32 #[.int .i64 a, .int .i64 n, .int .i64 d] w fun e w' => e = .returned (.tuple #[.int .i64 (scQ a n d), .int .i64 (scR a n d), .bool (scB a n d)]) ∧ w = w' := by
  by_cases hin : (0 ≤ a ∧ a ≤ 1125899906842624) ∧ (0 ≤ n ∧ n ≤ 1125899906842624) ∧ (1 ≤ d ∧ d ≤ 1125899906842624)
  · obtain ⟨c1, c2, c3⟩ := hin
    obtain ⟨x, rfl⟩ := Int.eq_ofNat_of_zero_le c1.1
    obtain ⟨y, rfl⟩ := Int.eq_ofNat_of_zero_le c2.1
    obtain ⟨z, rfl⟩ := Int.eq_ofNat_of_zero_le (show 0 ≤ d by omega)
    have hs : scB x y z = decide (x * y / z ≤ 1125899906842624) := by
      unfold scB
      rw [volB_yes c1.1 c1.2, volB_yes c2.1 c2.2, volB_yes (by omega) c3.2, ← Int.natCast_mul, ← Int.natCast_ediv]
      simp only [Bool.and_true, Bool.true_and]
      rw [decide_eq_true (by omega : ((z : Int) ≠ 0)), Bool.true_and]
      exact decide_eq_decide.2 (by omega)
    refine (rscale_in x y z (by omega) (by omega) (by omega) (by omega) w).mono ?_
    rintro e w' ⟨rfl, rfl⟩
    refine ⟨?_, rfl⟩
    by_cases hq : x * y / z ≤ 1125899906842624
    · have hs' : scB x y z = true := by rw [hs]; exact decide_eq_true hq
      obtain ⟨e1, e2⟩ := sc_yes hs'
      rw [if_pos hq, hs', e1, e2, Int.natCast_ediv, Int.natCast_emod, Int.natCast_mul]
    · have hs' : scB x y z = false := by rw [hs]; exact decide_eq_false hq
      obtain ⟨e1, e2⟩ := sc_no hs'
      rw [if_neg hq, hs', e1, e2]
  · have hs : scB a n d = false := by
      unfold scB
      by_cases h1 : 0 ≤ a ∧ a ≤ 1125899906842624
      · by_cases h2 : 0 ≤ n ∧ n ≤ 1125899906842624
        · by_cases h3 : d = 0
          · subst h3; simp
          · rw [volB_no (n := d) (by omega)]; simp
        · rw [volB_no (n := n) (by omega)]; simp
      · rw [volB_no (n := a) (by omega)]; simp
    refine (rscale_out a n d hin w).mono ?_
    rintro e w' ⟨rfl, rfl⟩
    exact ⟨by rw [hs, (sc_no hs).1, (sc_no hs).2], rfl⟩
end Go.Proofs.Ytecnonmcmdaopaa
