/- math/bits.Div64 returns the quotient and the remainder of hi * 2^64 + lo by y. Conditions: hi is less than y, and all three are of 64 bits. -/
import Derived.Test.YtecnonmcmdaopaaRows
import Derived.Test.YtecnonmcmdaopaaD64
import Derived.WalkKit
import Derived.ProofKit
import Derived.BigQuiet
import Derived.Deep.QuietTactic
import Derived.Test.YtecnonmcmdaopaaShelf
import Derived.Lib.Hide
import Derived.Deep.CutBlock
import Derived.Lib.ItoaNum
namespace Go.Proofs.Ytecnonmcmdaopaa
set_option linter.unusedVariables false
open Go.RowKit
theorem wrapN (a : Nat) (ha : a < 18446744073709551616) : IntKind.u64.wrap (a : Int) = (a : Int) := by rw [IntKind.wrap_u64]; omega
theorem wrap_div (u y : Nat) (hu : u < 18446744073709551616) : IntKind.u64.wrap ((u : Int) / (y : Int)) = ((u / y : Nat) : Int) := by
  have := Nat.div_le_self u y
  rw [← Int.natCast_ediv, wrapN _ (by omega)]
theorem wrap_mul (u y : Nat) (h : u * y < 18446744073709551616) : IntKind.u64.wrap ((u : Int) * (y : Int)) = ((u * y : Nat) : Int) := by
  rw [← Int.natCast_mul, wrapN _ h]
theorem wrap_left (u y : Nat) (hu : u < 18446744073709551616) : IntKind.u64.wrap ((u : Int) - IntKind.u64.wrap (((u / y : Nat) : Int) * (y : Int))) = ((u % y : Nat) : Int) := by
  have h := Nat.div_add_mod u y
  rw [Nat.mul_comm] at h
  rw [wrap_mul _ _ (by omega), IntKind.wrap_u64]
  omega
theorem prod_lt (a y : Nat) (ha : (a : Int) < 4294967296) (hy : y < 4294967296) : a * y < 18446744073709551616 := by
  have := Nat.mul_le_mul (by omega : a ≤ 4294967295) (by omega : y ≤ 4294967295)
  omega
theorem ret_u2 {a b c d : Int} (h : a = c) (h' : b = d) : Ending.returned (.tuple #[.int .u64 a, .int .u64 b]) = .returned (.tuple #[.int .u64 c, .int .u64 d]) := by rw [h, h']
theorem u64_eq {a b : Nat} (h : b = a) : Value.int .u64 (a : Int) = .int .u64 (b : Int) := by rw [h]
/-- The code's remainder behind a digit. -/
theorem wrap_rest (u n Y q : Nat) (hY0 : 0 < Y) (hY : Y < 18446744073709551616) (hq : q = (u * 4294967296 + n) / Y) :
    IntKind.u64.wrap (IntKind.u64.wrap (IntKind.u64.wrap ((u : Int) * 4294967296) + (n : Int)) - IntKind.u64.wrap ((q : Int) * (Y : Int))) = (((u * 4294967296 + n) % Y : Nat) : Int) := by
  have h := Nat.div_add_mod (u * 4294967296 + n) Y
  have hm := Nat.mod_lt (u * 4294967296 + n) hY0
  rw [← hq, Nat.mul_comm] at h
  rw [← Int.natCast_mul]
  generalize q * Y = p at h
  generalize (u * 4294967296 + n) % Y = m at h hm
  simp only [IntKind.wrap_u64]
  omega

def Sees (hi lo y q r : Nat) : Prop := q = (hi * 18446744073709551616 + lo) / y ∧ r = (hi * 18446744073709551616 + lo) % y
set_option maxHeartbeats 800000 in
set_option maxRecDepth 100000 in
theorem div_walk (hi lo y s Y y1 y0 u L n1 n0 t m t0 z: Nat) (hlo : lo < 18446744073709551616) (hy : y < 18446744073709551616) (hy0 : hi < y) (h0 : 0 < hi) (hs : s ≤ 63)
    (hbl : (64 : Int) - (Lib.bitLen y : Int) = s)
    (eY : IntKind.u64.wrap ((y : Int) * 2 ^ s) = (Y : Int)) (eY1 : (Y : Int) / 4294967296 = (y1 : Int)) (eY0 : bits .and .u64 (Y : Int) 4294967295 = (y0 : Int))
    (eH : bits .or .u64 (IntKind.u64.wrap ((hi : Int) * 2 ^ s)) ((lo : Int) / 2 ^ (64 - s)) = (u : Int))
    (eL : IntKind.u64.wrap ((lo : Int) * 2 ^ s) = (L : Int)) (eL1 : (L : Int) / 4294967296 = (n1 : Int)) (eL0 : bits .and .u64 (L : Int) 4294967295 = (n0 : Int))
    (hY : Y = y1 * 4294967296 + y0) (hy1 : 2147483648 ≤ y1) (hy1' : y1 < 4294967296) (hy0' : y0 < 4294967296) (hu : u < y1 * 4294967296 + y0) (hn1 : n1 < 4294967296) (hn0 : n0 < 4294967296)
    (ht : t = (u * 4294967296 + n1) / (y1 * 4294967296 + y0)) (hm : m = (u * 4294967296 + n1) % (y1 * 4294967296 + y0))
    (ht0 : t0 = (m * 4294967296 + n0) / (y1 * 4294967296 + y0)) (hz : z = (m * 4294967296 + n0) % (y1 * 4294967296 + y0))
    (w : World) :
    Calls Try.prog 37 #[.int .u64 hi, .int .u64 lo, .int .u64 y] w fun e w' => e = .returned (.tuple #[.int .u64 ((t * 4294967296 + t0 : Nat) : Int), .int .u64 ((z / 2 ^ s : Nat) : Int)]) ∧ w = w' := by
  have HB := Lib.hid hbl
  have HY := Lib.hid hY
  have HT := Lib.hid ht
  have HM := Lib.hid hm
  have HT0 := Lib.hid ht0
  have HZ := Lib.hid hz
  have htb := D64.digit_lt u n1 _ hn1 hu
  have hmb : m < y1 * 4294967296 + y0 := by rw [hm]; exact Nat.mod_lt _ (by omega)
  have ht0b := D64.digit_lt m n0 _ hn0 hmb
  rw [← ht] at htb
  rw [← ht0] at ht0b
  have hzb : z < y1 * 4294967296 + y0 := by rw [hz]; exact Nat.mod_lt _ (by omega)
  have eR := wrap_rest u n1 Y t (by omega) (by omega) (by rw [hY]; exact ht)
  rw [hY, ← hm, ← hY] at eR
  have eR0 := wrap_rest m n0 Y t0 (by omega) (by omega) (by rw [hY]; exact ht0)
  rw [hY, ← hz, ← hY] at eR0
  clear hbl hY hm hz ht ht0
  have h1 : ((y : Int) == 0) = false := beq_eq_false_iff_ne.2 (by omega)
  have h2 : decide ((y : Int) ≤ (hi : Int)) = false := decide_eq_false (by omega)
  have h3 : ((hi : Int) == 0) = false := beq_eq_false_iff_ne.2 (by omega)
  have h4 : ((y1 : Int) == 0) = false := beq_eq_false_iff_ne.2 (by omega)
  have d1 := wrap_div u y1 (by omega)
  have d2 := wrap_left u y1 (by omega)
  have d3 := wrap_div m y1 (by omega)
  have d4 := wrap_left m y1 (by omega)
  have q1 := D64.est_le y1 y0 u hy1 hy0' hu
  have q2 := D64.est_ge y1 y0 u n1 hy1 hn1
  rw [← HT.out] at q2
  have q3 := D64.est_le y1 y0 m hy1 hy0' hmb
  have q4 := D64.est_ge y1 y0 m n0 hy1 hn0
  rw [← HT0.out] at q4
  have q5 := Nat.div_add_mod u y1
  have q6 := Nat.div_add_mod m y1
  rw [Nat.mul_comm] at q5 q6
  have q7 := Nat.mod_lt u (by omega : 0 < y1)
  have q8 := Nat.mod_lt m (by omega : 0 < y1)
  have Q5 := Lib.hid q5.symm
  have Q6 := Lib.hid q6.symm
  clear q5 q6
  generalize u / y1 = a0 at *
  generalize u % y1 = b0 at *
  generalize m / y1 = a1 at *
  generalize m % y1 = b1 at *
  go_enter Try.func37, Try.ntmps37
  go_wp2_with fail
  refine (Try.bits_LeadingZeros64 (y : Int) _ (by omega) (by omega)).mono ?_
  rintro e w' ⟨rfl, rfl⟩
  rw [Int.toNat_natCast, HB.out]
  go_upto_block 0 with fail
  go_cut [15, 16] from 67 to 85 (fun q r wc => q = .int .u64 t ∧ w' = wc)
  case first =>
    go_wp2_with fail
    go_loop [15, 16] (fun q r => ∃ a b : Nat, q = .int .u64 a ∧ r = .int .u64 b ∧ Hid (u = a * y1 + b) ∧ b < 4294967296 ∧ a ≤ 4294967297 ∧ t ≤ a) (fun q _ => (intOf q).toNat)
    case atStart => exact ⟨a0, b0, rfl, rfl, Q5, by omega, q1, q2⟩
    case round =>
      obtain ⟨a, b, rfl, rfl, hE, hb, ha, hta⟩ := hrel
      have HA := Lib.hid ha
      have HB' := Lib.hid hb
      have HTA := Lib.hid hta
      clear ha hb hta
      by_cases hA : (a : Int) < 4294967296
      · have hA3 : decide ((4294967296 : Int) ≤ (a : Int)) = false := decide_eq_false (by omega)
        have hp := prod_lt a y0 (by omega) hy0'
        have e5 := wrap_mul a y0 hp
        generalize hP : a * y0 = p at e5 hp
        have HP := Lib.hid hP
        clear hP
        have HA2 := Lib.hid hA
        by_cases hC : 4294967296 * (b : Int) + (n1 : Int) < (p : Int)
        · obtain ⟨s1, s2, s3⟩ := D64.step y1 y0 u n1 a b (by omega) hn1 hu hE.out (by rw [← HT.out]; exact HTA.out) (.inr (by rw [HP.out]; have := HB'.out; omega))
          rw [← HT.out] at s3
          have S2 := Lib.hid s2
          have S3 := Lib.hid s3
          have ea : IntKind.u64.wrap ((a : Int) - 1) = ((a - 1 : Nat) : Int) := by have := HA2.out; rw [IntKind.wrap_u64]; omega
          have eb : IntKind.u64.wrap ((b : Int) + (y1 : Int)) = ((b + y1 : Nat) : Int) := by have := HB'.out; rw [IntKind.wrap_u64]; omega
          have ec : IntKind.u64.wrap (4294967296 * (b : Int)) = 4294967296 * (b : Int) := by have := HB'.out; rw [IntKind.wrap_u64]; omega
          have ed : IntKind.u64.wrap (4294967296 * (b : Int) + (n1 : Int)) = 4294967296 * (b : Int) + (n1 : Int) := by have := HB'.out; rw [IntKind.wrap_u64]; omega
          clear s2 s3 hp
          by_cases hr : (b : Int) + (y1 : Int) < 4294967296
          · have hr' : decide ((4294967296 : Int) ≤ (b : Int) + (y1 : Int)) = false := decide_eq_false (by omega)
            go_wp2_with fail
            go_round
            case rel => exact ⟨a - 1, b + y1, by go_num, by go_num, S2, by omega, by have := HA.out; omega, S3.out⟩
            case measure => simp [intOf]; omega
          · have hr' : decide ((4294967296 : Int) ≤ (b : Int) + (y1 : Int)) = true := decide_eq_true (by omega)
            have hx := D64.exit_big y1 y0 u n1 (a - 1) (b + y1) (by omega) hy0' S2.out (by rw [← HT.out]; exact S3.out) (by have := HA.out; omega) (by omega)
            rw [← HT.out] at hx
            have HX := Lib.hid hx
            clear hx
            go_wp2_with fail
            go_meet
            exact ⟨u64_eq HX.out.symm, rfl⟩
        · have hx := D64.exit_at y1 y0 u n1 a b (by omega) hE.out (by rw [← HT.out]; exact HTA.out) (by rw [HP.out]; omega)
          rw [← HT.out] at hx
          have HX := Lib.hid hx
          have ec : IntKind.u64.wrap (4294967296 * (b : Int)) = 4294967296 * (b : Int) := by have := HB'.out; rw [IntKind.wrap_u64]; omega
          have ed : IntKind.u64.wrap (4294967296 * (b : Int) + (n1 : Int)) = 4294967296 * (b : Int) + (n1 : Int) := by have := HB'.out; rw [IntKind.wrap_u64]; omega
          have hC' : decide (4294967296 * (b : Int) + (n1 : Int) < (p : Int)) = false := decide_eq_false hC
          clear hx hp hC
          go_wp2_with fail
          go_meet
          exact ⟨u64_eq HX.out.symm, rfl⟩
      · obtain ⟨s1, s2, s3⟩ := D64.step y1 y0 u n1 a b (by omega) hn1 hu hE.out (by rw [← HT.out]; exact HTA.out) (.inl (by omega))
        rw [← HT.out] at s3
        have S2 := Lib.hid s2
        have S3 := Lib.hid s3
        have ea : IntKind.u64.wrap ((a : Int) - 1) = ((a - 1 : Nat) : Int) := by have := HA.out; rw [IntKind.wrap_u64]; omega
        have eb : IntKind.u64.wrap ((b : Int) + (y1 : Int)) = ((b + y1 : Nat) : Int) := by have := HB'.out; rw [IntKind.wrap_u64]; omega
        clear s2 s3
        by_cases hr : (b : Int) + (y1 : Int) < 4294967296
        · have hr' : decide ((4294967296 : Int) ≤ (b : Int) + (y1 : Int)) = false := decide_eq_false (by omega)
          go_wp2_with fail
          go_round
          case rel => exact ⟨a - 1, b + y1, by go_num, by go_num, S2, by omega, by have := HA.out; omega, S3.out⟩
          case measure => simp [intOf]; omega
        · have hr' : decide ((4294967296 : Int) ≤ (b : Int) + (y1 : Int)) = true := decide_eq_true (by omega)
          have hx := D64.exit_big y1 y0 u n1 (a - 1) (b + y1) (by omega) hy0' S2.out (by rw [← HT.out]; exact S3.out) (by have := HA.out; omega) (by omega)
          rw [← HT.out] at hx
          have HX := Lib.hid hx
          clear hx
          go_wp2_with fail
          go_meet
          exact ⟨u64_eq HX.out.symm, rfl⟩
  case rest =>
    obtain ⟨rfl, rfl⟩ := hcut
    go_upto_block 2 with fail
    go_cut [18, 16] from 102 to 120 (fun q r wc => q = .int .u64 t0 ∧ w' = wc)
    case first =>
      go_wp2_with fail
      go_loop [18, 16] (fun q r => ∃ a b : Nat, q = .int .u64 a ∧ r = .int .u64 b ∧ Hid (m = a * y1 + b) ∧ b < 4294967296 ∧ a ≤ 4294967297 ∧ t0 ≤ a) (fun q _ => (intOf q).toNat)
      case atStart => exact ⟨a1, b1, rfl, rfl, Q6, by omega, q3, q4⟩
      case round =>
        obtain ⟨a, b, rfl, rfl, hE, hb, ha, hta⟩ := hrel
        have HA := Lib.hid ha
        have HB' := Lib.hid hb
        have HTA := Lib.hid hta
        clear ha hb hta
        by_cases hA : (a : Int) < 4294967296
        · have hA3 : decide ((4294967296 : Int) ≤ (a : Int)) = false := decide_eq_false (by omega)
          have hp := prod_lt a y0 (by omega) hy0'
          have e5 := wrap_mul a y0 hp
          generalize hP : a * y0 = p at e5 hp
          have HP := Lib.hid hP
          clear hP
          have HA2 := Lib.hid hA
          by_cases hC : 4294967296 * (b : Int) + (n0 : Int) < (p : Int)
          · obtain ⟨s1, s2, s3⟩ := D64.step y1 y0 m n0 a b (by omega) hn0 hmb hE.out (by rw [← HT0.out]; exact HTA.out) (.inr (by rw [HP.out]; have := HB'.out; omega))
            rw [← HT0.out] at s3
            have S2 := Lib.hid s2
            have S3 := Lib.hid s3
            have ea : IntKind.u64.wrap ((a : Int) - 1) = ((a - 1 : Nat) : Int) := by have := HA2.out; rw [IntKind.wrap_u64]; omega
            have eb : IntKind.u64.wrap ((b : Int) + (y1 : Int)) = ((b + y1 : Nat) : Int) := by have := HB'.out; rw [IntKind.wrap_u64]; omega
            have ec : IntKind.u64.wrap (4294967296 * (b : Int)) = 4294967296 * (b : Int) := by have := HB'.out; rw [IntKind.wrap_u64]; omega
            have ed : IntKind.u64.wrap (4294967296 * (b : Int) + (n0 : Int)) = 4294967296 * (b : Int) + (n0 : Int) := by have := HB'.out; rw [IntKind.wrap_u64]; omega
            clear s2 s3 hp
            by_cases hr : (b : Int) + (y1 : Int) < 4294967296
            · have hr' : decide ((4294967296 : Int) ≤ (b : Int) + (y1 : Int)) = false := decide_eq_false (by omega)
              go_wp2_with fail
              go_round
              case rel => exact ⟨a - 1, b + y1, by go_num, by go_num, S2, by omega, by have := HA.out; omega, S3.out⟩
              case measure => simp [intOf]; omega
            · have hr' : decide ((4294967296 : Int) ≤ (b : Int) + (y1 : Int)) = true := decide_eq_true (by omega)
              have hx := D64.exit_big y1 y0 m n0 (a - 1) (b + y1) (by omega) hy0' S2.out (by rw [← HT0.out]; exact S3.out) (by have := HA.out; omega) (by omega)
              rw [← HT0.out] at hx
              have HX := Lib.hid hx
              clear hx
              go_wp2_with fail
              go_meet
              exact ⟨u64_eq HX.out.symm, rfl⟩
          · have hx := D64.exit_at y1 y0 m n0 a b (by omega) hE.out (by rw [← HT0.out]; exact HTA.out) (by rw [HP.out]; omega)
            rw [← HT0.out] at hx
            have HX := Lib.hid hx
            have ec : IntKind.u64.wrap (4294967296 * (b : Int)) = 4294967296 * (b : Int) := by have := HB'.out; rw [IntKind.wrap_u64]; omega
            have ed : IntKind.u64.wrap (4294967296 * (b : Int) + (n0 : Int)) = 4294967296 * (b : Int) + (n0 : Int) := by have := HB'.out; rw [IntKind.wrap_u64]; omega
            have hC' : decide (4294967296 * (b : Int) + (n0 : Int) < (p : Int)) = false := decide_eq_false hC
            clear hx hp hC
            go_wp2_with fail
            go_meet
            exact ⟨u64_eq HX.out.symm, rfl⟩
        · obtain ⟨s1, s2, s3⟩ := D64.step y1 y0 m n0 a b (by omega) hn0 hmb hE.out (by rw [← HT0.out]; exact HTA.out) (.inl (by omega))
          rw [← HT0.out] at s3
          have S2 := Lib.hid s2
          have S3 := Lib.hid s3
          have ea : IntKind.u64.wrap ((a : Int) - 1) = ((a - 1 : Nat) : Int) := by have := HA.out; rw [IntKind.wrap_u64]; omega
          have eb : IntKind.u64.wrap ((b : Int) + (y1 : Int)) = ((b + y1 : Nat) : Int) := by have := HB'.out; rw [IntKind.wrap_u64]; omega
          clear s2 s3
          by_cases hr : (b : Int) + (y1 : Int) < 4294967296
          · have hr' : decide ((4294967296 : Int) ≤ (b : Int) + (y1 : Int)) = false := decide_eq_false (by omega)
            go_wp2_with fail
            go_round
            case rel => exact ⟨a - 1, b + y1, by go_num, by go_num, S2, by omega, by have := HA.out; omega, S3.out⟩
            case measure => simp [intOf]; omega
          · have hr' : decide ((4294967296 : Int) ≤ (b : Int) + (y1 : Int)) = true := decide_eq_true (by omega)
            have hx := D64.exit_big y1 y0 m n0 (a - 1) (b + y1) (by omega) hy0' S2.out (by rw [← HT0.out]; exact S3.out) (by have := HA.out; omega) (by omega)
            rw [← HT0.out] at hx
            have HX := Lib.hid hx
            clear hx
            go_wp2_with fail
            go_meet
            exact ⟨u64_eq HX.out.symm, rfl⟩
    case rest =>
      obtain ⟨rfl, rfl⟩ := hcut
      go_wp2_with fail
      go_ret2
      exact ⟨ret_u2 (by omega) (by rw [Int.natCast_ediv, Int.natCast_pow]; rfl), rfl⟩
theorem div_zero (lo y : Nat) (hlo : lo < 18446744073709551616) (hy : y < 18446744073709551616) (hy0 : 0 < y) (w : World) :
    Calls Try.prog 37 #[.int .u64 0, .int .u64 lo, .int .u64 y] w fun e w' => e = .returned (.tuple #[.int .u64 ((lo / y : Nat) : Int), .int .u64 ((lo % y : Nat) : Int)]) ∧ ∃ n, w' = w.drewN n := by
  have h1 : ((y : Int) == 0) = false := beq_eq_false_iff_ne.2 (by omega)
  have h2 : decide ((y : Int) ≤ 0) = false := decide_eq_false (by omega)
  go_enter Try.func37, Try.ntmps37
  go_wp2
  go_quiet (fail)
  go_wp2
  go_ret2
  exact ⟨ret_u2 (by rw [wrap_div _ _ hlo]) (by omega), _, rfl⟩

theorem numbers (hi lo y s : Nat) (hlo : lo < 18446744073709551616) (hy0 : hi < y) (hs : s ≤ 63) (h1 : 9223372036854775808 ≤ y * 2 ^ s) (h2 : y * 2 ^ s < 18446744073709551616) :
    hi * 2 ^ s + lo / 2 ^ (64 - s) < y * 2 ^ s ∧ lo / 2 ^ (64 - s) < 2 ^ s ∧ hi * 2 ^ s < 18446744073709551616 ∧
    (hi * 18446744073709551616 + lo) * 2 ^ s = (hi * 2 ^ s + lo / 2 ^ (64 - s)) * 18446744073709551616 + lo * 2 ^ s % 18446744073709551616 := by
  have e64 : 2 ^ (64 - s) * 2 ^ s = 18446744073709551616 := by rw [← Nat.pow_add, show 64 - s + s = 64 by omega]
  have hp : 0 < 2 ^ s := Nat.two_pow_pos s
  have hq : 0 < 2 ^ (64 - s) := Nat.two_pow_pos _
  have d : lo / 2 ^ (64 - s) < 2 ^ s := Nat.div_lt_of_lt_mul (by rw [e64]; exact hlo)
  have m1 : (hi + 1) * 2 ^ s ≤ y * 2 ^ s := Nat.mul_le_mul_right _ hy0
  rw [Nat.add_mul, Nat.one_mul] at m1
  have dd : lo * 2 ^ s / 18446744073709551616 = lo / 2 ^ (64 - s) := by rw [← e64, Nat.mul_div_mul_right _ _ hp]
  have dm := Nat.div_add_mod (lo * 2 ^ s) 18446744073709551616
  rw [dd] at dm
  refine ⟨by omega, d, by omega, ?_⟩
  rw [Nat.add_mul, Nat.add_mul, Nat.mul_right_comm]
  omega

set_option maxHeartbeats 400000 in
/-- math/bits.Div64 at every hi < y: the quotient and the remainder of hi * 2^64 + lo by y; the world is as it was, but for draws. -/
theorem div_any (hi lo y : Nat) (hlo : lo < 18446744073709551616) (hy : y < 18446744073709551616) (hy0 : hi < y) (w : World) :
    Calls Try.prog 37 #[.int .u64 hi, .int .u64 lo, .int .u64 y] w fun e w' => e = .returned (.tuple #[.int .u64 (((hi * 18446744073709551616 + lo) / y : Nat) : Int), .int .u64 (((hi * 18446744073709551616 + lo) % y : Nat) : Int)]) ∧ ∃ n, w' = w.drewN n := by
  by_cases hz : hi = 0
  · subst hz
    refine (div_zero lo y hlo hy hy0 w).mono ?_
    rintro e w' ⟨he, hw⟩
    exact ⟨by rw [he, Nat.zero_mul, Nat.zero_add], hw⟩
  · obtain ⟨b1, b2, b3⟩ := Lib.bitLenAux_bounds 64 y (by simpa using hy) (by omega)
    have b4 : Lib.bitLen y = Lib.bitLenAux 64 y := rfl
    have b5 := Lib.bitLen_le y 64 (by omega) (by simpa using hy)
    rw [← b4] at b1 b2 b3
    generalize Lib.bitLen y = bl at b1 b2 b3 b5 b4
    obtain ⟨s, hs⟩ : ∃ s, 64 = bl + s := ⟨64 - bl, by omega⟩
    have hp : 0 < 2 ^ s := Nat.two_pow_pos s
    have e1 : 2 ^ (bl - 1) * 2 ^ s = 9223372036854775808 := by rw [← Nat.pow_add, show bl - 1 + s = 63 by omega]
    have e2 : 2 ^ bl * 2 ^ s = 18446744073709551616 := by rw [← Nat.pow_add, ← hs]
    have h1 : 9223372036854775808 ≤ y * 2 ^ s := by rw [← e1]; exact Nat.mul_le_mul_right _ b2
    have h2 : y * 2 ^ s < 18446744073709551616 := by rw [← e2]; exact Nat.mul_lt_mul_of_pos_right b3 hp
    obtain ⟨n1, n2, n3, n4⟩ := numbers hi lo y s hlo hy0 (by omega) h1 h2
    have q := D64.two (hi * 2 ^ s + lo / 2 ^ (64 - s)) (lo * 2 ^ s % 18446744073709551616 / 4294967296) (lo * 2 ^ s % 18446744073709551616 % 4294967296) (y * 2 ^ s) _ _ (by omega) rfl rfl
    have q0 : ((hi * 2 ^ s + lo / 2 ^ (64 - s)) * 4294967296 + lo * 2 ^ s % 18446744073709551616 / 4294967296) * 4294967296 + lo * 2 ^ s % 18446744073709551616 % 4294967296 = (hi * 18446744073709551616 + lo) * 2 ^ s := by rw [n4]; omega
    rw [q0, Nat.mul_div_mul_right _ _ hp, Nat.mul_mod_mul_right] at q
    have eYY : y * 2 ^ s = y * 2 ^ s / 4294967296 * 4294967296 + y * 2 ^ s % 4294967296 := by omega
    have eU : IntKind.u64.wrap ((hi : Int) * 2 ^ s) = ((hi * 2 ^ s : Nat) : Int) := by rw [show ((hi : Int) * 2 ^ s) = ((hi * 2 ^ s : Nat) : Int) by rw [Int.natCast_mul, Int.natCast_pow]; rfl, wrapN _ n3]
    refine (div_walk hi lo y s (y * 2 ^ s) (y * 2 ^ s / 4294967296) (y * 2 ^ s % 4294967296) (hi * 2 ^ s + lo / 2 ^ (64 - s)) (lo * 2 ^ s % 18446744073709551616) (lo * 2 ^ s % 18446744073709551616 / 4294967296) (lo * 2 ^ s % 18446744073709551616 % 4294967296) _ _ _ _ hlo hy hy0 (by omega) (by omega)
      (by rw [show Lib.bitLen y = bl from b4.symm]; omega) (by rw [show ((y : Int) * 2 ^ s) = ((y * 2 ^ s : Nat) : Int) by rw [Int.natCast_mul, Int.natCast_pow]; rfl, wrapN _ h2]) (by omega) (Mul64.maskN _ h2)
      ?_ ?_ (by omega) (Mul64.maskN _ (by omega)) eYY (by omega) (by omega) (by omega) (by omega) (by omega) (by omega) rfl rfl rfl rfl w).mono ?_
    · rw [eU, show ((lo : Int) / 2 ^ (64 - s)) = ((lo / 2 ^ (64 - s) : Nat) : Int) by rw [Int.natCast_ediv, Int.natCast_pow]; rfl, bits_or_u64_nat _ _ n3 (by omega)]
      rw [← Nat.shiftLeft_eq hi s, ← Nat.shiftLeft_add_eq_or_of_lt n2]
    · rw [show ((lo : Int) * 2 ^ s) = ((lo * 2 ^ s : Nat) : Int) by rw [Int.natCast_mul, Int.natCast_pow]; rfl, IntKind.wrap_u64]; omega
    · rintro e w' ⟨rfl, rfl⟩
      rw [← eYY, ← q.1, ← q.2, Nat.mul_div_cancel _ hp]
      exact ⟨rfl, 0, rfl⟩
end Go.Proofs.Ytecnonmcmdaopaa
