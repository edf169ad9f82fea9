/- group.residue and the reference's Mod return the residue of an int; group.product returns the residue of a product. Conditions: the modulus is positive and below 2^62. -/
import Derived.Test.YtfmjankmfddefaaDoorDiv
import Derived.Test.YtfmjankmfddefaaDoorQGrp
namespace Go.Proofs.YtfmjankmfddefaaDoor.Gp
set_option linter.unusedVariables false
open Go.RowKit

def I64 (n : Int) : Prop := -9223372036854775808 ≤ n ∧ n ≤ 9223372036854775807
theorem i64_of_wf {n : Int} (h : (Lit.int .i64 n).wf = true) : I64 n := by
  have h1 : IntKind.i64.min = -9223372036854775808 := rfl
  have h2 : IntKind.i64.max = 9223372036854775807 := rfl
  simp only [Lit.wf, Bool.and_eq_true, decide_eq_true_eq] at h
  unfold I64; omega
theorem ret_i {a b : Int} (h : a = b) : Ending.returned (.int .i64 a) = .returned (.int .i64 b) := by rw [h]
theorem ret_u {a b : Int} (h : a = b) : Ending.returned (.int .u64 a) = .returned (.int .u64 b) := by rw [h]
theorem and1 (n : Int) : bits .and .i64 n 1 = n % 2 := by
  have hm : (BitVec.ofInt 64 1).toNat = 2 ^ 1 - 1 := by decide
  have key : (BitVec.ofInt 64 n &&& BitVec.ofInt 64 1).toNat = (n % ((2 ^ 64 : Nat) : Int)).toNat % 2 ^ 1 := by
    rw [BitVec.toNat_and, BitVec.toNat_ofInt, hm, Nat.and_two_pow_sub_one_eq_mod]
  show IntKind.i64.wrap ((BitVec.ofInt 64 n &&& BitVec.ofInt 64 1).toNat : Nat) = n % 2
  rw [key, IntKind.wrap_i64]
  omega
/-- Go's remainder, put right, is the residue. -/
theorem tmod_fix (n m : Int) (h0 : 0 < m) : (n.tmod m < 0 → n.tmod m + m = n % m) ∧ (0 ≤ n.tmod m → n.tmod m = n % m) := by
  have h := Int.tmod_eq_emod (a := n) (b := m)
  have h1 := Int.emod_nonneg n (show m ≠ 0 by omega)
  have h2 := Int.emod_lt_of_pos n h0
  split at h <;> omega
theorem mod_fix (n m : Int) (h0 : 0 < m) (h1 : m < 4611686018427387904) (h : n.tmod m < 0) : wrap64 (n.tmod m + m) = n % m := by
  have h2 := (tmod_fix n m h0).1 h
  have h3 := Int.emod_nonneg n (show m ≠ 0 by omega)
  have h4 := Int.emod_lt_of_pos n h0
  rw [h2]; unfold wrap64; omega
theorem residue_any (n m : Int) (h0 : 0 < m) (h1 : m < 4611686018427387904) (w : World) :
    Calls Tryd.prog 42 #[.int .i64 n, .int .i64 m] w fun e w' => e = .returned (.int .i64 (n % m)) ∧ w' = w := by
  have hz : (m == 0) = false := beq_eq_false_iff_ne.2 (by omega)
  have f1 := mod_fix n m h0 h1
  have f2 := (tmod_fix n m h0).2
  go_enter Tryd.func42, Tryd.ntmps42
  go_wp2_with fail
  · go_ret
    exact ⟨ret_i (f1 (by assumption)), rfl⟩
  · go_ret
    exact ⟨ret_i (f2 (by assumption)), rfl⟩
theorem refmod_any (n m : Int) (h0 : 0 < m) (h1 : m < 4611686018427387904) (w : World) :
    Calls Tryd.prog 49 #[.int .i64 n, .int .i64 m] w fun e w' => e = .returned (.int .i64 (n % m)) ∧ w' = w := by
  have hz : (m == 0) = false := beq_eq_false_iff_ne.2 (by omega)
  have f1 := mod_fix n m h0 h1
  have f2 := (tmod_fix n m h0).2
  go_enter Tryd.func49, Tryd.ntmps49
  go_wp2_with fail
  · go_ret
    exact ⟨ret_i (f1 (by assumption)), rfl⟩
  · go_ret
    exact ⟨ret_i (f2 (by assumption)), rfl⟩

theorem rem64_walk (hi lo y h q r : Int) (hz : 0 < y) (hm : Int.tmod hi y = h) (hm' : hi % y = h)
    (hd : ∀ W, Calls Tryd.prog 67 #[.int .u64 h, .int .u64 lo, .int .u64 y] W fun e w' => e = .returned (.tuple #[.int .u64 q, .int .u64 r]) ∧ ∃ n, w' = W.drewN n) (w : World) :
    Calls Tryd.prog 57 #[.int .u64 hi, .int .u64 lo, .int .u64 y] w fun e w' => e = .returned (.int .u64 r) ∧ ∃ n, w' = w.drewN n := by
  have HD := Lib.hid hd
  clear hd
  go_enter Tryd.func57, Tryd.ntmps57
  go_wp2_with fail
  refine (HD.out _).mono ?_
  rintro e w' ⟨rfl, k, rfl⟩
  go_wp2_with fail
  go_ret
  exact ⟨rfl, _, rfl⟩
/-- math/bits.Rem64 at every divisor but 0. -/
theorem rem64_any (hi lo y : Nat) (hlo : lo < 18446744073709551616) (hy : y < 18446744073709551616) (hy0 : 0 < y) (w : World) :
    Calls Tryd.prog 57 #[.int .u64 hi, .int .u64 lo, .int .u64 y] w fun e w' => e = .returned (.int .u64 (((hi * 18446744073709551616 + lo) % y : Nat) : Int)) ∧ ∃ n, w' = w.drewN n := by
  have he : ((hi % y) * 18446744073709551616 + lo) % y = (hi * 18446744073709551616 + lo) % y := by
    rw [Nat.add_mod, Nat.mul_mod, Nat.mod_mod, ← Nat.mul_mod, ← Nat.add_mod]
  have hd := fun W => div_any (hi % y) lo y hlo hy (Nat.mod_lt _ hy0) W
  rw [he] at hd
  exact rem64_walk hi lo y ((hi % y : Nat) : Int) _ _ (by omega) (by rw [Int.tmod_eq_emod_of_nonneg (by omega)]; rfl) rfl hd w

theorem product_walk (a b m x y hi lo z : Int) (h0 : 0 < m) (h1 : m < 4611686018427387904) (ha : a % m = x) (hb : b % m = y)
    (ux : IntKind.u64.wrap x = x) (uy : IntKind.u64.wrap y = y) (um : IntKind.u64.wrap m = m) (iz : wrap64 z = z) (iz' : IntKind.i64.wrap z = z)
    (hmul : ∀ W, Calls Tryd.prog 56 #[.int .u64 x, .int .u64 y] W fun e w' => e = .returned (.tuple #[.int .u64 hi, .int .u64 lo]) ∧ w' = W)
    (hrem : ∀ W, Calls Tryd.prog 57 #[.int .u64 hi, .int .u64 lo, .int .u64 m] W fun e w' => e = .returned (.int .u64 z) ∧ ∃ n, w' = W.drewN n) (w : World) :
    Calls Tryd.prog 44 #[.int .i64 a, .int .i64 b, .int .i64 m] w fun e w' => e = .returned (.int .i64 z) ∧ ∃ n, w' = w.drewN n := by
  have hA := fun W => residue_any a m h0 h1 W
  have hB := fun W => residue_any b m h0 h1 W
  rw [ha] at hA
  rw [hb] at hB
  have HA := Lib.hid hA
  have HB := Lib.hid hB
  have HM := Lib.hid hmul
  have HR := Lib.hid hrem
  clear hA hB hmul hrem h0 h1 ha hb
  go_enter Tryd.func44, Tryd.ntmps44
  go_wp2_with fail
  refine (HA.out _).mono ?_
  rintro e w' ⟨rfl, rfl⟩
  go_wp2_with fail
  refine (HB.out _).mono ?_
  rintro e w' ⟨rfl, rfl⟩
  go_wp2_with fail
  refine (HM.out _).mono ?_
  rintro e w' ⟨rfl, rfl⟩
  go_wp2_with fail
  refine (HR.out _).mono ?_
  rintro e w' ⟨rfl, k, rfl⟩
  go_wp2_with fail
  go_ret
  exact ⟨rfl, _, rfl⟩
theorem u64w {x : Int} (h0 : 0 ≤ x) (h1 : x < 4611686018427387904) : IntKind.u64.wrap x = x := by rw [IntKind.wrap_u64]; omega
theorem i64w {x : Int} (h0 : 0 ≤ x) (h1 : x < 4611686018427387904) : IntKind.i64.wrap x = x := by rw [IntKind.wrap_i64]; omega
theorem w64 {x : Int} (h0 : 0 ≤ x) (h1 : x < 4611686018427387904) : wrap64 x = x := by unfold wrap64; omega
/-- group.product: the residue of the product. -/
theorem product_any (a b m : Int) (h0 : 0 < m) (h1 : m < 4611686018427387904) (w : World) :
    Calls Tryd.prog 44 #[.int .i64 a, .int .i64 b, .int .i64 m] w fun e w' => e = .returned (.int .i64 (a * b % m)) ∧ ∃ n, w' = w.drewN n := by
  have hne : m ≠ 0 := by omega
  obtain ⟨x, hx⟩ := Int.eq_ofNat_of_zero_le (Int.emod_nonneg a hne)
  obtain ⟨y, hy⟩ := Int.eq_ofNat_of_zero_le (Int.emod_nonneg b hne)
  have hxl := Int.emod_lt_of_pos a h0
  have hyl := Int.emod_lt_of_pos b h0
  obtain ⟨k, rfl⟩ := Int.eq_ofNat_of_zero_le (show 0 ≤ m by omega)
  have hz : a * b % (k : Int) = ((x * y % k : Nat) : Int) := by
    rw [Int.mul_emod, hx, hy, ← Int.natCast_mul]; rfl
  have hzl : x * y % k < k := Nat.mod_lt _ (by omega)
  have hr := fun W => rem64_any (x * y / 18446744073709551616) (x * y % 18446744073709551616) k (by omega) (by omega) (by omega) W
  have he : x * y / 18446744073709551616 * 18446744073709551616 + x * y % 18446744073709551616 = x * y := by rw [Nat.mul_comm]; exact Nat.div_add_mod _ _
  rw [he] at hr
  rw [hz]
  exact product_walk a b k x y _ _ _ h0 h1 hx hy (u64w (by omega) (by omega)) (u64w (by omega) (by omega)) (u64w (by omega) h1) (w64 (by omega) (by omega)) (i64w (by omega) (by omega))
    (fun W => Tryd.bits_Mul64 x y (by omega) (by omega) W) hr w
open Grp
theorem mul_any (a b : Int) (w : World) : Calls Tryd.prog 25 #[.int .i64 a, .int .i64 b] w fun e w' => e = .returned (.int .i64 (mu a b)) ∧ ∃ n, w' = w.drewN n := by
  have h := fun W => product_any a b 2305843009213691579 (by decide) (by decide) W
  have H : Hid (∀ W, Calls Tryd.prog 44 #[.int .i64 a, .int .i64 b, .int .i64 2305843009213691579] W fun e w' => e = .returned (.int .i64 (mu a b)) ∧ ∃ n, w' = W.drewN n) := Lib.hid h
  clear h
  go_enter Tryd.func25, Tryd.ntmps25
  go_wp2_with fail
  refine (H.out _).mono ?_
  rintro e w' ⟨rfl, k, rfl⟩
  go_wp2_with fail
  go_ret
  exact ⟨rfl, _, rfl⟩
theorem mulq_any (a b : Int) (w : World) : Calls Tryd.prog 36 #[.int .i64 a, .int .i64 b] w fun e w' => e = .returned (.int .i64 (rq (a * b))) ∧ ∃ n, w' = w.drewN n := by
  have h := fun W => product_any a b 1152921504606845789 (by decide) (by decide) W
  have H : Hid (∀ W, Calls Tryd.prog 44 #[.int .i64 a, .int .i64 b, .int .i64 1152921504606845789] W fun e w' => e = .returned (.int .i64 (rq (a * b))) ∧ ∃ n, w' = W.drewN n) := Lib.hid h
  clear h
  go_enter Tryd.func36, Tryd.ntmps36
  go_wp2_with fail
  refine (H.out _).mono ?_
  rintro e w' ⟨rfl, k, rfl⟩
  go_wp2_with fail
  go_ret
  exact ⟨rfl, _, rfl⟩
theorem resq_any (a : Int) (w : World) : Calls Tryd.prog 42 #[.int .i64 a, .int .i64 1152921504606845789] w fun e w' => e = .returned (.int .i64 (rq a)) ∧ w' = w := residue_any a _ (by decide) (by decide) w
theorem resp_any (a : Int) (w : World) : Calls Tryd.prog 42 #[.int .i64 a, .int .i64 2305843009213691579] w fun e w' => e = .returned (.int .i64 (rp a)) ∧ w' = w := residue_any a _ (by decide) (by decide) w
theorem addq_any (a b : Int) (w : World) : Calls Tryd.prog 35 #[.int .i64 a, .int .i64 b] w fun e w' => e = .returned (.int .i64 (rq (a + b))) ∧ w' = w := by
  have e1 : wrap64 (rq a + rq b) = rq a + rq b := w64 (by have := rq_bd a; have := rq_bd b; omega) (by have := rq_bd a; have := rq_bd b; omega)
  have e2 : rq (rq a + rq b) = rq (a + b) := by unfold rq; omega
  have E2 := Lib.hid e2
  clear e2
  go_enter Tryd.func35, Tryd.ntmps35
  go_wp2_with (go_at_call 42; refine (resq_any _ _).mono ?_; rintro e w' ⟨rfl, rfl⟩)
  go_ret
  exact ⟨ret_i E2.out, rfl⟩
end Go.Proofs.YtfmjankmfddefaaDoor.Gp
