/- wal.firstRow: the row whose record a file begins with. Conditions: a file of at most 2^30 bytes. -/
import Derived.Test.YtdjchpejhfkknaaLFun
namespace Go.Proofs.Ytdjchpejhfkknaa.Lw
open Go.RowKit Km Dk
open Lm hiding Bs
set_option linter.unusedVariables false
set_option maxRecDepth 100000

theorem ofInt_64 (x : Nat) (h : x < 4294967296) : (BitVec.ofInt 64 (x : Int)).toNat = x := by
  rw [BitVec.toNat_ofInt]
  omega
theorem or_low (a m : Nat) (ha : a < 16777216) (hm : m < 256) : bits .or .i64 ((a * 256 : Nat) : Int) ((m : Nat) : Int) = ((a * 256 + m : Nat) : Int) := by
  have hx : a * 256 ||| m = a * 256 + m := by
    have := Nat.two_pow_add_eq_or_of_lt (i := 8) (b := m) (by omega) a
    rw [Nat.mul_comm a 256]
    exact this.symm
  show IntKind.i64.wrap ((BitVec.ofInt 64 ((a * 256 : Nat) : Int) ||| BitVec.ofInt 64 (m : Int)).toNat : Int) = _
  rw [BitVec.toNat_or, ofInt_64 _ (by omega), ofInt_64 m (by omega), hx, IntKind.wrap_i64]
  omega
theorem sv_extract (l : Bs) (a b : Nat) : (sv l).extract a b = sv ((l.drop a).take (b - a)) := by
  apply sv_ext
  simp [sv, ByteArray.data_extract]
theorem wrap_256 (a : Nat) (ha : a < 16777216) : wrap64 (((a : Nat) : Int) * 256) = ((a * 256 : Nat) : Int) := by unfold wrap64; omega
theorem wrap_some (c a : Nat) (ha : a < 16777216) (hc : c < 1000) : wrap64 (((c : Nat) : Int) + ((a : Nat) : Int)) = ((c + a : Nat) : Int) := by unfold wrap64; omega
theorem slice_mid (s : Bs) (a b : Nat) (h : a ≤ b) (hb : b ≤ s.length) (W : World) : (Instr.slice 9 (.string (sv s)) (some (.int .i64 ((a : Nat) : Int))) (some (.int .i64 ((b : Nat) : Int))) none).run Try.prog W = .ok (.string (sv ((s.drop a).take (b - a)))) W := by
  rw [run_slice_string W 9 (sv s) .i64 .i64 _ _ Try.underlying9 (by omega) (by omega) (by rw [sv_size]; omega), Int.toNat_natCast, Int.toNat_natCast, sv_extract]
theorem hasPrefix_any (x p : Bs) (w : World) : Calls Try.prog 90 #[.string (sv x), .string (sv p)] w fun e w' => e = .returned (.bool (decide (p <+: x))) ∧ w = w' :=
  (Try.strings_HasPrefix (sv x) (sv p) w).mono fun e w' h => ⟨by
    rw [h.1, sv_list, sv_list]
    apply ret_b
    unfold Lib.hasPrefix
    rw [Bool.eq_iff_iff, decide_eq_true_iff, List.isPrefixOf_iff_prefix], h.2.symm⟩
def firstV (x : Bs) : Array Value := match first x with
  | none => #[.string ⟨#[]⟩, .bool false]
  | some b => #[.string (sv b), .bool true]
set_option maxHeartbeats 2000000 in
theorem firstRow_any (x : Bs) (hx : x.length ≤ 1000000000) (w : World) : Calls Try.prog 77 #[.string (sv x)] w fun e w' => e = .returned (.tuple (firstV x)) ∧ Below w.heap.size w w' := by
  have hs : (sv x).size = x.length := rfl
  have HXX := Lib.hid hx
  clear hx
  by_cases h7 : x.length < 7
  · have hf : firstV x = #[.string ⟨#[]⟩, .bool false] := by unfold firstV first; rw [if_pos h7]
    rw [hf]
    clear hf
    generalize sv x = S at *
    generalize x.length = n at *
    have d7 : decide (((n : Nat) : Int) < 7) = true := decide_eq_true (by omega)
    go_enter Try.func77, Try.ntmps77
    go_wp2_with fail
    go_ret2
    exact ⟨rfl, below_self _⟩
  · have g1 : (sv x)[1]'(by omega) = x.getD 1 0 := Dg.sv_get x 1 _
    have hk2 : 2 < (sv x).size := by omega
    have g2 : (sv x)[2]'hk2 = x.getD 2 0 := Dg.sv_get x 2 _
    have hk3 : 3 < (sv x).size := by omega
    have g3 : (sv x)[3]'hk3 = x.getD 3 0 := Dg.sv_get x 3 _
    have b1 := (x.getD 1 0).toNat_lt
    have b2 := (x.getD 2 0).toNat_lt
    have b3 := (x.getD 3 0).toNat_lt
    have d7 : decide (((x.length : Nat) : Int) < 7) = false := decide_eq_false (by omega)
    obtain ⟨n, hn⟩ : ∃ n, x.length = n := ⟨_, rfl⟩
    rw [hn] at hs d7
    obtain ⟨B1, hB1⟩ : ∃ b, x.getD 1 0 = b := ⟨_, rfl⟩
    obtain ⟨B2, hB2⟩ : ∃ b, x.getD 2 0 = b := ⟨_, rfl⟩
    obtain ⟨B3, hB3⟩ : ∃ b, x.getD 3 0 = b := ⟨_, rfl⟩
    rw [hB1] at g1 b1
    rw [hB2] at g2 b2
    rw [hB3] at g3 b3
    obtain ⟨m1, hm1⟩ : ∃ m : Nat, B1.toNat = m := ⟨_, rfl⟩
    obtain ⟨m2, hm2⟩ : ∃ m : Nat, B2.toNat = m := ⟨_, rfl⟩
    obtain ⟨m3, hm3⟩ : ∃ m : Nat, B3.toNat = m := ⟨_, rfl⟩
    rw [hm1] at b1
    rw [hm2] at b2
    rw [hm3] at b3
    obtain ⟨H, hH⟩ : ∃ H, hdr x = H := ⟨_, rfl⟩
    have hHe : m1 * 65536 + m2 * 256 + m3 = H := by rw [← hH]; unfold hdr; rw [hB1, hB2, hB3, hm1, hm2, hm3]
    have hHl : H < 16777216 := by omega
    have hh3 : (m1 * 256 + m2) * 256 + m3 = H := by omega
    have l2 : m1 * 256 + m2 < 16777216 := by omega
    have o1 : bits .or .i64 0 ((m1 : Nat) : Int) = ((m1 : Nat) : Int) := by
      have := or_low 0 m1 (by omega) b1
      rw [Nat.zero_mul, Nat.zero_add] at this
      exact this
    have o2 := or_low m1 m2 (by omega) b2
    rw [Int.natCast_mul] at o2
    have o2 : bits .or .i64 (((m1 : Nat) : Int) * 256) ((m2 : Nat) : Int) = ((m1 * 256 + m2 : Nat) : Int) := o2
    have o3 := or_low (m1 * 256 + m2) m3 l2 b3
    rw [hh3] at o3
    have w1 := wrap_256 m1 (by omega)
    have w2 := wrap_256 (m1 * 256 + m2) l2
    have w7 : wrap64 (7 + ((H : Nat) : Int)) = ((7 + H : Nat) : Int) := wrap_some 7 H hHl (by omega)
    have w4 : wrap64 (4 + ((H : Nat) : Int)) = ((4 + H : Nat) : Int) := wrap_some 4 H hHl (by omega)
    have hex := sv_extract x 4 (4 + H)
    rw [Nat.add_sub_cancel_left] at hex
    have W1 := Lib.hid w1
    have W2 := Lib.hid w2
    have W7 := Lib.hid w7
    have W4 := Lib.hid w4
    have O1 := Lib.hid o1
    have O2 := Lib.hid o2
    have O3 := Lib.hid o3
    clear w1 w2 w7 w4 o1 o2 o3
    by_cases hbad : 1048576 < H ∨ n < 7 + H
    · have hf : firstV x = #[.string ⟨#[]⟩, .bool false] := by unfold firstV first; rw [if_neg h7, hH, hn, if_pos hbad]
      rw [hf]
      have HBAD := Lib.hid hbad
      have dA : decide ((1048576 : Int) < ((H : Nat) : Int)) = decide (1048576 < H) := by congr 1; apply propext; omega
      have dB : decide (n < 7 + H) = decide (n < 7 + H) := rfl
      have w1 := W1.out
      have w2 := W2.out
      have w7 := W7.out
      have o1 := O1.out
      have o2 := O2.out
      have o3 := O3.out
      clear hf hB1 hB2 hB3 hHe hbad hH hex hHl l2 hh3 W1 W2 W7 W4 O1 O2 O3
      generalize (m1 * 256 + m2) * 256 = y2 at *
      generalize m1 * 256 + m2 = s2 at *
      generalize m1 * 256 = y1 at *
      generalize 7 + H = H7 at *
      by_cases hA : 1048576 < H
      · rw [decide_eq_true hA] at dA
        go_enter Try.func77, Try.ntmps77
        go_wp2_with fail
        refine wp_loop_rounds 4 ?_
        rw [rounds_succ]
        go_wp2_with fail
        rw [rounds_succ]
        go_wp2_with fail
        rw [rounds_succ]
        go_wp2_with fail
        rw [rounds_succ]
        go_wp2_with fail
        go_ret2
        exact ⟨rfl, below_self _⟩
      · rw [decide_eq_false hA] at dA
        have hB : n < H7 := HBAD.out.resolve_left hA
        rw [decide_eq_true hB] at dB
        clear hA
        go_enter Try.func77, Try.ntmps77
        go_wp2_with fail
        refine wp_loop_rounds 4 ?_
        rw [rounds_succ]
        go_wp2_with fail
        rw [rounds_succ]
        go_wp2_with fail
        rw [rounds_succ]
        go_wp2_with fail
        rw [rounds_succ]
        go_wp2_with fail
        go_ret2
        exact ⟨rfl, below_self _⟩
    · have dA : decide ((1048576 : Int) < ((H : Nat) : Int)) = false := decide_eq_false (by omega)
      have dB : decide (n < 7 + H) = false := decide_eq_false (by omega)
      obtain ⟨row, hrow⟩ : ∃ row, (x.drop 4).take H = row := ⟨_, rfl⟩
      rw [hrow] at hex
      have hsl : ∀ W, (Instr.slice 9 (.string (sv x)) (some (.int .i64 4)) (some (.int .i64 ((4 + H : Nat) : Int))) none).run Try.prog W = .ok (.string (sv row)) W := fun W => by
        have h := slice_mid x 4 (4 + H) (by omega) (by omega) W
        rw [Nat.add_sub_cancel_left, hrow] at h
        exact h
      have HSL := Lib.hid hsl
      have hrl : row.length = H := by rw [← hrow, List.length_take, List.length_drop]; omega
      have HR := Lib.hid (fun W => record_any row (by have := HXX.out; omega) W)
      have HP := Lib.hid (fun W => hasPrefix_any x (recB row) W)
      have hf : firstV x = if recB row <+: x then #[.string (sv row), .bool true] else #[.string ⟨#[]⟩, .bool false] := by
        have he : first x = if recB row <+: x then some row else none := by
          unfold first
          rw [if_neg h7, hH, hn, if_neg hbad, hrow]
        unfold firstV
        rw [he]
        by_cases hp : recB row <+: x
        · rw [if_pos hp, if_pos hp]
        · rw [if_neg hp, if_neg hp]
      have HF := Lib.hid hf
      have w1 := W1.out
      have w2 := W2.out
      have w7 := W7.out
      have w4 := W4.out
      have o1 := O1.out
      have o2 := O2.out
      have o3 := O3.out
      clear hB1 hB2 hB3 hHe hH hrow hrl hf hHl hbad hex HSL l2 hh3 W1 W2 W7 W4 O1 O2 O3
      generalize (m1 * 256 + m2) * 256 = y2 at *
      generalize m1 * 256 + m2 = s2 at *
      generalize m1 * 256 = y1 at *
      generalize 7 + H = H7 at *
      generalize 4 + H = H4 at *
      by_cases hp : recB row <+: x
      · have HD := Lib.hid (decide_eq_true hp)
        have HF2 := Lib.hid (HF.out.trans (if_pos hp))
        clear HF hp
        go_enter Try.func77, Try.ntmps77
        go_wp2_with fail
        refine wp_loop_rounds 4 ?_
        rw [rounds_succ]
        go_wp2_with fail
        rw [rounds_succ]
        go_wp2_with fail
        rw [rounds_succ]
        go_wp2_with fail
        rw [rounds_succ]
        go_wp2_with fail
        --GG
        refine (HR.out _).mono ?_
        rintro e w1 ⟨rfl, hb1⟩
        have HB1 := Lib.hid hb1
        clear hb1
        go_wp2_with fail
        refine (HP.out _).mono ?_
        rintro e w2 ⟨rfl, rfl⟩
        rw [HD.out]
        go_wp2_with fail
        go_ret2
        exact ⟨by rw [HF2.out]; rfl, HB1.out⟩
      · have HD := Lib.hid (decide_eq_false hp)
        have HF2 := Lib.hid (HF.out.trans (if_neg hp))
        clear HF hp
        go_enter Try.func77, Try.ntmps77
        go_wp2_with fail
        refine wp_loop_rounds 4 ?_
        rw [rounds_succ]
        go_wp2_with fail
        rw [rounds_succ]
        go_wp2_with fail
        rw [rounds_succ]
        go_wp2_with fail
        rw [rounds_succ]
        go_wp2_with fail
        refine (HR.out _).mono ?_
        rintro e w1 ⟨rfl, hb1⟩
        have HB1 := Lib.hid hb1
        clear hb1
        go_wp2_with fail
        refine (HP.out _).mono ?_
        rintro e w2 ⟨rfl, rfl⟩
        rw [HD.out]
        go_wp2_with fail
        go_ret2
        exact ⟨by rw [HF2.out]; rfl, HB1.out⟩
end Go.Proofs.Ytdjchpejhfkknaa.Lw
