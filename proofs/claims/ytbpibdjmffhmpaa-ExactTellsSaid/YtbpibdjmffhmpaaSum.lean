/- exact.Sum returns the exact sum of a list of ints, if it is an int. Conditions: the list can be read, and takes at most 2^47 bytes. -/
import Derived.Test.YtbpibdjmffhmpaaScale
import Derived.Test.YtbpibdjmffhmpaaMath
namespace Go.Proofs.Ytbpibdjmffhmpaa
set_option linter.unusedVariables false
open Go.RowKit Mth

def sumB (l : List Int) : Bool := fits (tot l)
def sumN (l : List Int) : Int := if sumB l then tot l else 0

theorem shr63 (n : Int) (h : -9223372036854775808 ≤ n ∧ n ≤ 9223372036854775807) : IntKind.u64.wrap (n / 9223372036854775808) = n / 9223372036854775808 % 18446744073709551616 := by rw [IntKind.wrap_u64]

theorem run_add (x y : Int) (hx : 0 ≤ x) (hy : 0 ≤ y) (w : World) :
    (callFunc 33 #[.int .u64 x, .int .u64 y, .int .u64 0]).run Try.prog w = .ok (.value (.tuple #[.int .u64 ((x + y) % 18446744073709551616), .int .u64 ((x + y) / 18446744073709551616)])) w := by
  rw [run_callFunc_extern Try.func33 (by kernel_rfl) (by kernel_rfl) (by kernel_rfl) (e := add64Entry) (by kernel_rfl), run_add64 x y 0 hx hy (by omega) (by omega)]
  simp only [Result.andThen, Int.add_zero]
theorem ret_ib {a b : Int} {x y : Bool} (h : a = b) (hx : x = y) : Ending.returned (.tuple #[.int .i64 a, .bool x]) = .returned (.tuple #[.int .i64 b, .bool y]) := by rw [h, hx]

set_option maxHeartbeats 800000 in
theorem sum_some (b off c : Nat) (zs : List Int) (w : World) (hlen : zs.length * 8 ≤ 140737488351232) (hf : Fits zs)
    (hc : ∀ j, j < zs.length → w.cell? ⟨b, off + j, none⟩ = some (.int .i64 (zs.getD j 0))) :
    Calls Try.prog 14 #[.slice (some ⟨b, off, none⟩) zs.length c] w fun e w' => e = .returned (.tuple #[.int .i64 (sumN zs), .bool (sumB zs)]) ∧ w = w' := by
  have HC := Lib.hid hc
  clear hc
  go_enter Try.func14, Try.ntmps14
  go_wp2
  go_loop [4, 5, 12] (fun h l i => ∃ k : Nat, k ≤ zs.length ∧ i = .int .i64 k ∧ h = .int .u64 (hi (tot (zs.take k))) ∧ l = .int .u64 (lo (tot (zs.take k)))) (fun _ _ i => zs.length - (intOf i).toNat)
  case atStart => exact ⟨0, Nat.zero_le _, rfl, by simp [tot, hi], by simp [tot, lo]⟩
  case round =>
    obtain ⟨k, hk, rfl, rfl, rfl⟩ := hrel
    by_cases hlt : k < zs.length
    · have hcell := HC.out k hlt
      have hs := tot_snoc zs k hlt
      obtain ⟨n, hn⟩ : ∃ n, n = zs.getD k 0 := ⟨_, rfl⟩
      have hb := hf.getD k
      rw [← hn] at hcell hs hb
      have HS := Lib.hid hs
      have HN := Lib.hid hn
      have l1 := lo_bd (tot (zs.take k))
      have l2 := hi_bd (tot (zs.take k))
      clear hs hn
      generalize tot (zs.take k) = s at *
      have hls := lo_step s n
      have hhs := hi_step s n hb.1 hb.2
      have HLS := Lib.hid hls
      have HHS := Lib.hid hhs
      have e1 : IntKind.u64.wrap n = n % 18446744073709551616 := by rw [IntKind.wrap_u64]
      have ha := run_add (lo s) (n % 18446744073709551616) (by omega) (by omega)
      rw [hls] at ha
      have e2 := shr63 n hb
      have e3 : IntKind.u64.wrap (hi s + IntKind.u64.wrap (n / 9223372036854775808 % 18446744073709551616 + (lo s + n % 18446744073709551616) / 18446744073709551616)) = hi (s + n) := by rw [IntKind.wrap_u64, IntKind.wrap_u64]; exact hhs
      clear hls hhs
      go_wp2
      go_round
      case rel => exact ⟨k + 1, by omega, by go_num, by rw [HS.out], by rw [HS.out]⟩
      case measure => simp [intOf]; omega
    · obtain rfl : k = zs.length := by omega
      rw [List.take_length]
      have hB := tot_bound hf
      have e1 : IntKind.i64.wrap (lo (tot zs)) = low (tot zs) := by rw [IntKind.wrap_i64]; rfl
      have l1 : -9223372036854775808 ≤ low (tot zs) ∧ low (tot zs) ≤ 9223372036854775807 := by unfold low; omega
      have e2 := shr63 _ l1
      cases hfit : fits (tot zs) with
      | true =>
        have h1 := end_yes hfit
        have h2 : (hi (tot zs) == low (tot zs) / 9223372036854775808 % 18446744073709551616) = true := beq_iff_eq.2 h1
        have h3 : (hi (tot zs) != low (tot zs) / 9223372036854775808 % 18446744073709551616) = false := by simp [h1]
        have hv := low_eq hfit
        have HV := Lib.hid hv
        have HF := Lib.hid hfit
        clear h1 hv hfit hB
        go_wp2
        go_ret2
        exact ⟨ret_ib (by rw [HV.out, sumN, sumB, HF.out]; rfl) (by rw [sumB, HF.out]), rfl⟩
      | false =>
        have h1 := end_no hfit (by omega) (by omega)
        have h2 : (hi (tot zs) == low (tot zs) / 9223372036854775808 % 18446744073709551616) = false := beq_eq_false_iff_ne.2 h1
        have h3 : (hi (tot zs) != low (tot zs) / 9223372036854775808 % 18446744073709551616) = true := by simp [h1]
        have HF := Lib.hid hfit
        clear h1 hfit hB
        go_wp2
        go_ret2
        exact ⟨ret_ib (by rw [sumN, sumB, HF.out]; rfl) (by rw [sumB, HF.out]), rfl⟩

theorem sum_none (a : Option Addr) (c : Nat) (w : World) :
    Calls Try.prog 14 #[.slice a 0 c] w fun e w' => e = .returned (.tuple #[.int .i64 0, .bool true]) ∧ w = w' := by
  go_enter Try.func14, Try.ntmps14
  go_wp2
  refine wp_loop_rounds 1 ?_
  rw [rounds_succ]
  go_wp2
  go_ret2
  exact ⟨rfl, rfl⟩
end Go.Proofs.Ytbpibdjmffhmpaa
