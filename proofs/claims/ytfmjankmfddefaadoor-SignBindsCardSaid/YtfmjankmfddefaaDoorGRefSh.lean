/- bourneref03.Short: the same number. Conditions: the string has at most 5000 bytes. -/
import Derived.Test.YtfmjankmfddefaaDoorGShort
import Derived.Test.YtfmjankmfddefaaDoorGRefSt
namespace Go.Proofs.YtfmjankmfddefaaDoor.Dg
open Go.RowKit Gm
set_option linter.unusedVariables false

theorem beN8 (D : Bs) (h : 8 ≤ D.length) : beN (D.take 8) / 16 = beN (D.take 7) * 16 + (D.getD 7 0).toNat / 16 := by
  rw [beN_take D 7 (by omega)]
  omega
theorem wrap64_60 (h : Nat) (hh : h < 2 ^ 60) : wrap64 (h : Int) = (h : Int) := by unfold wrap64; omega
theorem wrap64_60b (h : Nat) (hh : h < 2305843009213693952) : wrap64 (h : Int) = (h : Int) := by unfold wrap64; omega
set_option maxHeartbeats 2000000 in
set_option maxRecDepth 100000 in
theorem rshort_any (HRC : Hid RComp) (s : Bs) (hs : s.length ≤ 5000) (w : World) : Calls Tryd.prog 29 #[.string (sv s)] w fun e w' => e = .returned (.int .i64 (shortN s : Nat)) ∧ Below w.heap.size w w' := by
  have HSM := Lib.hid (rsum_any HRC s hs w)
  obtain ⟨N, hN⟩ : ∃ N, shortN s = N := ⟨_, rfl⟩
  obtain ⟨D, hD⟩ : ∃ D, sums s = D := ⟨_, rfl⟩
  have hDl : D.length = 32 := by rw [← hD]; exact sums_length s
  have HDL := Lib.hid hDl
  have hsz : (sv D).size = 32 := hDl
  have HN : Hid (N = beN (D.take 7) * 16 + (D.getD 7 0).toNat / 16) := Lib.hid (by rw [← hN, ← beN8 D (by omega), ← hD]; rfl)
  have HG := Lib.hid (fun k (h : k < (sv D).size) => sv_get D k h)
  rw [hD] at HSM
  rw [hN]
  clear hN hD hDl hs
  go_enter Tryd.func29, Tryd.ntmps29
  go_wp2_with fail
  refine HSM.out.mono ?_
  rintro e w1 ⟨rfl, hb1⟩
  have HB1 := Lib.hid hb1
  clear hb1 HSM
  go_wp2_with fail
  go_loop [4, 5] (fun x i => ∃ k : Nat, k ≤ 7 ∧ i = .int .i64 k ∧ x = .int .i64 (beN (D.take k) : Nat)) (fun _ i => 7 - (intOf i).toNat)
  case atStart => exact ⟨0, Nat.zero_le _, rfl, rfl⟩
  case round =>
    obtain ⟨k, hk, rfl, rfl⟩ := hrel
    by_cases hlt : k < 7
    · have dl : decide ((k : Int) < 7) = true := decide_eq_true (by omega)
      have hks : k < (sv D).size := by omega
      have HS := Lib.hid (beN_take D k (by rw [HDL.out]; omega))
      have hlt2 := beN_lt D k (by rw [HDL.out]; omega)
      obtain ⟨c, hc⟩ : ∃ c, D.getD k 0 = c := ⟨_, rfl⟩
      have hget : (sv D)[k]'hks = c := (HG.out k hks).trans hc
      have hbb := byte_lt c
      obtain ⟨b, hb⟩ : ∃ b, c.toNat = b := ⟨_, rfl⟩
      obtain ⟨x, hx⟩ : ∃ x, beN (D.take k) = x := ⟨_, rfl⟩
      rw [hc, hb] at HS
      rw [hb] at hbb
      rw [hx] at HS hlt2 ⊢
      have hx56 : x < 281474976710656 := by
        have h7 : 256 ^ k ≤ 256 ^ 6 := Nat.pow_le_pow_right (by decide) (by omega)
        have : (256 : Nat) ^ 6 = 281474976710656 := by decide
        omega
      obtain ⟨y, hy⟩ : ∃ y, x * 256 = y := ⟨_, rfl⟩
      obtain ⟨z, hz⟩ : ∃ z, y + b = z := ⟨_, rfl⟩
      have m1 : (x : Int) * 256 = (y : Int) := by omega
      have m3 : (y : Int) + (b : Int) = (z : Int) := by omega
      have m2 : wrap64 (y : Int) = (y : Int) := wrap64_60 y (by omega)
      have m4 : wrap64 (z : Int) = (z : Int) := wrap64_60 z (by omega)
      have M4 := Lib.hid m4
      rw [hy, hz] at HS
      clear hc hx hlt2 hx56 hy hz
      go_wp2_with fail
      go_round
      case rel => exact ⟨k + 1, by omega, by go_num, by rw [HS.out, M4.out]⟩
      case measure => simp [intOf]; omega
    · obtain rfl : k = 7 := by omega
      have dl : decide (((7 : Nat) : Int) < 7) = false := by decide
      have hks : 7 < (sv D).size := by omega
      have hlt2 := beN_lt D 7 (by rw [HDL.out]; decide)
      obtain ⟨c, hc⟩ : ∃ c, D.getD 7 0 = c := ⟨_, rfl⟩
      have hget : (sv D)[7]'hks = c := (HG.out 7 hks).trans hc
      have hbb := byte_lt c
      obtain ⟨b, hb⟩ : ∃ b, c.toNat = b := ⟨_, rfl⟩
      obtain ⟨x, hx⟩ : ∃ x, beN (D.take 7) = x := ⟨_, rfl⟩
      rw [hc, hb, hx] at HN
      rw [hb] at hbb
      rw [hx] at hlt2 ⊢
      obtain ⟨q, hq⟩ : ∃ q, b / 16 = q := ⟨_, rfl⟩
      obtain ⟨y, hy⟩ : ∃ y, x * 16 = y := ⟨_, rfl⟩
      rw [hq, hy] at HN
      have h56 : (256 : Nat) ^ 7 = 72057594037927936 := by decide
      rw [h56] at hlt2
      have m1 : (x : Int) * 16 = (y : Int) := by omega
      have m2 : wrap64 (y : Int) = (y : Int) := wrap64_60b y (by omega)
      have m3 : (y : Int) + (q : Int) = (N : Int) := by rw [HN.out]; omega
      have m4 : wrap64 (N : Int) = (N : Int) := wrap64_60b N (by rw [HN.out]; omega)
      have m5 : (b : Int) / 16 = (q : Int) := by omega
      have m6 : Int.tdiv (b : Int) 16 = (q : Int) := by rw [Int.tdiv_eq_ediv_of_nonneg (by omega)]; exact m5
      clear hx hlt2 h56 hy hq hc
      go_wp2_with fail
      go_ret
      exact ⟨rfl, HB1.out⟩
end Go.Proofs.YtfmjankmfddefaaDoor.Dg
