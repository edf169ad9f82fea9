/- bourneref03.Crc: the same checksum. Conditions: none (every string within the model's reach). -/
import Derived.Test.YtobhbdaenlkodaaDoorGCrc
namespace Go.Proofs.YtobhbdaenlkodaaDoor
open Go.RowKit Gm
set_option linter.unusedVariables false

theorem i64x (a b : Nat) (ha : a < 65536) (hb : b < 65536) : bits .xor .i64 (a : Int) (b : Int) = ((a ^^^ b : Nat) : Int) := by
  have hx : a ^^^ b < 2 ^ 16 := Nat.xor_lt_two_pow (n := 16) ha hb
  show IntKind.i64.wrap ((BitVec.ofInt 64 (a : Int) ^^^ BitVec.ofInt 64 (b : Int)).toNat : Int) = _
  rw [BitVec.toNat_xor, ofInt_u64 a (by omega), ofInt_u64 b (by omega), IntKind.wrap_i64]
  omega
theorem i64x_poly (h : Nat) (hh : h < 65536) : bits .xor .i64 (h : Int) 33800 = ((h ^^^ 33800 : Nat) : Int) := i64x h 33800 hh (by decide)
theorem i64x_all (h : Nat) (hh : h < 65536) : bits .xor .i64 (h : Int) 65535 = ((h ^^^ 65535 : Nat) : Int) := i64x h 65535 hh (by decide)
theorem wrap64_small (h : Nat) (hh : h < 65536) : wrap64 (h : Int) = (h : Int) := by unfold wrap64; omega
theorem meas8 (i : Nat) (hi : i < 8) : 8 - (intOf (.int .i64 ((i : Int) + 1))).toNat < 8 - (intOf (.int .i64 (i : Int))).toNat := by simp [intOf]; omega
set_option maxHeartbeats 2000000 in
set_option maxRecDepth 20000 in
theorem rcrc_any (s : Bs) (hs : s.length ≤ 2000) (w : World) : Calls Tryd.prog 17 #[.string (sv s)] w fun e w' => e = .returned (.int .i64 (crc s : Nat)) ∧ w = w' := by
  obtain ⟨n, hn⟩ : ∃ n, s.length = n := ⟨_, rfl⟩
  have hsz : (sv s).size = n := hn
  have HC := Lib.hid (show crc s = reg 65535 (s.take n) ^^^ 65535 by rw [← hn, List.take_length]; rfl)
  have HX := Lib.hid (fun k (h : k < n) => reg_take 65535 s k (by omega))
  have HL := Lib.hid (fun k => reg_lt (x := 65535) (by decide) (s.take k))
  have HG := Lib.hid (fun k (h : k < (sv s).size) => sv_get s k h)
  obtain ⟨c, hc⟩ : ∃ c, crc s = c := ⟨_, rfl⟩
  rw [hc] at HC ⊢
  rw [hn] at hs
  clear hc hn
  go_enter Tryd.func17, Tryd.ntmps17
  go_wp2_with fail
  go_loop [3, 4] (fun c i => ∃ k : Nat, k ≤ n ∧ i = .int .i64 k ∧ c = .int .i64 (reg 65535 (s.take k) : Nat)) (fun _ i => n - (intOf i).toNat)
  case atStart => exact ⟨0, Nat.zero_le _, rfl, rfl⟩
  case round =>
    obtain ⟨k, hk, rfl, rfl⟩ := hrel
    by_cases hlt : k < n
    · have dl : decide ((k : Int) < (n : Int)) = true := decide_eq_true (by omega)
      obtain ⟨x, hx⟩ : ∃ x, reg 65535 (s.take k) = x := ⟨_, rfl⟩
      have hxl := HL.out k
      have HXk := Lib.hid (HX.out k hlt)
      rw [hx] at hxl HXk ⊢
      have HXl := Lib.hid hxl
      clear hx hxl
      obtain ⟨b, hb⟩ : ∃ b, (s.getD k 0) = b := ⟨_, rfl⟩
      have hks : k < (sv s).size := by omega
      have hget : (sv s)[k]'hks = b := (HG.out k hks).trans hb
      rw [hb] at HXk
      obtain ⟨m, hm⟩ : ∃ m : Nat, b.toNat = m := ⟨_, rfl⟩
      have hmb := byte_lt b
      obtain ⟨y0, hy0⟩ : ∃ y, x ^^^ m = y := ⟨_, rfl⟩
      have hx0 : bits .xor .i64 (x : Int) (m : Int) = (y0 : Int) := by rw [i64x _ _ HXl.out (by omega), hy0]
      have HF : Hid (reg 65535 (s.take (k + 1)) = steps 8 y0) := Lib.hid (by rw [HXk.out]; unfold feed; rw [hm, hy0])
      have HY : Hid (y0 < 65536) := Lib.hid (by rw [← hy0]; exact xor_lt HXl.out (by omega))
      rw [hm] at hmb
      clear hy0 hb HXk
      go_upto_block 1 with fail
      go_cut [3, 5] from 12 to 29 (fun c o wc => c = .int .i64 (steps 8 y0 : Nat) ∧ w = wc)
      case first =>
        go_wp2_with fail
        go_loop [3, 5] (fun c j => ∃ i : Nat, i ≤ 8 ∧ j = .int .i64 i ∧ c = .int .i64 (steps i y0 : Nat)) (fun _ j => 8 - (intOf j).toNat)
        case atStart => exact ⟨0, Nat.zero_le _, rfl, rfl⟩
        case round =>
          obtain ⟨i, hi, rfl, rfl⟩ := hrel
          by_cases hlt : i < 8
          · have dl : decide ((i : Int) < 8) = true := decide_eq_true (by omega)
            have HS := Lib.hid (steps_succ i y0)
            have HB := Lib.hid (steps_lt i HY.out)
            obtain ⟨y, hy⟩ : ∃ y, steps i y0 = y := ⟨_, rfl⟩
            rw [hy] at HS HB ⊢
            clear hy
            obtain ⟨h, hh⟩ : ∃ h : Nat, y / 2 = h := ⟨_, rfl⟩
            have hdiv : (y : Int) / 2 = (h : Int) := by omega
            have HH6 : Hid (h < 65536) := Lib.hid (by have := HB.out; omega)
            have htdiv : Int.tdiv (y : Int) 2 = (h : Int) := by rw [Int.tdiv_eq_ediv_of_nonneg (by omega)]; exact hdiv
            have hodd0 : Int.tmod (y : Int) 2 = ((y % 2 : Nat) : Int) := by rw [Int.tmod_eq_emod_of_nonneg (by omega)]; omega
            have hodd1 : (y : Int) % 2 = ((y % 2 : Nat) : Int) := by omega
            have hw : wrap64 (h : Int) = (h : Int) := wrap64_small h HH6.out
            rcases Nat.mod_two_eq_zero_or_one y with hp | hp
            · rw [hp] at hodd0 hodd1
              have HE : Hid (steps (i + 1) y0 = h) := Lib.hid (by rw [HS.out, step_even hp, hh])
              clear hh hp
              go_wp2_with fail
              go_round
              case rel => exact ⟨i + 1, by omega, by go_num, by rw [HE.out, hw]⟩
              case measure => exact meas8 i hlt
            · rw [hp] at hodd0 hodd1
              obtain ⟨z, hz⟩ : ∃ z : Nat, h ^^^ 33800 = z := ⟨_, rfl⟩
              have hxor : bits .xor .i64 (h : Int) 33800 = (z : Int) := (i64x_poly h HH6.out).trans (by rw [hz])
              have HE : Hid (steps (i + 1) y0 = z) := Lib.hid (by rw [HS.out, step_odd hp, hh, hz])
              clear hh hp hz
              go_wp2_with fail
              go_round
              case rel => exact ⟨i + 1, by omega, by go_num, by rw [HE.out]⟩
              case measure => exact meas8 i hlt
          · obtain rfl : i = 8 := by omega
            go_wp2_with fail
            go_meet
            exact ⟨rfl, rfl⟩
      case rest =>
        obtain ⟨rfl, rfl⟩ := hcut
        go_wp2_with fail
        go_round
        case rel => exact ⟨k + 1, by omega, by go_num, by rw [HF.out]⟩
        case measure => simp [intOf]; omega
    · obtain rfl : k = n := by omega
      have dl : decide ((k : Int) < (k : Int)) = false := decide_eq_false (by omega)
      have HLk := Lib.hid (HL.out k)
      obtain ⟨x, hx⟩ : ∃ x, reg 65535 (s.take k) = x := ⟨_, rfl⟩
      rw [hx] at HC HLk ⊢
      have hxm : bits BinOp.xor IntKind.i64 (x : Int) 65535 = (c : Int) := (i64x_all x HLk.out).trans (by rw [← HC.out])
      clear hx
      go_wp2_with fail
      go_ret
      exact ⟨rfl, rfl⟩
end Go.Proofs.YtobhbdaenlkodaaDoor
