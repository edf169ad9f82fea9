/- digest.Crc: what it returns is the checksum of the plain mathematics. Conditions: none (every string). -/
import Derived.Test.YtdjchpejhfkknaaGWords
namespace Go.Proofs.Ytdjchpejhfkknaa.Dg
open Go.RowKit Gm
set_option linter.unusedVariables false

theorem reg_take (x : Nat) (s : Bs) (k : Nat) (h : k < s.length) : reg x (s.take (k + 1)) = feed (reg x (s.take k)) (s.getD k 0) := by
  have e : s.getD k 0 = s[k] := by rw [List.getD_eq_getElem?_getD, List.getElem?_eq_getElem h]; rfl
  have e1 : ∀ (y : Nat) (b : UInt8), reg y [b] = feed y b := fun _ _ => rfl
  rw [List.take_succ_eq_append_getElem h, reg_append, e, e1]
theorem steps_succ (k x : Nat) : steps (k + 1) x = stp (steps k x) := by
  induction k generalizing x with
  | zero => rfl
  | succ k ih => show steps (k + 1) (stp x) = _; rw [ih]; rfl
theorem sv_get (s : Bs) (k : Nat) (h : k < (sv s).size) : (sv s)[k] = s.getD k 0 := by
  have h' : k < s.length := h
  have e : (sv s)[k] = s[k] := by
    show (s.toArray)[k] = s[k]
    rw [List.getElem_toArray]
  refine e.trans ?_
  rw [List.getD_eq_getElem?_getD, List.getElem?_eq_getElem h']
  rfl
theorem step_odd {x : Nat} (h : x % 2 = 1) : stp x = (x / 2) ^^^ 33800 := by unfold stp; rw [if_pos h]
theorem step_even {x : Nat} (h : x % 2 = 0) : stp x = x / 2 := by unfold stp; rw [if_neg (by omega)]

set_option maxHeartbeats 2000000 in
set_option maxRecDepth 20000 in
theorem crc_any (s : Bs) (hs : s.length ≤ 140737488351232) (w : World) : Calls Try.prog 84 #[.string (sv s)] w fun e w' => e = .returned (.int .i64 (crc s : Nat)) ∧ w = w' := by
  obtain ⟨n, hn⟩ : ∃ n, s.length = n := ⟨_, rfl⟩
  have hsz : (sv s).size = n := hn
  have HC := Lib.hid (show crc s = reg 65535 (s.take n) ^^^ 65535 by rw [← hn, List.take_length]; rfl)
  have HX := Lib.hid (fun k (h : k < n) => reg_take 65535 s k (by omega))
  have HL := Lib.hid (fun k => reg_lt (x := 65535) (by decide) (s.take k))
  have HG := Lib.hid (fun k (h : k < (sv s).size) => sv_get s k h)
  obtain ⟨c, hc⟩ : ∃ c, crc s = c := ⟨_, rfl⟩
  rw [hc] at HC ⊢
  clear hc
  go_enter Try.func84, Try.ntmps84
  go_wp2_with fail
  go_loop [3, 8] (fun c i => ∃ k : Nat, k ≤ n ∧ i = .int .i64 k ∧ c = .int .u16 (reg 65535 (s.take k) : Nat)) (fun _ i => n - (intOf i).toNat)
  case atStart => exact ⟨0, Nat.zero_le _, rfl, rfl⟩
  case round =>
    obtain ⟨k, hk, rfl, rfl⟩ := hrel
    by_cases hlt : k < n
    · have dl : decide ((k : Int) < (n : Int)) = true := decide_eq_true (by omega)
      obtain ⟨x, hx⟩ : ∃ x, reg 65535 (s.take k) = x := ⟨_, rfl⟩
      have hxl := HL.out k
      have HXk := Lib.hid (HX.out k hlt)
      rw [hx] at hxl HXk ⊢
      have HXl := Lib.hid hxl
      clear hx hxl
      obtain ⟨b, hb⟩ : ∃ b, (s.getD k 0) = b := ⟨_, rfl⟩
      have hget : (sv s)[k]'(by omega) = b := (HG.out k (by omega)).trans hb
      rw [hb] at HXk
      obtain ⟨m, hm⟩ : ∃ m : Nat, b.toNat = m := ⟨_, rfl⟩
      have hmb := byte_lt b
      obtain ⟨y0, hy0⟩ : ∃ y, x ^^^ m = y := ⟨_, rfl⟩
      have hx0 : bits .xor .u16 (x : Int) (m : Int) = (y0 : Int) := by rw [u16_xor_nat _ _ HXl.out (by omega), hy0]
      have HF : Hid (reg 65535 (s.take (k + 1)) = steps 8 y0) := Lib.hid (by rw [HXk.out]; unfold feed; rw [hm, hy0])
      have HY : Hid (y0 < 65536) := Lib.hid (by rw [← hy0]; exact xor_lt HXl.out (by omega))
      clear hy0
      have hwm : IntKind.u16.wrap (m : Int) = (m : Int) := by rw [IntKind.wrap_u16]; omega
      go_upto_block 1 with fail
      go_cut [3, 4, 5] from 10 to 28 (fun c o j wc => c = .int .u16 (steps 8 y0 : Nat) ∧ w = wc)
      case first =>
        go_wp2_with fail
        go_loop [3, 17] (fun c j => ∃ i : Nat, i ≤ 8 ∧ j = .int .i64 i ∧ c = .int .u16 (steps i y0 : Nat)) (fun _ j => 8 - (intOf j).toNat)
        case atStart => exact ⟨0, Nat.zero_le _, rfl, rfl⟩
        case round =>
          obtain ⟨i, hi, rfl, rfl⟩ := hrel
          by_cases hlt : i < 8
          · have dl : decide ((i : Int) < 8) = true := decide_eq_true (by omega)
            have HS := Lib.hid (steps_succ i y0)
            have HB := Lib.hid (steps_lt i HY.out)
            obtain ⟨y, hy⟩ : ∃ y, steps i y0 = y := ⟨_, rfl⟩
            rw [hy] at HS HB ⊢
            clear hy
            have hand : bits .and .u16 (y : Int) 1 = ((y % 2 : Nat) : Int) := by rw [show (1 : Int) = ((1 : Nat) : Int) from rfl, u16_and_nat _ _ HB.out (by decide), nat_mask1]
            obtain ⟨h, hh⟩ : ∃ h : Nat, y / 2 = h := ⟨_, rfl⟩
            have hdiv : (y : Int) / 2 = (h : Int) := by omega
            rcases Nat.mod_two_eq_zero_or_one y with hp | hp
            · rw [hp] at hand
              have HE : Hid (steps (i + 1) y0 = h) := Lib.hid (by rw [HS.out, step_even hp, hh])
              clear hh hp
              go_wp2_with fail
              go_round
              case rel => exact ⟨i + 1, by omega, by go_num, by rw [HE.out]⟩
              case measure => simp [intOf]; omega
            · rw [hp] at hand
              obtain ⟨z, hz⟩ : ∃ z : Nat, h ^^^ 33800 = z := ⟨_, rfl⟩
              have hxor : bits .xor .u16 (h : Int) 33800 = (z : Int) := by rw [show (33800 : Int) = ((33800 : Nat) : Int) from rfl, u16_xor_nat _ _ (by have := HB.out; omega) (by decide), hz]
              have HE : Hid (steps (i + 1) y0 = z) := Lib.hid (by rw [HS.out, step_odd hp, hh, hz])
              clear hh hp hz
              go_wp2_with fail
              go_round
              case rel => exact ⟨i + 1, by omega, by go_num, by rw [HE.out]⟩
              case measure => simp [intOf]; omega
          · obtain rfl : i = 8 := by omega
            go_wp2_with fail
            go_meet
            exact ⟨rfl, rfl⟩
      case rest =>
        obtain ⟨rfl, rfl⟩ := hcut
        go_wp2_with fail
        go_round
        case rel => exact ⟨k + 1, by omega, by go_num, by rw [HF.out]⟩
        case measure => simp [intOf]; omega
    · obtain rfl : k = n := by omega
      have dl : decide ((k : Int) < (k : Int)) = false := decide_eq_false (by omega)
      have HLk := Lib.hid (HL.out k)
      obtain ⟨x, hx⟩ : ∃ x, reg 65535 (s.take k) = x := ⟨_, rfl⟩
      rw [hx] at HC HLk ⊢
      have hxm : bits BinOp.xor IntKind.u16 IntKind.u16.max (x : Int) = (c : Int) := by
        rw [show IntKind.u16.max = ((65535 : Nat) : Int) from rfl, u16_xor_nat _ _ (by decide) HLk.out, Nat.xor_comm, ← HC.out]
      have hcl : c < 65536 := by rw [HC.out]; exact xor_lt HLk.out (by decide)
      have hcw : wrap64 (c : Int) = (c : Int) := by unfold wrap64; omega
      clear hx hcl
      go_wp2_with fail
      go_ret
      exact ⟨rfl, rfl⟩
end Go.Proofs.Ytdjchpejhfkknaa.Dg
