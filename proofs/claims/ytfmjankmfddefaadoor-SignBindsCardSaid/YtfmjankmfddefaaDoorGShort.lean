/- digest.Short: the number of the first 60 bits of the digest. Conditions: the string has at most 2^40 bytes; the listed variables hold what they are laid with. -/
import Derived.Test.YtfmjankmfddefaaDoorGSum
import Derived.Test.YtfmjankmfddefaaDoorGBuf
namespace Go.Proofs.YtfmjankmfddefaaDoor.Dg
open Go.RowKit Gm
set_option linter.unusedVariables false

/-- The bytes as one number, the first the most significant. -/
def beN : Bs → Nat := fun l => l.foldl (fun x b => x * 256 + b.toNat) 0
theorem beN_snoc (l : Bs) (b : UInt8) : beN (l ++ [b]) = beN l * 256 + b.toNat := by simp [beN]
theorem beN_take (l : Bs) (k : Nat) (h : k < l.length) : beN (l.take (k + 1)) = beN (l.take k) * 256 + (l.getD k 0).toNat := by
  have e : l.getD k 0 = l[k] := by rw [List.getD_eq_getElem?_getD, List.getElem?_eq_getElem h]; rfl
  rw [List.take_succ_eq_append_getElem h, beN_snoc, e]
theorem beN_lt (l : Bs) (k : Nat) (h : k ≤ l.length) : beN (l.take k) < 256 ^ k := by
  induction k with
  | zero => simp [beN]
  | succ k ih =>
    rw [beN_take l k (by omega), Nat.pow_succ]
    have := ih (by omega)
    have := byte_lt (l.getD k 0)
    omega
def shortN (s : Bs) : Nat := beN ((sums s).take 8) / 16
theorem sums_length (s : Bs) : (sums s).length = 32 := by simp [sums, outL]
theorem sv_extract_to (s : Bs) (d : Nat) : (sv s).extract 0 d = sv (s.take d) := by
  apply sv_ext
  rw [ByteArray.data_extract]
  simp [sv]
theorem slice_to8 (s : Bs) (h : s.length = 32) (W : World) : (Instr.slice 9 (.string (sv s)) none (some (.int .i64 8)) none).run Tryd.prog W = .ok (.string (sv (s.take 8))) W := by
  rw [run_slice_string_to_if W 9 (sv s) .i64 _ Tryd.underlying9, if_pos ⟨by omega, by rw [sv_size]; omega⟩]
  rw [show (8 : Int).toNat = 8 from rfl, sv_extract_to]

set_option maxHeartbeats 2000000 in
set_option maxRecDepth 100000 in
theorem short_any (s : Bs) (hs : s.length ≤ 1099511627776) (w : World) (hT : Tb w) : Calls Tryd.prog 45 #[.string (sv s)] w fun e w' => e = .returned (.int .i64 (shortN s : Nat)) ∧ Below w.heap.size w w' := by
  have HSM := Lib.hid (sum_any s hs w hT)
  obtain ⟨N, hN⟩ : ∃ N, shortN s = N := ⟨_, rfl⟩
  obtain ⟨D, hD⟩ : ∃ D, sums s = D := ⟨_, rfl⟩
  have hDl : D.length = 32 := by rw [← hD]; exact sums_length s
  obtain ⟨T, hTk⟩ : ∃ T, D.take 8 = T := ⟨_, rfl⟩
  have HTL : Hid (T.length = 8) := Lib.hid (by rw [← hTk, List.length_take, hDl]; rfl)
  have HN : Hid (N = beN (T.take 8) / 16) := Lib.hid (by rw [← hN, ← hTk, List.take_take, ← hD]; rfl)
  have hsl : ∀ W, (Instr.slice 9 (.string (sv D)) none (some (.int .i64 8)) none).run Tryd.prog W = .ok (.string (sv T)) W := fun W => by rw [← hTk]; exact slice_to8 D hDl W
  rw [hD] at HSM
  rw [hN]
  clear hN hD hDl hTk hT hs
  go_enter Tryd.func45, Tryd.ntmps45
  go_wp2_with fail
  refine HSM.out.mono ?_
  rintro e w1 ⟨rfl, hb1⟩
  obtain ⟨cap, w2, hcv, hbf, hb2⟩ := to_bytes T w1
  rw [HTL.out] at hcv
  have HBF := Lib.hid hbf
  have HB2 : Hid (Below w.heap.size w w2) := Lib.hid (hb1.trans (hb2.mono hb1.size))
  obtain ⟨y, hy⟩ : ∃ y, w1.heap.size = y := ⟨_, rfl⟩
  rw [hy] at hcv HBF
  clear hbf hb1 hb2 hy
  go_wp2_with fail
  go_loop [3, 11] (fun x i => ∃ k : Nat, k ≤ 8 ∧ i = .int .i64 k ∧ x = .int .u64 (beN (T.take k) : Nat)) (fun _ i => 8 - (intOf i).toNat)
  case atStart => exact ⟨0, Nat.zero_le _, rfl, rfl⟩
  case round =>
    obtain ⟨k, hk, rfl, rfl⟩ := hrel
    by_cases hlt : k < 8
    · have dl : decide ((k : Int) < 8) = true := decide_eq_true (by omega)
      have hc := HBF.out.1 k (by rw [HTL.out]; exact hlt)
      have HS := Lib.hid (beN_take T k (by rw [HTL.out]; exact hlt))
      have hlt2 := beN_lt T k (by rw [HTL.out]; exact hk)
      have hbb := byte_lt (T.getD k 0)
      obtain ⟨b, hb⟩ : ∃ b, (T.getD k 0).toNat = b := ⟨_, rfl⟩
      obtain ⟨x, hx⟩ : ∃ x, beN (T.take k) = x := ⟨_, rfl⟩
      rw [hb] at hc HS hbb
      rw [hx] at HS hlt2 ⊢
      have hx56 : x < 72057594037927936 := by
        have h7 : 256 ^ k ≤ 256 ^ 7 := Nat.pow_le_pow_right (by decide) (by omega)
        have : (256 : Nat) ^ 7 = 72057594037927936 := by decide
        omega
      have hk8 : (k : Int) < 8 := by omega
      have hwb : IntKind.u64.wrap (b : Int) = (b : Int) := by rw [IntKind.wrap_u64]; omega
      obtain ⟨z, hz⟩ : ∃ z, x * 256 + b = z := ⟨_, rfl⟩
      have hsh : (x : Int) * 256 % 18446744073709551616 = ((x * 256 : Nat) : Int) := by omega
      have hor : bits .or .u64 ((x * 256 : Nat) : Int) (b : Int) = (z : Int) := by
        rw [u64_or_nat _ _ (by omega) (by omega), show (256 : Nat) = 2 ^ 8 from rfl, or_join 8 x b hbb, ← hz]
      have hor2 : bits .or .u64 ((x : Int) * 256) (b : Int) = (z : Int) := by
        rw [← hor]; congr 1
      clear hb hx hlt2 hbb hx56
      rw [hz] at HS
      clear hz hor
      go_wp2_with fail
      go_round
      case rel => exact ⟨k + 1, by omega, by go_num, by rw [HS.out]⟩
      case measure => simp [intOf]; omega
    · obtain rfl : k = 8 := by omega
      have dl : decide (((8 : Nat) : Int) < 8) = false := by decide
      have hlt2 := beN_lt T 8 (by rw [HTL.out]; exact Nat.le_refl _)
      obtain ⟨x, hx⟩ : ∃ x, beN (T.take 8) = x := ⟨_, rfl⟩
      rw [hx] at HN hlt2 ⊢
      have h64 : (256 : Nat) ^ 8 = 18446744073709551616 := by decide
      rw [h64] at hlt2
      have hdv : (x : Int) / 16 = (N : Int) := by rw [HN.out]; omega
      have hw : wrap64 (N : Int) = (N : Int) := by have := HN.out; unfold wrap64; omega
      clear hx hlt2 h64
      go_wp2_with fail
      go_ret
      exact ⟨ret_i (by first | rfl | simp [hdv, hw]), HB2.out⟩
end Go.Proofs.YtfmjankmfddefaaDoor.Dg
