/- torn, where it holds. Conditions: those of the theorem. -/
import Derived.Test.YtjgedopbcopnkaaKLaD
namespace Go.Proofs.Ytjgedopbcopnkaa.Dk
open Go.RowKit Km
set_option linter.unusedVariables false

theorem nz_byte {y : UInt8} (h : y ≠ 0) : ((0 : Int) != ((y.toNat : Nat) : Int)) = true := by
  have h1 : y.toNat ≠ 0 := fun e => h (UInt8.toNat_inj.1 e)
  simp
  omega
set_option maxHeartbeats 4000000 in
theorem torn_yes (s t : Bs) (h : tornB s t = true) (hs : s.length ≤ 16777216) (w : World) : Calls Try.prog 18 #[.string (sv s), .string (sv t)] w fun e w' => e = .returned (.bool true) ∧ Below w.heap.size w w' := by
  have hb : ∀ i, i < s.length → i < t.length ∧ (s.getD i 0 = t.getD i 0 ∨ s.getD i 0 = 0) := by
    intro i hi
    unfold tornB at h
    have := List.all_eq_true.1 h i (List.mem_range.2 hi)
    simpa using this
  have HB := Lib.hid hb
  obtain ⟨N, hN⟩ : ∃ N, s.length = N := ⟨_, rfl⟩
  have hsz : (sv s).size = N := hN
  rw [hN] at hs
  have HN := Lib.hid hN
  clear hb h hN
  go_enter Try.func18, Try.ntmps18
  go_wp2_with fail
  go_loopw [5] (fun i W => ∃ k : Nat, k ≤ N ∧ i = .int .i64 k ∧ Hid (Below w.heap.size w W)) (fun i _ => N - (intOf i).toNat)
  case atStart => exact ⟨0, Nat.zero_le _, rfl, Lib.hid (below_self _)⟩
  case round =>
    obtain ⟨k, hk, rfl, HW⟩ := hrel
    by_cases hlt : k < N
    · obtain ⟨b1, b2⟩ := HB.out k (by rw [HN.out]; exact hlt)
      have hks : k < (sv s).size := by rw [hsz]; exact hlt
      have hkt : k < (sv t).size := by rw [sv_size]; exact b1
      have g1 : (sv s)[k]'hks = s.getD k 0 := sv_get s k hks
      have g2 : (sv t)[k]'hkt = t.getD k 0 := sv_get t k hkt
      have hkti : ¬ (((sv t).size : Nat) : Int) ≤ ((k : Nat) : Int) := by omega
      have hksi : ((k : Nat) : Int) < (((sv s).size : Nat) : Int) := by omega
      have hkti' : ((k : Nat) : Int) < (((sv t).size : Nat) : Int) := by omega
      by_cases e : s.getD k 0 = t.getD k 0
      · rw [← e] at g2
        have HE := Lib.hid b2
        clear b2 e
        generalize s.getD k 0 = x at *
        go_upto_region 4 with fail
        go_region
        go_wp2_with fail
        go_roundw
        case rel => exact ⟨k + 1, by omega, by go_num, Lib.hid HW.out.drew⟩
        case measure => simp [intOf]; omega
      · have e0 : s.getD k 0 = 0 := by rcases b2 with h | h; exact absurd h e; exact h
        rw [e0] at g1
        have hne : ((0 : Int) != (((t.getD k 0).toNat : Nat) : Int)) = true := nz_byte (by rw [e0] at e; exact fun h => e h.symm)
        clear b2 e e0
        generalize t.getD k 0 = y at *
        go_upto_region 4 with fail
        go_region
        go_wp2_with fail
        go_roundw
        case rel => exact ⟨k + 1, by omega, by go_num, Lib.hid HW.out.drew⟩
        case measure => simp [intOf]; omega
    · obtain rfl : k = N := by omega
      go_wp2_with fail
      go_ret
      exact ⟨rfl, HW.out⟩
end Go.Proofs.Ytjgedopbcopnkaa.Dk
