/- The reference's times returns the residue of a product of two residues, by doubling and adding. Conditions: both are residues of a modulus below 2^62. -/
import Derived.Test.YtfmjankmfddefaaDoorQMod
import Derived.Deep.DeepCutAuto
namespace Go.Proofs.YtfmjankmfddefaaDoor.Gp
set_option linter.unusedVariables false
open Go.RowKit Grp

theorem times_step {x a b m x' a' z : Int} (hx : x' % m = (x + a * (b % 2)) % m) (ha : a' % m = (a + a) % m) (h : (x + a * b) % m = z) : (x' + a' * (b / 2)) % m = z := by
  have h1 : (x' + a' * (b / 2)) % m = (x + a * (b % 2) + (a + a) * (b / 2)) % m := by
    rw [Int.add_emod, Int.mul_emod, hx, ha, ← Int.mul_emod, ← Int.add_emod]
  have h2 : a * b = a * (b % 2) + (a + a) * (b / 2) := by
    conv => lhs; rw [show b = b % 2 + 2 * (b / 2) by omega]
    rw [Int.mul_add, ← Int.mul_assoc, Int.mul_comm a 2]
    rw [show 2 * a = a + a by omega]
  rw [h1, Int.add_assoc, ← h2, h]
/-- what the loop holds -/
def Tm (m z x a b : Int) : Prop := 0 ≤ x ∧ x < m ∧ 0 ≤ a ∧ a < m ∧ 0 ≤ b ∧ (x + a * b) % m = z
theorem red {m s : Int} (h0 : 0 ≤ s) (h1 : s < m + m) : (m ≤ s → 0 ≤ s - m ∧ s - m < m ∧ (s - m) % m = s % m) ∧ (¬ m ≤ s → s < m) := by
  refine ⟨fun h => ⟨by omega, by omega, ?_⟩, fun h => by omega⟩
  rw [Int.sub_emod_right]

set_option maxHeartbeats 1600000 in
theorem times_walk (a b m z : Int) (h0 : 0 < m) (h1 : m < 4611686018427387904) (hT : Tm m z 0 a b) (w : World) :
    Calls Tryd.prog 50 #[.int .i64 a, .int .i64 b, .int .i64 m] w fun e w' => e = .returned (.int .i64 z) ∧ w' = w := by
  have HM := Lib.hid h1
  have H0 := Lib.hid h0
  have HT := Lib.hid hT
  clear h0 h1 hT
  go_enter Tryd.func50, Tryd.ntmps50
  go_wp2_with fail
  go_loop [0, 1, 7] (fun u v x => ∃ A B X : Int, u = .int .i64 A ∧ v = .int .i64 B ∧ x = .int .i64 X ∧ Hid (Tm m z X A B)) (fun _ v _ => (intOf v).toNat)
  case atStart => exact ⟨a, b, 0, rfl, rfl, rfl, HT⟩
  case round =>
    obtain ⟨A, B, X, rfl, rfl, rfl, HI⟩ := hrel
    by_cases hB : 0 < B
    · obtain ⟨i1, i2, i3, i4, i5, i6⟩ := HI.out
      have m0 := H0.out
      have m1 := HM.out
      obtain ⟨s, hs⟩ : ∃ s, X + A = s := ⟨_, rfl⟩
      obtain ⟨t, ht⟩ : ∃ t, A + A = t := ⟨_, rfl⟩
      have w1 : wrap64 (X + A) = s := by unfold wrap64; omega
      have w2 : wrap64 (A + A) = t := by unfold wrap64; omega
      have w3 : m ≤ s → wrap64 (s - m) = s - m := fun h => by unfold wrap64; omega
      have w4 : m ≤ t → wrap64 (t - m) = t - m := fun h => by unfold wrap64; omega
      have W1 := Lib.hid w1
      have W2 := Lib.hid w2
      have hb := and1 B
      have h2 : B % 2 = 0 ∨ B % 2 = 1 := by omega
      have r1 := red (m := m) (s := s) (by omega) (by omega)
      have r2 := red (m := m) (s := t) (by omega) (by omega)
      have bh : 0 ≤ B / 2 ∧ (B / 2).toNat < B.toNat := by omega
      have stp := fun x' a' hx ha => times_step (x := X) (a := A) (b := B) (m := m) (x' := x') (a' := a') hx ha i6
      rw [ht] at stp
      have I := Lib.hid (And.intro i1 (And.intro i2 (And.intro i3 i4)))
      have B1 := Lib.hid bh
      have STP := Lib.hid stp
      have W3 := Lib.hid w3
      have W4 := Lib.hid w4
      have R1 := Lib.hid r1
      have R2 := Lib.hid r2
      have HS := Lib.hid hs
      have HT2 := Lib.hid ht
      clear stp w3 w4 r1 r2 i1 i2 i3 i4 i5 i6 m0 m1 hs ht bh HI
      rcases h2 with h2 | h2
      · rw [h2] at hb
        have n0 : ∀ a', a' % m = t % m → 0 ≤ a' → a' < m → Tm m z X a' (B / 2) := fun a' ha g1 g2 => ⟨I.out.1, I.out.2.1, g1, g2, B1.out.1, STP.out X a' (by rw [h2, Int.mul_zero, Int.add_zero]) ha⟩
        have N0 := Lib.hid n0
        clear h2 n0
        by_cases c2 : m ≤ t
        · have d2 : decide (m ≤ t) = true := decide_eq_true c2
          have N := Lib.hid (N0.out (t - m) (R2.out.1 c2).2.2 (R2.out.1 c2).1 (R2.out.1 c2).2.1)
          have w4 := W4.out c2
          have V4 := Lib.hid w4
          clear c2
          go_wp2_with fail
          clear w1 w2 w4 hb
          go_round
          case rel => exact ⟨_, _, _, rfl, rfl, rfl, by rw [V4.out]; exact N⟩
          case measure => exact B1.out.2
        · have d2 : decide (m ≤ t) = false := decide_eq_false c2
          have N := Lib.hid (N0.out t rfl (by have := I.out; have := HT2.out; omega) (R2.out.2 c2))
          clear c2
          go_wp2_with fail
          clear w1 w2 hb
          go_round
          case rel => exact ⟨_, _, _, rfl, rfl, rfl, by rw [W2.out]; exact N⟩
          case measure => exact B1.out.2
      · rw [h2] at hb
        have n0 : ∀ x' a', x' % m = s % m → 0 ≤ x' → x' < m → a' % m = t % m → 0 ≤ a' → a' < m → Tm m z x' a' (B / 2) := fun x' a' hx k1 k2 ha g1 g2 => ⟨k1, k2, g1, g2, B1.out.1, STP.out x' a' (by rw [h2, Int.mul_one, HS.out]; exact hx) ha⟩
        have N0 := Lib.hid n0
        clear h2 n0
        by_cases c1 : m ≤ s
        · have d1 : decide (m ≤ s) = true := decide_eq_true c1
          have w3 := W3.out c1
          have V3 := Lib.hid w3
          have N1 := Lib.hid (fun a' => N0.out (s - m) a' (R1.out.1 c1).2.2 (R1.out.1 c1).1 (R1.out.1 c1).2.1)
          clear c1
          by_cases c2 : m ≤ t
          · have d2 : decide (m ≤ t) = true := decide_eq_true c2
            have N := Lib.hid (N1.out (t - m) (R2.out.1 c2).2.2 (R2.out.1 c2).1 (R2.out.1 c2).2.1)
            have w4 := W4.out c2
            have V4 := Lib.hid w4
            clear c2
            go_wp2_with fail
            clear w1 w2 w3 w4 hb
            go_round
            case rel => exact ⟨_, _, _, rfl, rfl, rfl, by rw [V3.out, V4.out]; exact N⟩
            case measure => exact B1.out.2
          · have d2 : decide (m ≤ t) = false := decide_eq_false c2
            have N := Lib.hid (N1.out t rfl (by have := I.out; have := HT2.out; omega) (R2.out.2 c2))
            clear c2
            go_wp2_with fail
            clear w1 w2 w3 hb
            go_round
            case rel => exact ⟨_, _, _, rfl, rfl, rfl, by rw [V3.out, W2.out]; exact N⟩
            case measure => exact B1.out.2
        · have d1 : decide (m ≤ s) = false := decide_eq_false c1
          have N1 := Lib.hid (fun a' => N0.out s a' rfl (by have := I.out; have := HS.out; omega) (R1.out.2 c1))
          clear c1
          by_cases c2 : m ≤ t
          · have d2 : decide (m ≤ t) = true := decide_eq_true c2
            have N := Lib.hid (N1.out (t - m) (R2.out.1 c2).2.2 (R2.out.1 c2).1 (R2.out.1 c2).2.1)
            have w4 := W4.out c2
            have V4 := Lib.hid w4
            clear c2
            go_wp2_with fail
            clear w1 w2 w4 hb
            go_round
            case rel => exact ⟨_, _, _, rfl, rfl, rfl, by rw [W1.out, V4.out]; exact N⟩
            case measure => exact B1.out.2
          · have d2 : decide (m ≤ t) = false := decide_eq_false c2
            have N := Lib.hid (N1.out t rfl (by have := I.out; have := HT2.out; omega) (R2.out.2 c2))
            clear c2
            go_wp2_with fail
            clear w1 w2 hb
            go_round
            case rel => exact ⟨_, _, _, rfl, rfl, rfl, by rw [W1.out, W2.out]; exact N⟩
            case measure => exact B1.out.2
    · obtain ⟨i1, i2, i3, i4, i5, i6⟩ := HI.out
      obtain rfl : B = 0 := by omega
      obtain rfl : X = z := by rw [← i6, Int.mul_zero, Int.add_zero, Int.emod_eq_of_lt i1 i2]
      clear i1 i2 i3 i4 i5 i6 HI
      go_wp2_with fail
      go_ret
      exact ⟨rfl, rfl⟩
theorem times_any (a b m : Int) (h1 : m < 4611686018427387904) (ha : 0 ≤ a ∧ a < m) (hb : 0 ≤ b) (w : World) :
    Calls Tryd.prog 50 #[.int .i64 a, .int .i64 b, .int .i64 m] w fun e w' => e = .returned (.int .i64 (a * b % m)) ∧ w' = w :=
  times_walk a b m _ (by omega) h1 ⟨Int.le_refl _, by omega, ha.1, ha.2, hb, by rw [Int.zero_add]⟩ w
end Go.Proofs.YtfmjankmfddefaaDoor.Gp
