/- bourneref03.word: a word of a block; bytes behind the end are 0. Conditions: the string has at most 5000 bytes; the place is at most 8000. -/
import Derived.Test.YtfmjankmfddefaaDoorGWordL
namespace Go.Proofs.YtfmjankmfddefaaDoor.Dg
open Go.RowKit Gm
set_option linter.unusedVariables false

/-- The word at a place of a text. -/
def wAt (s : Bs) (a : Nat) : Nat := (s.getD a 0).toNat + 256 * (s.getD (a + 1) 0).toNat + 65536 * (s.getD (a + 2) 0).toNat + 16777216 * (s.getD (a + 3) 0).toNat
theorem drop_getD (s : Bs) (d k : Nat) : (s.drop d).getD k 0 = s.getD (d + k) 0 := by
  rw [List.getD_eq_getElem?_getD, List.getElem?_drop, List.getD_eq_getElem?_getD]
theorem wordN_wAt (s : Bs) (d j : Nat) (hj : j < 16) : wordN ((s.drop d).take 64) j = wAt s (d + 4 * j) := by
  unfold wordN wAt
  rw [take_getD, take_getD, take_getD, take_getD, if_pos (by omega), if_pos (by omega), if_pos (by omega), if_pos (by omega), drop_getD, drop_getD, drop_getD, drop_getD]
  rfl
/-- The upper bytes of the word, from number k on. -/
def wUp (s : Bs) (a k : Nat) : Nat := leN (([a, a + 1, a + 2, a + 3].drop k).map fun i => s.getD i 0)
theorem wUp_top (s : Bs) (a : Nat) : wUp s a 4 = 0 := rfl
theorem wUp_all (s : Bs) (a : Nat) : wUp s a 0 = wAt s a := by
  show (s.getD a 0).toNat + 256 * ((s.getD (a + 1) 0).toNat + 256 * ((s.getD (a + 2) 0).toNat + 256 * ((s.getD (a + 3) 0).toNat + 256 * 0))) = _
  unfold wAt
  omega
theorem wUp_step (s : Bs) (a k : Nat) (hk : k < 4) : wUp s a k = (s.getD (a + k) 0).toNat + 256 * wUp s a (k + 1) ∧ wUp s a (k + 1) < 16777216 := by
  have b1 := byte_lt (s.getD (a + 1) 0)
  have b2 := byte_lt (s.getD (a + 2) 0)
  have b3 := byte_lt (s.getD (a + 3) 0)
  have hc : k = 0 ∨ k = 1 ∨ k = 2 ∨ k = 3 := by omega
  rcases hc with rfl | rfl | rfl | rfl
  · refine ⟨rfl, ?_⟩
    show (s.getD (a + 1) 0).toNat + 256 * ((s.getD (a + 2) 0).toNat + 256 * ((s.getD (a + 3) 0).toNat + 256 * 0)) < _
    omega
  · refine ⟨rfl, ?_⟩
    show (s.getD (a + 2) 0).toNat + 256 * ((s.getD (a + 3) 0).toNat + 256 * 0) < _
    omega
  · refine ⟨rfl, ?_⟩
    show (s.getD (a + 3) 0).toNat + 256 * 0 < _
    omega
  · exact ⟨rfl, by show 0 < 16777216; decide⟩
set_option maxHeartbeats 2000000 in
set_option maxRecDepth 100000 in
theorem rword_any (s : Bs) (hs : s.length ≤ 5000) (a : Nat) (ha : a ≤ 8000) (w : World) : Calls Tryd.prog 76 #[.string (sv s), .int .i64 a] w fun e w' => e = .returned (.int .u32 (wAt s a : Nat)) ∧ w = w' := by
  obtain ⟨n, hn⟩ : ∃ n, s.length = n := ⟨_, rfl⟩
  have hsz : (sv s).size = n := hn
  have HG := Lib.hid (fun k (h : k < (sv s).size) => sv_get s k h)
  have HO : Hid (∀ k, n ≤ k → s.getD k 0 = 0) := Lib.hid (fun k hk => by rw [List.getD_eq_getElem?_getD, List.getElem?_eq_none (by omega)]; rfl)
  have HST := Lib.hid (fun k (hk : k < 4) => wUp_step s a k hk)
  have HA := Lib.hid (wUp_all s a)
  have HT := Lib.hid (wUp_top s a)
  obtain ⟨V, hV⟩ : ∃ V, wAt s a = V := ⟨_, rfl⟩
  rw [hV] at HA ⊢
  rw [hn] at hs
  clear hV hn
  go_enter Tryd.func76, Tryd.ntmps76
  go_wp2_with fail
  go_loop [5, 6] (fun x i => ∃ k : Nat, k ≤ 4 ∧ i = .int .i64 ((k : Int) - 1) ∧ x = .int .u32 (wUp s a k : Nat)) (fun _ i => (intOf i + 1).toNat)
  case atStart => exact ⟨4, Nat.le_refl _, rfl, by rw [HT.out]; rfl⟩
  case round =>
    obtain ⟨k, hk, rfl, rfl⟩ := hrel
    cases k with
    | zero =>
      have dl : decide ((0 : Int) ≤ ((0 : Nat) : Int) - 1) = false := by decide
      rw [HA.out]
      go_wp2_with fail
      go_ret
      exact ⟨rfl, rfl⟩
    | succ k =>
      have e0 : ((k + 1 : Nat) : Int) - 1 = (k : Int) := by omega
      rw [e0]
      have dl : decide ((0 : Int) ≤ (k : Int)) = true := decide_eq_true (by omega)
      have hst := HST.out k (by omega)
      obtain ⟨x, hx⟩ : ∃ x, wUp s a (k + 1) = x := ⟨_, rfl⟩
      rw [hx] at hst ⊢
      obtain ⟨b, hb⟩ : ∃ b, s.getD (a + k) 0 = b := ⟨_, rfl⟩
      have hbb := byte_lt b
      rw [hb] at hst
      obtain ⟨z, hz⟩ : ∃ z, wUp s a k = z := ⟨_, rfl⟩
      rw [hz] at hst
      have hsh : (x : Int) * 256 % 4294967296 = ((x * 256 : Nat) : Int) := by omega
      have HZ : Hid (wUp s a k = z) := Lib.hid hz
      obtain ⟨y, hy⟩ : ∃ y, x * 256 = y := ⟨_, rfl⟩
      rw [hy] at hsh
      by_cases hat : a + k < n
      · have da : decide ((a : Int) + (k : Int) < (n : Int)) = true := decide_eq_true (by omega)
        have hks : a + k < (sv s).size := by omega
        have hget : (sv s)[a + k]'hks = b := (HG.out _ hks).trans hb
        have hor : bits .or .u32 (y : Int) (b.toNat : Int) = (z : Int) := by
          rw [u32_or_nat _ _ (by omega) (by omega), ← hy, show (256 : Nat) = 2 ^ 8 from rfl, or_join 8 x b.toNat hbb, hst.1]
          omega
        have hwb : IntKind.u32.wrap (b.toNat : Int) = (b.toNat : Int) := by rw [IntKind.wrap_u32]; omega
        have htn : ((a : Int) + (k : Int)).toNat = a + k := by omega
        have hlt' : (a : Int) + (k : Int) < (n : Int) := by omega
        clear hx hb hbb hst hz hy
        go_wp2_with fail
        exact ⟨⟨k, by omega, rfl, by rw [HZ.out]⟩, by simp [intOf]⟩
      · have da : decide ((a : Int) + (k : Int) < (n : Int)) = false := decide_eq_false (by omega)
        have hb0 : b = 0 := by rw [← hb]; exact HO.out _ (by omega)
        have hyz : y = z := by rw [hst.1, hb0, ← hy]; show x * 256 = 0 + 256 * x; omega
        clear hx hb hbb hst hz hy hat hb0
        go_wp2_with fail
        exact ⟨⟨k, by omega, rfl, by rw [hsh, hyz, HZ.out]⟩, by simp [intOf]⟩
end Go.Proofs.YtfmjankmfddefaaDoor.Dg
