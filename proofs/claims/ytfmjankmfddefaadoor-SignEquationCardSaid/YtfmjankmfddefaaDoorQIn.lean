/- group.Inv and group.In: the inverse modulo P, and membership in the group. Conditions: none. -/
import Derived.Test.YtfmjankmfddefaaDoorQExp
namespace Go.Proofs.YtfmjankmfddefaaDoor.Gp
set_option linter.unusedVariables false
open Go.RowKit Grp

theorem ret_tb {a b : Int} {x y : Bool} (h : a = b) (h' : x = y) : Ending.returned (.tuple #[.int .i64 a, .bool x]) = .returned (.tuple #[.int .i64 b, .bool y]) := by rw [h, h']
theorem xe_iv {a : Int} (h : rp a ≠ 0) : xe a 2305843009213691577 = iv a := by rw [iv_of h]; rfl
theorem i64p2 : I64 2305843009213691577 := ⟨by decide, by decide⟩
theorem i64qq : I64 1152921504606845789 := ⟨by decide, by decide⟩
theorem inv_any (a : Int) (w : World) : Calls Tryd.prog 23 #[.int .i64 a] w fun x w' => x = .returned (.tuple #[.int .i64 (iv a), .bool (rp a != 0)]) ∧ ∃ n, w' = w.drewN n := by
  by_cases hz : rp a = 0
  · rw [iv_zero hz, show (rp a != 0) = false by rw [hz]; rfl]
    go_enter Tryd.func23, Tryd.ntmps23
    go_wp2_with fail
    refine (resp_any _ _).mono ?_
    rintro x w' ⟨rfl, rfl⟩
    rw [hz]
    go_wp2_with fail
    go_ret2
    exact ⟨rfl, 0, rfl⟩
  · have h := fun W => exp_any a 2305843009213691577 i64p2 W
    rw [xe_iv hz] at h
    have hb : (rp a == 0) = false := beq_eq_false_iff_ne.2 hz
    rw [show (rp a != 0) = true from bne_iff_ne.2 hz]
    have H := Lib.hid h
    clear h hz
    go_enter Tryd.func23, Tryd.ntmps23
    go_wp2_with fail
    refine (resp_any _ _).mono ?_
    rintro x w' ⟨rfl, rfl⟩
    go_wp2_with fail
    refine (H.out _).mono ?_
    rintro x w2 ⟨rfl, k, rfl⟩
    go_wp2_with fail
    go_ret2
    exact ⟨rfl, _, rfl⟩
theorem in_any (y : Int) (w : World) : Calls Tryd.prog 22 #[.int .i64 y] w fun e w' => e = .returned (.bool (inB y)) ∧ ∃ n, w' = w.drewN n := by
  have h := fun W => exp_any y 1152921504606845789 i64qq W
  have H := Lib.hid h
  clear h
  by_cases h0 : 0 < y
  · by_cases h1 : y < 2305843009213691579
    · rw [inB_of h0 h1, ← xe_q]
      have d0 : decide (0 < y) = true := decide_eq_true h0
      have d1 : decide (y < 2305843009213691579) = true := decide_eq_true h1
      clear h0 h1
      go_enter Tryd.func22, Tryd.ntmps22
      go_wp2_with fail
      refine (H.out _).mono ?_
      rintro e w' ⟨rfl, k, rfl⟩
      go_wp2_with fail
      go_ret
      exact ⟨rfl, _, rfl⟩
    · rw [inB_out (.inr (by omega))]
      have d0 : decide (0 < y) = true := decide_eq_true h0
      have d1 : decide (y < 2305843009213691579) = false := decide_eq_false h1
      clear h0 h1
      go_enter Tryd.func22, Tryd.ntmps22
      go_wp2_with fail
      go_ret
      exact ⟨rfl, 0, rfl⟩
  · rw [inB_out (.inl (by omega))]
    have d0 : decide (0 < y) = false := decide_eq_false h0
    clear h0
    go_enter Tryd.func22, Tryd.ntmps22
    go_wp2_with fail
    go_ret
    exact ⟨rfl, 0, rfl⟩
end Go.Proofs.YtfmjankmfddefaaDoor.Gp
