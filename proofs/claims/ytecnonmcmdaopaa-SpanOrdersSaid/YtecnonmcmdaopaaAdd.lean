/- exact.Add, exact.Sub and exact.Clamp, and the reference's functions of the same names. Conditions: the arguments are ints. -/
import Derived.Test.YtecnonmcmdaopaaScale
namespace Go.Proofs.Ytecnonmcmdaopaa
open Go.RowKit
set_option linter.unusedVariables false

def I64 (n : Int) : Prop := -9223372036854775808 ≤ n ∧ n ≤ 9223372036854775807
theorem i64_of_wf {n : Int} (h : (Lit.int .i64 n).wf = true) : I64 n := by
  have h1 : IntKind.i64.min = -9223372036854775808 := rfl
  have h2 : IntKind.i64.max = 9223372036854775807 := rfl
  simp only [Lit.wf, Bool.and_eq_true, decide_eq_true_eq] at h
  unfold I64; omega
def lim (s : Int) : Int := if 9223372036854775807 < s then 9223372036854775807 else if s < -9223372036854775808 then -9223372036854775808 else s
theorem lim_hi {s : Int} (h : 9223372036854775807 < s) : lim s = 9223372036854775807 := if_pos h
theorem lim_lo {s : Int} (h : s < -9223372036854775808) : lim s = -9223372036854775808 := by unfold lim; rw [if_neg (by omega), if_pos h]
theorem lim_in {s : Int} (h : I64 s) : lim s = s := by unfold I64 at h; unfold lim; rw [if_neg (by omega), if_neg (by omega)]
theorem lim_bd (s : Int) : I64 (lim s) := by unfold lim I64; (repeat' split) <;> omega
theorem ret_i {a b : Int} (h : a = b) : Ending.returned (.int .i64 a) = .returned (.int .i64 b) := by rw [h]
theorem wrap_in {n : Int} (h : I64 n) : IntKind.i64.wrap n = n := by unfold I64 at h; rw [IntKind.wrap_i64]; omega
def clampV (n l h : Int) : Int := if n < l then l else if h < n then h else n

theorem add_any (a b : Int) (ha : I64 a) (hb : I64 b) (w : World) : Calls Try.prog 29 #[.int .i64 a, .int .i64 b] w fun e w' => e = .returned (.int .i64 (lim (a + b))) ∧ w = w' := by
  have ha' := ha
  have hb' := hb
  unfold I64 at ha' hb'
  by_cases h1 : 0 < b
  · have d1 : decide (0 < b) = true := decide_eq_true h1
    have d1' : decide (b < 0) = false := decide_eq_false (by omega)
    by_cases h2 : 9223372036854775807 - b < a
    · have hl := lim_hi (s := a + b) (by omega)
      have d2 : decide (9223372036854775807 - b < a) = true := decide_eq_true h2
      have HL := Lib.hid hl
      clear hl h2 ha hb
      go_enter Try.func29, Try.ntmps29
      go_wp2_with fail
      go_ret
      exact ⟨ret_i (by first | (rw [HL.out]; done) | (rw [HL.out]; rfl)), rfl⟩
    · have hi : I64 (a + b) := by unfold I64; omega
      have hl := lim_in hi
      have hw := wrap_in hi
      have d2 : decide (9223372036854775807 - b < a) = false := decide_eq_false h2
      have HL := Lib.hid hl
      clear hl h2 hi ha hb
      go_enter Try.func29, Try.ntmps29
      go_wp2_with fail
      go_ret
      exact ⟨ret_i (by first | (rw [HL.out]; done) | (rw [HL.out]; rfl)), rfl⟩
  · have d1 : decide (0 < b) = false := decide_eq_false h1
    by_cases h3 : b < 0
    · have d3 : decide (b < 0) = true := decide_eq_true h3
      by_cases h2 : a < -9223372036854775808 - b
      · have hl := lim_lo (s := a + b) (by omega)
        have d2 : decide (a < -9223372036854775808 - b) = true := decide_eq_true h2
        have HL := Lib.hid hl
        clear hl h2 ha hb
        go_enter Try.func29, Try.ntmps29
        go_wp2_with fail
        go_ret
        exact ⟨ret_i (by first | (rw [HL.out]; done) | (rw [HL.out]; rfl)), rfl⟩
      · have hi : I64 (a + b) := by unfold I64; omega
        have hl := lim_in hi
        have hw := wrap_in hi
        have d2 : decide (a < -9223372036854775808 - b) = false := decide_eq_false h2
        have HL := Lib.hid hl
        clear hl h2 hi ha hb
        go_enter Try.func29, Try.ntmps29
        go_wp2_with fail
        go_ret
        exact ⟨ret_i (by first | (rw [HL.out]; done) | (rw [HL.out]; rfl)), rfl⟩
    · have d3 : decide (b < 0) = false := decide_eq_false h3
      have hi : I64 (a + b) := by unfold I64; omega
      have hl := lim_in hi
      have hw := wrap_in hi
      have HL := Lib.hid hl
      clear hl hi ha hb
      go_enter Try.func29, Try.ntmps29
      go_wp2_with fail
      go_ret
      exact ⟨ret_i (by first | (rw [HL.out]; done) | (rw [HL.out]; rfl)), rfl⟩

theorem sub_any (a b : Int) (ha : I64 a) (hb : I64 b) (w : World) : Calls Try.prog 30 #[.int .i64 a, .int .i64 b] w fun e w' => e = .returned (.int .i64 (lim (a - b))) ∧ w = w' := by
  have ha' := ha
  have hb' := hb
  unfold I64 at ha' hb'
  by_cases h1 : b < 0
  · have d1 : decide (b < 0) = true := decide_eq_true h1
    have d1' : decide (0 < b) = false := decide_eq_false (by omega)
    by_cases h2 : 9223372036854775807 + b < a
    · have hl := lim_hi (s := a - b) (by omega)
      have d2 : decide (9223372036854775807 + b < a) = true := decide_eq_true h2
      have HL := Lib.hid hl
      clear hl h2 ha hb
      go_enter Try.func30, Try.ntmps30
      go_wp2_with fail
      go_ret
      exact ⟨ret_i (by first | (rw [HL.out]; done) | (rw [HL.out]; rfl)), rfl⟩
    · have hi : I64 (a - b) := by unfold I64; omega
      have hl := lim_in hi
      have hw := wrap_in hi
      have d2 : decide (9223372036854775807 + b < a) = false := decide_eq_false h2
      have HL := Lib.hid hl
      clear hl h2 hi ha hb
      go_enter Try.func30, Try.ntmps30
      go_wp2_with fail
      go_ret
      exact ⟨ret_i (by first | (rw [HL.out]; done) | (rw [HL.out]; rfl)), rfl⟩
  · have d1 : decide (b < 0) = false := decide_eq_false h1
    by_cases h3 : 0 < b
    · have d3 : decide (0 < b) = true := decide_eq_true h3
      by_cases h2 : a < -9223372036854775808 + b
      · have hl := lim_lo (s := a - b) (by omega)
        have d2 : decide (a < -9223372036854775808 + b) = true := decide_eq_true h2
        have HL := Lib.hid hl
        clear hl h2 ha hb
        go_enter Try.func30, Try.ntmps30
        go_wp2_with fail
        go_ret
        exact ⟨ret_i (by first | (rw [HL.out]; done) | (rw [HL.out]; rfl)), rfl⟩
      · have hi : I64 (a - b) := by unfold I64; omega
        have hl := lim_in hi
        have hw := wrap_in hi
        have d2 : decide (a < -9223372036854775808 + b) = false := decide_eq_false h2
        have HL := Lib.hid hl
        clear hl h2 hi ha hb
        go_enter Try.func30, Try.ntmps30
        go_wp2_with fail
        go_ret
        exact ⟨ret_i (by first | (rw [HL.out]; done) | (rw [HL.out]; rfl)), rfl⟩
    · have d3 : decide (0 < b) = false := decide_eq_false h3
      have hi : I64 (a - b) := by unfold I64; omega
      have hl := lim_in hi
      have hw := wrap_in hi
      have HL := Lib.hid hl
      clear hl hi ha hb
      go_enter Try.func30, Try.ntmps30
      go_wp2_with fail
      go_ret
      exact ⟨ret_i (by first | (rw [HL.out]; done) | (rw [HL.out]; rfl)), rfl⟩

theorem radd_any (a b : Int) (ha : I64 a) (hb : I64 b) (w : World) : Calls Try.prog 33 #[.int .i64 a, .int .i64 b] w fun e w' => e = .returned (.int .i64 (lim (a + b))) ∧ w = w' := by
  have ha' := ha
  have hb' := hb
  unfold I64 at ha' hb'
  by_cases h1 : 0 < b
  · have d1 : decide (0 < b) = true := decide_eq_true h1
    have d1' : decide (b < 0) = false := decide_eq_false (by omega)
    by_cases h2 : 9223372036854775807 - b < a
    · have hl := lim_hi (s := a + b) (by omega)
      have d2 : decide (9223372036854775807 - b < a) = true := decide_eq_true h2
      have HL := Lib.hid hl
      clear hl h2 ha hb
      go_enter Try.func33, Try.ntmps33
      go_wp2_with fail
      go_ret
      exact ⟨ret_i (by first | (rw [HL.out]; done) | (rw [HL.out]; rfl)), rfl⟩
    · have hi : I64 (a + b) := by unfold I64; omega
      have hl := lim_in hi
      have hw := wrap_in hi
      have d2 : decide (9223372036854775807 - b < a) = false := decide_eq_false h2
      have HL := Lib.hid hl
      clear hl h2 hi ha hb
      go_enter Try.func33, Try.ntmps33
      go_wp2_with fail
      go_ret
      exact ⟨ret_i (by first | (rw [HL.out]; done) | (rw [HL.out]; rfl)), rfl⟩
  · have d1 : decide (0 < b) = false := decide_eq_false h1
    by_cases h3 : b < 0
    · have d3 : decide (b < 0) = true := decide_eq_true h3
      by_cases h2 : a < -9223372036854775808 - b
      · have hl := lim_lo (s := a + b) (by omega)
        have d2 : decide (a < -9223372036854775808 - b) = true := decide_eq_true h2
        have HL := Lib.hid hl
        clear hl h2 ha hb
        go_enter Try.func33, Try.ntmps33
        go_wp2_with fail
        go_ret
        exact ⟨ret_i (by first | (rw [HL.out]; done) | (rw [HL.out]; rfl)), rfl⟩
      · have hi : I64 (a + b) := by unfold I64; omega
        have hl := lim_in hi
        have hw := wrap_in hi
        have d2 : decide (a < -9223372036854775808 - b) = false := decide_eq_false h2
        have HL := Lib.hid hl
        clear hl h2 hi ha hb
        go_enter Try.func33, Try.ntmps33
        go_wp2_with fail
        go_ret
        exact ⟨ret_i (by first | (rw [HL.out]; done) | (rw [HL.out]; rfl)), rfl⟩
    · have d3 : decide (b < 0) = false := decide_eq_false h3
      have hi : I64 (a + b) := by unfold I64; omega
      have hl := lim_in hi
      have hw := wrap_in hi
      have HL := Lib.hid hl
      clear hl hi ha hb
      go_enter Try.func33, Try.ntmps33
      go_wp2_with fail
      go_ret
      exact ⟨ret_i (by first | (rw [HL.out]; done) | (rw [HL.out]; rfl)), rfl⟩

theorem rsub_any (a b : Int) (ha : I64 a) (hb : I64 b) (w : World) : Calls Try.prog 34 #[.int .i64 a, .int .i64 b] w fun e w' => e = .returned (.int .i64 (lim (a - b))) ∧ w = w' := by
  have ha' := ha
  have hb' := hb
  unfold I64 at ha' hb'
  by_cases h1 : b < 0
  · have d1 : decide (b < 0) = true := decide_eq_true h1
    have d1' : decide (0 < b) = false := decide_eq_false (by omega)
    by_cases h2 : 9223372036854775807 + b < a
    · have hl := lim_hi (s := a - b) (by omega)
      have d2 : decide (9223372036854775807 + b < a) = true := decide_eq_true h2
      have HL := Lib.hid hl
      clear hl h2 ha hb
      go_enter Try.func34, Try.ntmps34
      go_wp2_with fail
      go_ret
      exact ⟨ret_i (by first | (rw [HL.out]; done) | (rw [HL.out]; rfl)), rfl⟩
    · have hi : I64 (a - b) := by unfold I64; omega
      have hl := lim_in hi
      have hw := wrap_in hi
      have d2 : decide (9223372036854775807 + b < a) = false := decide_eq_false h2
      have HL := Lib.hid hl
      clear hl h2 hi ha hb
      go_enter Try.func34, Try.ntmps34
      go_wp2_with fail
      go_ret
      exact ⟨ret_i (by first | (rw [HL.out]; done) | (rw [HL.out]; rfl)), rfl⟩
  · have d1 : decide (b < 0) = false := decide_eq_false h1
    by_cases h3 : 0 < b
    · have d3 : decide (0 < b) = true := decide_eq_true h3
      by_cases h2 : a < -9223372036854775808 + b
      · have hl := lim_lo (s := a - b) (by omega)
        have d2 : decide (a < -9223372036854775808 + b) = true := decide_eq_true h2
        have HL := Lib.hid hl
        clear hl h2 ha hb
        go_enter Try.func34, Try.ntmps34
        go_wp2_with fail
        go_ret
        exact ⟨ret_i (by first | (rw [HL.out]; done) | (rw [HL.out]; rfl)), rfl⟩
      · have hi : I64 (a - b) := by unfold I64; omega
        have hl := lim_in hi
        have hw := wrap_in hi
        have d2 : decide (a < -9223372036854775808 + b) = false := decide_eq_false h2
        have HL := Lib.hid hl
        clear hl h2 hi ha hb
        go_enter Try.func34, Try.ntmps34
        go_wp2_with fail
        go_ret
        exact ⟨ret_i (by first | (rw [HL.out]; done) | (rw [HL.out]; rfl)), rfl⟩
    · have d3 : decide (0 < b) = false := decide_eq_false h3
      have hi : I64 (a - b) := by unfold I64; omega
      have hl := lim_in hi
      have hw := wrap_in hi
      have HL := Lib.hid hl
      clear hl hi ha hb
      go_enter Try.func34, Try.ntmps34
      go_wp2_with fail
      go_ret
      exact ⟨ret_i (by first | (rw [HL.out]; done) | (rw [HL.out]; rfl)), rfl⟩

end Go.Proofs.Ytecnonmcmdaopaa
