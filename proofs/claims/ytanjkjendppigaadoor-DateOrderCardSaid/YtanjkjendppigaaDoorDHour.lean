/- Hour gives the hour of a date. Conditions: the listed variables hold what the text gives them. -/
import Derived.Test.YtanjkjendppigaaDoorDRof
namespace Go.Proofs.YtanjkjendppigaaDoor.Dy
open Go.RowKit Cal
set_option linter.unusedVariables false
set_option maxRecDepth 100000

def okI (y m d h : Int) : Prop := (2000 ≤ y ∧ 1 ≤ m ∧ m ≤ 12 ∧ 1 ≤ d ∧ d ≤ lenI y m ∧ 0 ≤ h ∧ h ≤ 23) ∧ hourOf y.toNat m.toNat d.toNat h.toNat ≤ 16777216
instance (y m d h : Int) : Decidable (okI y m d h) := by unfold okI; infer_instance
def hourN (y m d h : Int) : Int := if okI y m d h then ((hourOf y.toNat m.toNat d.toNat h.toNat : Nat) : Int) else 0
def hourV (y m d h : Int) : Value := .tuple #[.int .i64 (hourN y m d h), .bool (decide (okI y m d h))]
theorem hourV_none {y m d h : Int} (hh : ¬ okI y m d h) : hourV y m d h = .tuple #[.int .i64 0, .bool false] := by unfold hourV hourN; rw [if_neg hh, decide_eq_false hh]
theorem hourV_some {y m d h : Int} (hh : okI y m d h) : hourV y m d h = .tuple #[.int .i64 ((hourOf y.toNat m.toNat d.toNat h.toNat : Nat) : Int), .bool true] := by unfold hourV hourN; rw [if_pos hh, decide_eq_true hh]
theorem lenI_le (y m : Int) (h1 : 1 ≤ m) (h2 : m ≤ 12) : lenI y m ≤ ((len 2000 m.toNat : Nat) : Int) := by
  have e : ((len 2000 m.toNat : Nat) : Int) = lenI 2000 m := by
    have h := lenI_nat 2000 m.toNat
    rw [show ((m.toNat : Nat) : Int) = m by omega] at h
    exact h.symm
  rw [e]
  have h0 : leapI 2000 := by decide
  unfold lenI
  rw [if_pos h0]
  repeat' split
  all_goals omega
theorem far_hour {y m d h : Nat} (hy : 3916 ≤ y) : 16777216 < hourOf y m d h := by
  unfold hourOf
  have h1 := S_mono (show 12 * 1916 ≤ 12 * (y - 2000) + (m - 1) by omega)
  have h2 : S (12 * 1916) = 699804 := by rw [S_year]; decide
  omega
/-- A date's block; nothing else is new. -/
structure Mh (w : World) (g : Nat) (cs : Array Value) (W : World) : Prop where
  blk : Blk W g 23 cs
  bel : Below w.heap.size w W
  wd : Wd W
theorem Wd.drewN {w : World} (h : Wd w) (n : Nat) : Wd (w.drewN n) := h.below (below_drewN w n)
theorem Mh.drewN {w : World} {g : Nat} {cs : Array Value} {W : World} (h : Mh w g cs W) (n : Nat) : Mh w g cs (W.drewN n) := ⟨h.blk, below_trans h.bel (below_drewN W n), h.wd.drewN n⟩
theorem md_q (m d : Int) (W : World) (hW : Wd W) : Calls Tryd.prog 29 #[.int .i64 m, .int .i64 d] W fun e w' => e = .returned (.bool (mdB m d)) ∧ w' = W := (isMonthDay_any m d W hW).mono fun e w' h => ⟨h.1, h.2.symm⟩
theorem ml_q (y m : Nat) (h1 : 1 ≤ m) (h2 : m ≤ 12) (W : World) (hW : Wd W) : Calls Tryd.prog 27 #[.int .i64 (y : Int), .int .i64 (m : Int)] W fun e w' => e = .returned (.int .i64 ((len y m : Nat) : Int)) ∧ w' = W := (monthDays_any y m h1 h2 W hW).mono fun e w' h => ⟨h.1, h.2.symm⟩
theorem ys_q (y : Nat) (h1 : 2000 ≤ y) (h2 : y ≤ 100000) (W : World) : Calls Tryd.prog 26 #[.int .i64 (y : Int)] W fun e w' => e = .returned (.int .i64 ((ys (y - 2000) : Nat) : Int)) ∧ w' = W := (yearStart_any y h1 h2 W).mono fun e w' h => ⟨h.1, h.2.symm⟩
section
variable {y m d h : Int} {w : World}
theorem hour_low (hy : y < 2000) : Calls Tryd.prog 12 #[dv y m d h] w fun e w' => e = .returned (.tuple #[.int .i64 0, .bool false]) ∧ Below w.heap.size w w' := by
  have d1 := decide_eq_true hy
  unfold dv
  clear hy
  go_enter Tryd.func12, Tryd.ntmps12
  go_wp2_with fail
  go_quiet (fail)
  go_wp2_with fail
  go_ret2
  exact ⟨rfl, below_trans (below_alloc _ _) (below_drewN _ _)⟩
theorem hour_high (hy : ¬ y < 2000) (hy2 : 3915 < y) : Calls Tryd.prog 12 #[dv y m d h] w fun e w' => e = .returned (.tuple #[.int .i64 0, .bool false]) ∧ Below w.heap.size w w' := by
  have d1 := decide_eq_false hy
  have d2 := decide_eq_true hy2
  unfold dv
  clear hy hy2
  go_enter Tryd.func12, Tryd.ntmps12
  go_wp2_with fail
  go_quiet (fail)
  go_wp2_with fail
  go_ret2
  exact ⟨rfl, below_trans (below_alloc _ _) (below_drewN _ _)⟩
theorem hour_md (hW : Wd w) (hy : ¬ y < 2000) (hy2 : ¬ 3915 < y) (hmd : mdB m d = false) : Calls Tryd.prog 12 #[dv y m d h] w fun e w' => e = .returned (.tuple #[.int .i64 0, .bool false]) ∧ Below w.heap.size w w' := by
  have d1 := decide_eq_false hy
  have d2 := decide_eq_false hy2
  have HQ := Lib.hid (fun W hW => md_q m d W hW)
  rw [hmd] at HQ
  have HWD := Lib.hid (show Wd (w.alloc (.cells #[.int .i64 y, .int .i64 m, .int .i64 d, .int .i64 h] 23)) from hW.below (below_alloc _ _))
  unfold dv
  clear hy hy2 hmd hW
  go_enter Tryd.func12, Tryd.ntmps12
  go_wp2_with fail
  go_quiet ((refine (HQ.out _ (HWD.out.drewN _)).mono ?_; rintro e w' ⟨he, hw⟩; exact ⟨he, _, hw⟩))
  go_wp2_with fail
  go_ret2
  exact ⟨rfl, below_trans (below_alloc _ _) (below_drewN _ _)⟩
end
theorem hour_day {y m d : Nat} {h : Int} {w : World} (hW : Wd w) (hy : 2000 ≤ y) (hy2 : y ≤ 3915) (h1 : 1 ≤ m) (h2 : m ≤ 12) (hmd : mdB (m : Int) (d : Int) = true) (hd : len y m < d) :
    Calls Tryd.prog 12 #[dv y m d h] w fun e w' => e = .returned (.tuple #[.int .i64 0, .bool false]) ∧ Below w.heap.size w w' := by
  have d1 : decide ((y : Int) < 2000) = false := decide_eq_false (by omega)
  have d2 : decide (3915 < (y : Int)) = false := decide_eq_false (by omega)
  have HQ := Lib.hid (fun W hW => md_q (m : Int) (d : Int) W hW)
  have HL := Lib.hid (fun W hW => ml_q y m h1 h2 W hW)
  have d3 : decide (((len y m : Nat) : Int) < (d : Int)) = true := decide_eq_true (by omega)
  rw [hmd] at HQ
  have HWD := Lib.hid (show Wd (w.alloc (.cells #[.int .i64 (y : Int), .int .i64 (m : Int), .int .i64 (d : Int), .int .i64 h] 23)) from hW.below (below_alloc _ _))
  unfold dv
  clear hy hy2 hmd hW hd h1 h2
  generalize ((len y m : Nat) : Int) = li at *
  generalize ((y : Nat) : Int) = yi at *
  generalize ((m : Nat) : Int) = mi at *
  generalize ((d : Nat) : Int) = di at *
  go_enter Tryd.func12, Tryd.ntmps12
  go_wp2_with fail
  go_quiet (first | (refine (HQ.out _ (HWD.out.drewN _)).mono ?_; rintro e w' ⟨he, hw⟩; exact ⟨he, _, hw⟩) | (refine (HL.out _ (HWD.out.drewN _)).mono ?_; rintro e w' ⟨he, hw⟩; exact ⟨he, _, hw⟩))
  go_wp2_with fail
  go_ret2
  exact ⟨rfl, below_trans (below_alloc _ _) (below_drewN _ _)⟩
theorem hour_hh {y m d : Nat} {h : Int} {w : World} (hW : Wd w) (hy : 2000 ≤ y) (hy2 : y ≤ 3915) (h1 : 1 ≤ m) (h2 : m ≤ 12) (hmd : mdB (m : Int) (d : Int) = true) (hd : d ≤ len y m) (hh : h < 0 ∨ 24 ≤ h) :
    Calls Tryd.prog 12 #[dv y m d h] w fun e w' => e = .returned (.tuple #[.int .i64 0, .bool false]) ∧ Below w.heap.size w w' := by
  have d1 : decide ((y : Int) < 2000) = false := decide_eq_false (by omega)
  have d2 : decide (3915 < (y : Int)) = false := decide_eq_false (by omega)
  have HQ := Lib.hid (fun W hW => md_q (m : Int) (d : Int) W hW)
  have HL := Lib.hid (fun W hW => ml_q y m h1 h2 W hW)
  have d3 : decide (((len y m : Nat) : Int) < (d : Int)) = false := decide_eq_false (by omega)
  rw [hmd] at HQ
  have HWD := Lib.hid (show Wd (w.alloc (.cells #[.int .i64 (y : Int), .int .i64 (m : Int), .int .i64 (d : Int), .int .i64 h] 23)) from hW.below (below_alloc _ _))
  unfold dv
  clear hy hy2 hmd hW hd h1 h2
  generalize ((len y m : Nat) : Int) = li at *
  generalize ((y : Nat) : Int) = yi at *
  generalize ((m : Nat) : Int) = mi at *
  generalize ((d : Nat) : Int) = di at *
  by_cases h0 : h < 0
  · have d4 := decide_eq_true h0
    clear hh h0
    go_enter Tryd.func12, Tryd.ntmps12
    go_wp2_with fail
    go_quiet (first | (refine (HQ.out _ (HWD.out.drewN _)).mono ?_; rintro e w' ⟨he, hw⟩; exact ⟨he, _, hw⟩) | (refine (HL.out _ (HWD.out.drewN _)).mono ?_; rintro e w' ⟨he, hw⟩; exact ⟨he, _, hw⟩))
    go_wp2_with fail
    go_ret2
    exact ⟨rfl, below_trans (below_alloc _ _) (below_drewN _ _)⟩
  · have d4 := decide_eq_false h0
    have d5 : decide (24 ≤ h) = true := decide_eq_true (by omega)
    clear hh h0
    go_enter Tryd.func12, Tryd.ntmps12
    go_wp2_with fail
    go_quiet (first | (refine (HQ.out _ (HWD.out.drewN _)).mono ?_; rintro e w' ⟨he, hw⟩; exact ⟨he, _, hw⟩) | (refine (HL.out _ (HWD.out.drewN _)).mono ?_; rintro e w' ⟨he, hw⟩; exact ⟨he, _, hw⟩))
    go_wp2_with fail
    go_ret2
    exact ⟨rfl, below_trans (below_alloc _ _) (below_drewN _ _)⟩
end Go.Proofs.YtanjkjendppigaaDoor.Dy
