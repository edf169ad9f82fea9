/- The statement DateSeasons: In returns what the reference returns; two seasons that follow each other contain each date that has a month-day in exactly one of them. Conditions: those of its row. -/
import Derived.Test.YtanjkjendppigaaDoorDSeaW
namespace Go.Proofs.YtanjkjendppigaaDoor.dateSeasons
open Go.ChangeShapes Go.WideShapes Go.ChangeAt Go.RowKit Go.Joins Cal Dy
set_option linter.unusedVariables false
set_option maxRecDepth 100000

set_option maxHeartbeats 8000000 in
theorem walk (y m d h : Int) (wy : I64 y) (wm : I64 m) (wd : I64 d) (wh : I64 h) (f : Int) (wf : I64 f) (u : Int) (wu : I64 u) (n : Int) (wn : I64 n) (w : World) (hW : Wd w) : Calls Tryd.prog 8 #[dv y m d h, .int .i64 f, .int .i64 u, .int .i64 n] w (IsTrue w) := by
  have HSM := Lib.hid (fun W hW => small_any W hW)
  have HN := Lib.hid (fun W hW => in_any y m d h f u wf wu W hW)
  have HR := Lib.hid (fun W => rin_any y m d h f u W)
  have HF := Lib.hid (fun W => rmd_any f W)
  have HU := Lib.hid (fun W => rmd_any u W)
  have HX := Lib.hid (fun W => rmd_any n W)
  obtain ⟨r, hr⟩ : ∃ r, inB m d f u = r := ⟨_, rfl⟩
  rw [hr] at HN HR
  by_cases b1 : mdI f = true
  case neg =>
    rw [show mdI f = false by simpa using b1] at HF
    generalize mdI u = x2 at *
    generalize mdI n = x3 at *
    unfold dv at *
    have HS0 := Lib.hid (show Below w.heap.size w w ∧ Wd w from ⟨below_self w, hW⟩)
    have HS1 := Lib.hid (⟨below_trans HS0.out.1 (below_alloc _ (.cells #[.int .i64 y, .int .i64 m, .int .i64 d, .int .i64 h] 23)), HS0.out.2.below (below_alloc _ (.cells #[.int .i64 y, .int .i64 m, .int .i64 d, .int .i64 h] 23))⟩ : _ ∧ _)
    have BD_1 := Lib.hid (Blk.new w 23 #[.int .i64 y, .int .i64 m, .int .i64 d, .int .i64 h])
    clear HS0 
    clear hW wy wm wd wh wf wu wn hr b1
    go_enter Tryd.func8, Tryd.ntmps8
    go_wp2_with fail
    refine (HSM.out _ HS1.out.2).mono ?_
    rintro e w2 ⟨rfl, hb⟩
    have HS2 := Lib.hid (⟨below_trans HS1.out.1 hb, HS1.out.2.below hb⟩ : _ ∧ _)
    have BD_2 := Lib.hid (BD_1.out.below hb (Nat.le_refl _))
    clear hb HS1 BD_1
    have cBD0 := BD_2.out.cell 0
    have cBD1 := BD_2.out.cell 1
    have cBD2 := BD_2.out.cell 2
    have cBD3 := BD_2.out.cell 3
    go_wp2_with fail
    clear cBD0 cBD1 cBD2 cBD3
    refine (HN.out _ HS2.out.2).mono ?_
    rintro e w3 ⟨rfl, hb⟩
    have HS3 := Lib.hid (⟨below_trans HS2.out.1 hb, HS2.out.2.below hb⟩ : _ ∧ _)
    have BD_3 := Lib.hid (BD_2.out.below hb (Nat.le_refl _))
    clear hb HS2 BD_2
    have cBD0 := BD_3.out.cell 0
    have cBD1 := BD_3.out.cell 1
    have cBD2 := BD_3.out.cell 2
    have cBD3 := BD_3.out.cell 3
    go_wp2_with fail
    clear cBD0 cBD1 cBD2 cBD3
    refine (HR.out _).mono ?_
    rintro e w4 ⟨rfl, hb⟩
    have HS4 := Lib.hid (⟨below_trans HS3.out.1 hb, HS3.out.2.below hb⟩ : _ ∧ _)
    have BD_4 := Lib.hid (BD_3.out.below hb (Nat.le_refl _))
    clear hb HS3 BD_3
    have cBD0 := BD_4.out.cell 0
    have cBD1 := BD_4.out.cell 1
    have cBD2 := BD_4.out.cell 2
    have cBD3 := BD_4.out.cell 3
    go_wp2_with fail
    clear cBD0 cBD1 cBD2 cBD3
    refine (HF.out _).mono ?_
    rintro e w5 ⟨rfl, hb⟩
    have HS5 := Lib.hid (⟨below_trans HS4.out.1 hb, HS4.out.2.below hb⟩ : _ ∧ _)
    have BD_5 := Lib.hid (BD_4.out.below hb (Nat.le_refl _))
    clear hb HS4 BD_4
    have cBD0 := BD_5.out.cell 0
    have cBD1 := BD_5.out.cell 1
    have cBD2 := BD_5.out.cell 2
    have cBD3 := BD_5.out.cell 3
    go_wp2_with fail
    clear cBD0 cBD1 cBD2 cBD3
    refine (HU.out _).mono ?_
    rintro e w6 ⟨rfl, hb⟩
    have HS6 := Lib.hid (⟨below_trans HS5.out.1 hb, HS5.out.2.below hb⟩ : _ ∧ _)
    have BD_6 := Lib.hid (BD_5.out.below hb (Nat.le_refl _))
    clear hb HS5 BD_5
    have cBD0 := BD_6.out.cell 0
    have cBD1 := BD_6.out.cell 1
    have cBD2 := BD_6.out.cell 2
    have cBD3 := BD_6.out.cell 3
    go_wp2_with fail
    clear cBD0 cBD1 cBD2 cBD3
    refine (HX.out _).mono ?_
    rintro e w7 ⟨rfl, hb⟩
    have HS7 := Lib.hid (⟨below_trans HS6.out.1 hb, HS6.out.2.below hb⟩ : _ ∧ _)
    have BD_7 := Lib.hid (BD_6.out.below hb (Nat.le_refl _))
    clear hb HS6 BD_6
    have cBD0 := BD_7.out.cell 0
    have cBD1 := BD_7.out.cell 1
    have cBD2 := BD_7.out.cell 2
    have cBD3 := BD_7.out.cell 3
    go_wp2_with fail
    clear cBD0 cBD1 cBD2 cBD3
    go_ret
    exact ⟨rfl, HS7.out.1⟩
  rw [b1] at HF
  by_cases b2 : mdI u = true
  case neg =>
    rw [show mdI u = false by simpa using b2] at HU
    generalize mdI n = x3 at *
    unfold dv at *
    have HS0 := Lib.hid (show Below w.heap.size w w ∧ Wd w from ⟨below_self w, hW⟩)
    have HS1 := Lib.hid (⟨below_trans HS0.out.1 (below_alloc _ (.cells #[.int .i64 y, .int .i64 m, .int .i64 d, .int .i64 h] 23)), HS0.out.2.below (below_alloc _ (.cells #[.int .i64 y, .int .i64 m, .int .i64 d, .int .i64 h] 23))⟩ : _ ∧ _)
    have BD_1 := Lib.hid (Blk.new w 23 #[.int .i64 y, .int .i64 m, .int .i64 d, .int .i64 h])
    clear HS0 
    clear hW wy wm wd wh wf wu wn hr b1 b2
    go_enter Tryd.func8, Tryd.ntmps8
    go_wp2_with fail
    refine (HSM.out _ HS1.out.2).mono ?_
    rintro e w2 ⟨rfl, hb⟩
    have HS2 := Lib.hid (⟨below_trans HS1.out.1 hb, HS1.out.2.below hb⟩ : _ ∧ _)
    have BD_2 := Lib.hid (BD_1.out.below hb (Nat.le_refl _))
    clear hb HS1 BD_1
    have cBD0 := BD_2.out.cell 0
    have cBD1 := BD_2.out.cell 1
    have cBD2 := BD_2.out.cell 2
    have cBD3 := BD_2.out.cell 3
    go_wp2_with fail
    clear cBD0 cBD1 cBD2 cBD3
    refine (HN.out _ HS2.out.2).mono ?_
    rintro e w3 ⟨rfl, hb⟩
    have HS3 := Lib.hid (⟨below_trans HS2.out.1 hb, HS2.out.2.below hb⟩ : _ ∧ _)
    have BD_3 := Lib.hid (BD_2.out.below hb (Nat.le_refl _))
    clear hb HS2 BD_2
    have cBD0 := BD_3.out.cell 0
    have cBD1 := BD_3.out.cell 1
    have cBD2 := BD_3.out.cell 2
    have cBD3 := BD_3.out.cell 3
    go_wp2_with fail
    clear cBD0 cBD1 cBD2 cBD3
    refine (HR.out _).mono ?_
    rintro e w4 ⟨rfl, hb⟩
    have HS4 := Lib.hid (⟨below_trans HS3.out.1 hb, HS3.out.2.below hb⟩ : _ ∧ _)
    have BD_4 := Lib.hid (BD_3.out.below hb (Nat.le_refl _))
    clear hb HS3 BD_3
    have cBD0 := BD_4.out.cell 0
    have cBD1 := BD_4.out.cell 1
    have cBD2 := BD_4.out.cell 2
    have cBD3 := BD_4.out.cell 3
    go_wp2_with fail
    clear cBD0 cBD1 cBD2 cBD3
    refine (HF.out _).mono ?_
    rintro e w5 ⟨rfl, hb⟩
    have HS5 := Lib.hid (⟨below_trans HS4.out.1 hb, HS4.out.2.below hb⟩ : _ ∧ _)
    have BD_5 := Lib.hid (BD_4.out.below hb (Nat.le_refl _))
    clear hb HS4 BD_4
    have cBD0 := BD_5.out.cell 0
    have cBD1 := BD_5.out.cell 1
    have cBD2 := BD_5.out.cell 2
    have cBD3 := BD_5.out.cell 3
    go_wp2_with fail
    clear cBD0 cBD1 cBD2 cBD3
    refine (HU.out _).mono ?_
    rintro e w6 ⟨rfl, hb⟩
    have HS6 := Lib.hid (⟨below_trans HS5.out.1 hb, HS5.out.2.below hb⟩ : _ ∧ _)
    have BD_6 := Lib.hid (BD_5.out.below hb (Nat.le_refl _))
    clear hb HS5 BD_5
    have cBD0 := BD_6.out.cell 0
    have cBD1 := BD_6.out.cell 1
    have cBD2 := BD_6.out.cell 2
    have cBD3 := BD_6.out.cell 3
    go_wp2_with fail
    clear cBD0 cBD1 cBD2 cBD3
    refine (HX.out _).mono ?_
    rintro e w7 ⟨rfl, hb⟩
    have HS7 := Lib.hid (⟨below_trans HS6.out.1 hb, HS6.out.2.below hb⟩ : _ ∧ _)
    have BD_7 := Lib.hid (BD_6.out.below hb (Nat.le_refl _))
    clear hb HS6 BD_6
    have cBD0 := BD_7.out.cell 0
    have cBD1 := BD_7.out.cell 1
    have cBD2 := BD_7.out.cell 2
    have cBD3 := BD_7.out.cell 3
    go_wp2_with fail
    clear cBD0 cBD1 cBD2 cBD3
    go_ret
    exact ⟨rfl, HS7.out.1⟩
  rw [b2] at HU
  by_cases b3 : mdI n = true
  case neg =>
    rw [show mdI n = false by simpa using b3] at HX
    unfold dv at *
    have HS0 := Lib.hid (show Below w.heap.size w w ∧ Wd w from ⟨below_self w, hW⟩)
    have HS1 := Lib.hid (⟨below_trans HS0.out.1 (below_alloc _ (.cells #[.int .i64 y, .int .i64 m, .int .i64 d, .int .i64 h] 23)), HS0.out.2.below (below_alloc _ (.cells #[.int .i64 y, .int .i64 m, .int .i64 d, .int .i64 h] 23))⟩ : _ ∧ _)
    have BD_1 := Lib.hid (Blk.new w 23 #[.int .i64 y, .int .i64 m, .int .i64 d, .int .i64 h])
    clear HS0 
    clear hW wy wm wd wh wf wu wn hr b1 b2 b3
    go_enter Tryd.func8, Tryd.ntmps8
    go_wp2_with fail
    refine (HSM.out _ HS1.out.2).mono ?_
    rintro e w2 ⟨rfl, hb⟩
    have HS2 := Lib.hid (⟨below_trans HS1.out.1 hb, HS1.out.2.below hb⟩ : _ ∧ _)
    have BD_2 := Lib.hid (BD_1.out.below hb (Nat.le_refl _))
    clear hb HS1 BD_1
    have cBD0 := BD_2.out.cell 0
    have cBD1 := BD_2.out.cell 1
    have cBD2 := BD_2.out.cell 2
    have cBD3 := BD_2.out.cell 3
    go_wp2_with fail
    clear cBD0 cBD1 cBD2 cBD3
    refine (HN.out _ HS2.out.2).mono ?_
    rintro e w3 ⟨rfl, hb⟩
    have HS3 := Lib.hid (⟨below_trans HS2.out.1 hb, HS2.out.2.below hb⟩ : _ ∧ _)
    have BD_3 := Lib.hid (BD_2.out.below hb (Nat.le_refl _))
    clear hb HS2 BD_2
    have cBD0 := BD_3.out.cell 0
    have cBD1 := BD_3.out.cell 1
    have cBD2 := BD_3.out.cell 2
    have cBD3 := BD_3.out.cell 3
    go_wp2_with fail
    clear cBD0 cBD1 cBD2 cBD3
    refine (HR.out _).mono ?_
    rintro e w4 ⟨rfl, hb⟩
    have HS4 := Lib.hid (⟨below_trans HS3.out.1 hb, HS3.out.2.below hb⟩ : _ ∧ _)
    have BD_4 := Lib.hid (BD_3.out.below hb (Nat.le_refl _))
    clear hb HS3 BD_3
    have cBD0 := BD_4.out.cell 0
    have cBD1 := BD_4.out.cell 1
    have cBD2 := BD_4.out.cell 2
    have cBD3 := BD_4.out.cell 3
    go_wp2_with fail
    clear cBD0 cBD1 cBD2 cBD3
    refine (HF.out _).mono ?_
    rintro e w5 ⟨rfl, hb⟩
    have HS5 := Lib.hid (⟨below_trans HS4.out.1 hb, HS4.out.2.below hb⟩ : _ ∧ _)
    have BD_5 := Lib.hid (BD_4.out.below hb (Nat.le_refl _))
    clear hb HS4 BD_4
    have cBD0 := BD_5.out.cell 0
    have cBD1 := BD_5.out.cell 1
    have cBD2 := BD_5.out.cell 2
    have cBD3 := BD_5.out.cell 3
    go_wp2_with fail
    clear cBD0 cBD1 cBD2 cBD3
    refine (HU.out _).mono ?_
    rintro e w6 ⟨rfl, hb⟩
    have HS6 := Lib.hid (⟨below_trans HS5.out.1 hb, HS5.out.2.below hb⟩ : _ ∧ _)
    have BD_6 := Lib.hid (BD_5.out.below hb (Nat.le_refl _))
    clear hb HS5 BD_5
    have cBD0 := BD_6.out.cell 0
    have cBD1 := BD_6.out.cell 1
    have cBD2 := BD_6.out.cell 2
    have cBD3 := BD_6.out.cell 3
    go_wp2_with fail
    clear cBD0 cBD1 cBD2 cBD3
    refine (HX.out _).mono ?_
    rintro e w7 ⟨rfl, hb⟩
    have HS7 := Lib.hid (⟨below_trans HS6.out.1 hb, HS6.out.2.below hb⟩ : _ ∧ _)
    have BD_7 := Lib.hid (BD_6.out.below hb (Nat.le_refl _))
    clear hb HS6 BD_6
    have cBD0 := BD_7.out.cell 0
    have cBD1 := BD_7.out.cell 1
    have cBD2 := BD_7.out.cell 2
    have cBD3 := BD_7.out.cell 3
    go_wp2_with fail
    clear cBD0 cBD1 cBD2 cBD3
    go_ret
    exact ⟨rfl, HS7.out.1⟩
  rw [b3] at HX
  by_cases hfn : f = n
  case pos =>
    have d1 : (f == n) = true := beq_iff_eq.2 hfn
    unfold dv at *
    have HS0 := Lib.hid (show Below w.heap.size w w ∧ Wd w from ⟨below_self w, hW⟩)
    have HS1 := Lib.hid (⟨below_trans HS0.out.1 (below_alloc _ (.cells #[.int .i64 y, .int .i64 m, .int .i64 d, .int .i64 h] 23)), HS0.out.2.below (below_alloc _ (.cells #[.int .i64 y, .int .i64 m, .int .i64 d, .int .i64 h] 23))⟩ : _ ∧ _)
    have BD_1 := Lib.hid (Blk.new w 23 #[.int .i64 y, .int .i64 m, .int .i64 d, .int .i64 h])
    clear HS0 
    clear hW wy wm wd wh wf wu wn hr b1 b2 b3 hfn
    go_enter Tryd.func8, Tryd.ntmps8
    go_wp2_with fail
    refine (HSM.out _ HS1.out.2).mono ?_
    rintro e w2 ⟨rfl, hb⟩
    have HS2 := Lib.hid (⟨below_trans HS1.out.1 hb, HS1.out.2.below hb⟩ : _ ∧ _)
    have BD_2 := Lib.hid (BD_1.out.below hb (Nat.le_refl _))
    clear hb HS1 BD_1
    have cBD0 := BD_2.out.cell 0
    have cBD1 := BD_2.out.cell 1
    have cBD2 := BD_2.out.cell 2
    have cBD3 := BD_2.out.cell 3
    go_wp2_with fail
    clear cBD0 cBD1 cBD2 cBD3
    refine (HN.out _ HS2.out.2).mono ?_
    rintro e w3 ⟨rfl, hb⟩
    have HS3 := Lib.hid (⟨below_trans HS2.out.1 hb, HS2.out.2.below hb⟩ : _ ∧ _)
    have BD_3 := Lib.hid (BD_2.out.below hb (Nat.le_refl _))
    clear hb HS2 BD_2
    have cBD0 := BD_3.out.cell 0
    have cBD1 := BD_3.out.cell 1
    have cBD2 := BD_3.out.cell 2
    have cBD3 := BD_3.out.cell 3
    go_wp2_with fail
    clear cBD0 cBD1 cBD2 cBD3
    refine (HR.out _).mono ?_
    rintro e w4 ⟨rfl, hb⟩
    have HS4 := Lib.hid (⟨below_trans HS3.out.1 hb, HS3.out.2.below hb⟩ : _ ∧ _)
    have BD_4 := Lib.hid (BD_3.out.below hb (Nat.le_refl _))
    clear hb HS3 BD_3
    have cBD0 := BD_4.out.cell 0
    have cBD1 := BD_4.out.cell 1
    have cBD2 := BD_4.out.cell 2
    have cBD3 := BD_4.out.cell 3
    go_wp2_with fail
    clear cBD0 cBD1 cBD2 cBD3
    refine (HF.out _).mono ?_
    rintro e w5 ⟨rfl, hb⟩
    have HS5 := Lib.hid (⟨below_trans HS4.out.1 hb, HS4.out.2.below hb⟩ : _ ∧ _)
    have BD_5 := Lib.hid (BD_4.out.below hb (Nat.le_refl _))
    clear hb HS4 BD_4
    have cBD0 := BD_5.out.cell 0
    have cBD1 := BD_5.out.cell 1
    have cBD2 := BD_5.out.cell 2
    have cBD3 := BD_5.out.cell 3
    go_wp2_with fail
    clear cBD0 cBD1 cBD2 cBD3
    refine (HU.out _).mono ?_
    rintro e w6 ⟨rfl, hb⟩
    have HS6 := Lib.hid (⟨below_trans HS5.out.1 hb, HS5.out.2.below hb⟩ : _ ∧ _)
    have BD_6 := Lib.hid (BD_5.out.below hb (Nat.le_refl _))
    clear hb HS5 BD_5
    have cBD0 := BD_6.out.cell 0
    have cBD1 := BD_6.out.cell 1
    have cBD2 := BD_6.out.cell 2
    have cBD3 := BD_6.out.cell 3
    go_wp2_with fail
    clear cBD0 cBD1 cBD2 cBD3
    refine (HX.out _).mono ?_
    rintro e w7 ⟨rfl, hb⟩
    have HS7 := Lib.hid (⟨below_trans HS6.out.1 hb, HS6.out.2.below hb⟩ : _ ∧ _)
    have BD_7 := Lib.hid (BD_6.out.below hb (Nat.le_refl _))
    clear hb HS6 BD_6
    have cBD0 := BD_7.out.cell 0
    have cBD1 := BD_7.out.cell 1
    have cBD2 := BD_7.out.cell 2
    have cBD3 := BD_7.out.cell 3
    go_wp2_with fail
    clear cBD0 cBD1 cBD2 cBD3
    go_ret
    exact ⟨rfl, HS7.out.1⟩
  have d1 : (f == n) = false := beq_eq_false_iff_ne.2 hfn
  have HL := Lib.hid (fun W => follows_any u n b2 W)
  by_cases hfo : folB u n = true
  case neg =>
    rw [show folB u n = false by simpa using hfo] at HL
    unfold dv at *
    have HS0 := Lib.hid (show Below w.heap.size w w ∧ Wd w from ⟨below_self w, hW⟩)
    have HS1 := Lib.hid (⟨below_trans HS0.out.1 (below_alloc _ (.cells #[.int .i64 y, .int .i64 m, .int .i64 d, .int .i64 h] 23)), HS0.out.2.below (below_alloc _ (.cells #[.int .i64 y, .int .i64 m, .int .i64 d, .int .i64 h] 23))⟩ : _ ∧ _)
    have BD_1 := Lib.hid (Blk.new w 23 #[.int .i64 y, .int .i64 m, .int .i64 d, .int .i64 h])
    clear HS0 
    clear hW wy wm wd wh wf wu wn hr b1 b2 b3 hfn hfo
    go_enter Tryd.func8, Tryd.ntmps8
    go_wp2_with fail
    refine (HSM.out _ HS1.out.2).mono ?_
    rintro e w2 ⟨rfl, hb⟩
    have HS2 := Lib.hid (⟨below_trans HS1.out.1 hb, HS1.out.2.below hb⟩ : _ ∧ _)
    have BD_2 := Lib.hid (BD_1.out.below hb (Nat.le_refl _))
    clear hb HS1 BD_1
    have cBD0 := BD_2.out.cell 0
    have cBD1 := BD_2.out.cell 1
    have cBD2 := BD_2.out.cell 2
    have cBD3 := BD_2.out.cell 3
    go_wp2_with fail
    clear cBD0 cBD1 cBD2 cBD3
    refine (HN.out _ HS2.out.2).mono ?_
    rintro e w3 ⟨rfl, hb⟩
    have HS3 := Lib.hid (⟨below_trans HS2.out.1 hb, HS2.out.2.below hb⟩ : _ ∧ _)
    have BD_3 := Lib.hid (BD_2.out.below hb (Nat.le_refl _))
    clear hb HS2 BD_2
    have cBD0 := BD_3.out.cell 0
    have cBD1 := BD_3.out.cell 1
    have cBD2 := BD_3.out.cell 2
    have cBD3 := BD_3.out.cell 3
    go_wp2_with fail
    clear cBD0 cBD1 cBD2 cBD3
    refine (HR.out _).mono ?_
    rintro e w4 ⟨rfl, hb⟩
    have HS4 := Lib.hid (⟨below_trans HS3.out.1 hb, HS3.out.2.below hb⟩ : _ ∧ _)
    have BD_4 := Lib.hid (BD_3.out.below hb (Nat.le_refl _))
    clear hb HS3 BD_3
    have cBD0 := BD_4.out.cell 0
    have cBD1 := BD_4.out.cell 1
    have cBD2 := BD_4.out.cell 2
    have cBD3 := BD_4.out.cell 3
    go_wp2_with fail
    clear cBD0 cBD1 cBD2 cBD3
    refine (HF.out _).mono ?_
    rintro e w5 ⟨rfl, hb⟩
    have HS5 := Lib.hid (⟨below_trans HS4.out.1 hb, HS4.out.2.below hb⟩ : _ ∧ _)
    have BD_5 := Lib.hid (BD_4.out.below hb (Nat.le_refl _))
    clear hb HS4 BD_4
    have cBD0 := BD_5.out.cell 0
    have cBD1 := BD_5.out.cell 1
    have cBD2 := BD_5.out.cell 2
    have cBD3 := BD_5.out.cell 3
    go_wp2_with fail
    clear cBD0 cBD1 cBD2 cBD3
    refine (HU.out _).mono ?_
    rintro e w6 ⟨rfl, hb⟩
    have HS6 := Lib.hid (⟨below_trans HS5.out.1 hb, HS5.out.2.below hb⟩ : _ ∧ _)
    have BD_6 := Lib.hid (BD_5.out.below hb (Nat.le_refl _))
    clear hb HS5 BD_5
    have cBD0 := BD_6.out.cell 0
    have cBD1 := BD_6.out.cell 1
    have cBD2 := BD_6.out.cell 2
    have cBD3 := BD_6.out.cell 3
    go_wp2_with fail
    clear cBD0 cBD1 cBD2 cBD3
    refine (HX.out _).mono ?_
    rintro e w7 ⟨rfl, hb⟩
    have HS7 := Lib.hid (⟨below_trans HS6.out.1 hb, HS6.out.2.below hb⟩ : _ ∧ _)
    have BD_7 := Lib.hid (BD_6.out.below hb (Nat.le_refl _))
    clear hb HS6 BD_6
    have cBD0 := BD_7.out.cell 0
    have cBD1 := BD_7.out.cell 1
    have cBD2 := BD_7.out.cell 2
    have cBD3 := BD_7.out.cell 3
    go_wp2_with fail
    clear cBD0 cBD1 cBD2 cBD3
    refine (HL.out _).mono ?_
    rintro e w8 ⟨rfl, hb⟩
    have HS8 := Lib.hid (⟨below_trans HS7.out.1 hb, HS7.out.2.below hb⟩ : _ ∧ _)
    have BD_8 := Lib.hid (BD_7.out.below hb (Nat.le_refl _))
    clear hb HS7 BD_7
    have cBD0 := BD_8.out.cell 0
    have cBD1 := BD_8.out.cell 1
    have cBD2 := BD_8.out.cell 2
    have cBD3 := BD_8.out.cell 3
    go_wp2_with fail
    clear cBD0 cBD1 cBD2 cBD3
    go_ret
    exact ⟨rfl, HS8.out.1⟩
  rw [hfo] at HL
  have HB := Lib.hid (fun W => before_any f b1 W)
  have hpr := mdI_range (bef_spec b1).1
  have wp : I64 (befI f) := ⟨by omega, by omega⟩
  have HO := Lib.hid (fun W hW => in_any y m d h n (befI f) wn wp W hW)
  obtain ⟨x, hx⟩ : ∃ x, wrap64 (wrap64 (100 * m) + d) = x := ⟨_, rfl⟩
  have HM := Lib.hid (fun W => rmd_any x W)
  obtain ⟨r2, hr2⟩ : ∃ r2, inB m d n (befI f) = r2 := ⟨_, rfl⟩
  rw [hr2] at HO
  have hsea : mdI x = true → 1 ≤ m → m ≤ 12 → 1 ≤ d → d ≤ 31 → r = !r2 := by
    intro k1 k2 k3 k4 k5
    have e : x = 100 * m + d := by rw [← hx, wrapOk (x := 100 * m) (by omega) (by omega)]; exact wrapOk (by omega) (by omega)
    rw [e] at k1
    rw [← hr, ← hr2]
    exact seasons k2 k3 k4 k5 k1 b1 b2 b3 hfn hfo
  generalize befI f = p at *
  clear hr hr2 b1 b2 b3 hfn hfo hpr wp
  unfold dv at *
  by_cases b4 : mdI x = true
  case neg =>
    rw [show mdI x = false by simpa using b4] at HM
    have HS0 := Lib.hid (show Below w.heap.size w w ∧ Wd w from ⟨below_self w, hW⟩)
    have HS1 := Lib.hid (⟨below_trans HS0.out.1 (below_alloc _ (.cells #[.int .i64 y, .int .i64 m, .int .i64 d, .int .i64 h] 23)), HS0.out.2.below (below_alloc _ (.cells #[.int .i64 y, .int .i64 m, .int .i64 d, .int .i64 h] 23))⟩ : _ ∧ _)
    have BD_1 := Lib.hid (Blk.new w 23 #[.int .i64 y, .int .i64 m, .int .i64 d, .int .i64 h])
    clear HS0 
    clear hW wy wm wd wh wf wu wn hsea b4
    go_enter Tryd.func8, Tryd.ntmps8
    go_wp2_with fail
    refine (HSM.out _ HS1.out.2).mono ?_
    rintro e w2 ⟨rfl, hb⟩
    have HS2 := Lib.hid (⟨below_trans HS1.out.1 hb, HS1.out.2.below hb⟩ : _ ∧ _)
    have BD_2 := Lib.hid (BD_1.out.below hb (Nat.le_refl _))
    clear hb HS1 BD_1
    have cBD0 := BD_2.out.cell 0
    have cBD1 := BD_2.out.cell 1
    have cBD2 := BD_2.out.cell 2
    have cBD3 := BD_2.out.cell 3
    go_wp2_with fail
    clear cBD0 cBD1 cBD2 cBD3
    refine (HN.out _ HS2.out.2).mono ?_
    rintro e w3 ⟨rfl, hb⟩
    have HS3 := Lib.hid (⟨below_trans HS2.out.1 hb, HS2.out.2.below hb⟩ : _ ∧ _)
    have BD_3 := Lib.hid (BD_2.out.below hb (Nat.le_refl _))
    clear hb HS2 BD_2
    have cBD0 := BD_3.out.cell 0
    have cBD1 := BD_3.out.cell 1
    have cBD2 := BD_3.out.cell 2
    have cBD3 := BD_3.out.cell 3
    go_wp2_with fail
    clear cBD0 cBD1 cBD2 cBD3
    refine (HR.out _).mono ?_
    rintro e w4 ⟨rfl, hb⟩
    have HS4 := Lib.hid (⟨below_trans HS3.out.1 hb, HS3.out.2.below hb⟩ : _ ∧ _)
    have BD_4 := Lib.hid (BD_3.out.below hb (Nat.le_refl _))
    clear hb HS3 BD_3
    have cBD0 := BD_4.out.cell 0
    have cBD1 := BD_4.out.cell 1
    have cBD2 := BD_4.out.cell 2
    have cBD3 := BD_4.out.cell 3
    go_wp2_with fail
    clear cBD0 cBD1 cBD2 cBD3
    refine (HF.out _).mono ?_
    rintro e w5 ⟨rfl, hb⟩
    have HS5 := Lib.hid (⟨below_trans HS4.out.1 hb, HS4.out.2.below hb⟩ : _ ∧ _)
    have BD_5 := Lib.hid (BD_4.out.below hb (Nat.le_refl _))
    clear hb HS4 BD_4
    have cBD0 := BD_5.out.cell 0
    have cBD1 := BD_5.out.cell 1
    have cBD2 := BD_5.out.cell 2
    have cBD3 := BD_5.out.cell 3
    go_wp2_with fail
    clear cBD0 cBD1 cBD2 cBD3
    refine (HU.out _).mono ?_
    rintro e w6 ⟨rfl, hb⟩
    have HS6 := Lib.hid (⟨below_trans HS5.out.1 hb, HS5.out.2.below hb⟩ : _ ∧ _)
    have BD_6 := Lib.hid (BD_5.out.below hb (Nat.le_refl _))
    clear hb HS5 BD_5
    have cBD0 := BD_6.out.cell 0
    have cBD1 := BD_6.out.cell 1
    have cBD2 := BD_6.out.cell 2
    have cBD3 := BD_6.out.cell 3
    go_wp2_with fail
    clear cBD0 cBD1 cBD2 cBD3
    refine (HX.out _).mono ?_
    rintro e w7 ⟨rfl, hb⟩
    have HS7 := Lib.hid (⟨below_trans HS6.out.1 hb, HS6.out.2.below hb⟩ : _ ∧ _)
    have BD_7 := Lib.hid (BD_6.out.below hb (Nat.le_refl _))
    clear hb HS6 BD_6
    have cBD0 := BD_7.out.cell 0
    have cBD1 := BD_7.out.cell 1
    have cBD2 := BD_7.out.cell 2
    have cBD3 := BD_7.out.cell 3
    go_wp2_with fail
    clear cBD0 cBD1 cBD2 cBD3
    refine (HL.out _).mono ?_
    rintro e w8 ⟨rfl, hb⟩
    have HS8 := Lib.hid (⟨below_trans HS7.out.1 hb, HS7.out.2.below hb⟩ : _ ∧ _)
    have BD_8 := Lib.hid (BD_7.out.below hb (Nat.le_refl _))
    clear hb HS7 BD_7
    have cBD0 := BD_8.out.cell 0
    have cBD1 := BD_8.out.cell 1
    have cBD2 := BD_8.out.cell 2
    have cBD3 := BD_8.out.cell 3
    go_wp2_with fail
    clear cBD0 cBD1 cBD2 cBD3
    refine (HB.out _).mono ?_
    rintro e w9 ⟨rfl, hb⟩
    have HS9 := Lib.hid (⟨below_trans HS8.out.1 hb, HS8.out.2.below hb⟩ : _ ∧ _)
    have BD_9 := Lib.hid (BD_8.out.below hb (Nat.le_refl _))
    clear hb HS8 BD_8
    have cBD0 := BD_9.out.cell 0
    have cBD1 := BD_9.out.cell 1
    have cBD2 := BD_9.out.cell 2
    have cBD3 := BD_9.out.cell 3
    go_wp2_with fail
    clear cBD0 cBD1 cBD2 cBD3
    refine (HO.out _ HS9.out.2).mono ?_
    rintro e w10 ⟨rfl, hb⟩
    have HS10 := Lib.hid (⟨below_trans HS9.out.1 hb, HS9.out.2.below hb⟩ : _ ∧ _)
    have BD_10 := Lib.hid (BD_9.out.below hb (Nat.le_refl _))
    clear hb HS9 BD_9
    have cBD0 := BD_10.out.cell 0
    have cBD1 := BD_10.out.cell 1
    have cBD2 := BD_10.out.cell 2
    have cBD3 := BD_10.out.cell 3
    go_wp2_with fail
    clear cBD0 cBD1 cBD2 cBD3
    refine (HM.out _).mono ?_
    rintro e w11 ⟨rfl, hb⟩
    have HS11 := Lib.hid (⟨below_trans HS10.out.1 hb, HS10.out.2.below hb⟩ : _ ∧ _)
    have BD_11 := Lib.hid (BD_10.out.below hb (Nat.le_refl _))
    clear hb HS10 BD_10
    have cBD0 := BD_11.out.cell 0
    have cBD1 := BD_11.out.cell 1
    have cBD2 := BD_11.out.cell 2
    have cBD3 := BD_11.out.cell 3
    go_wp2_with fail
    clear cBD0 cBD1 cBD2 cBD3
    go_ret
    exact ⟨rfl, HS11.out.1⟩
  rw [b4] at HM
  by_cases m1 : m < 1
  case pos =>
    have e1 := decide_eq_true m1
    have HS0 := Lib.hid (show Below w.heap.size w w ∧ Wd w from ⟨below_self w, hW⟩)
    have HS1 := Lib.hid (⟨below_trans HS0.out.1 (below_alloc _ (.cells #[.int .i64 y, .int .i64 m, .int .i64 d, .int .i64 h] 23)), HS0.out.2.below (below_alloc _ (.cells #[.int .i64 y, .int .i64 m, .int .i64 d, .int .i64 h] 23))⟩ : _ ∧ _)
    have BD_1 := Lib.hid (Blk.new w 23 #[.int .i64 y, .int .i64 m, .int .i64 d, .int .i64 h])
    clear HS0 
    clear hW wy wm wd wh wf wu wn hsea b4 m1
    go_enter Tryd.func8, Tryd.ntmps8
    go_wp2_with fail
    refine (HSM.out _ HS1.out.2).mono ?_
    rintro e w2 ⟨rfl, hb⟩
    have HS2 := Lib.hid (⟨below_trans HS1.out.1 hb, HS1.out.2.below hb⟩ : _ ∧ _)
    have BD_2 := Lib.hid (BD_1.out.below hb (Nat.le_refl _))
    clear hb HS1 BD_1
    have cBD0 := BD_2.out.cell 0
    have cBD1 := BD_2.out.cell 1
    have cBD2 := BD_2.out.cell 2
    have cBD3 := BD_2.out.cell 3
    go_wp2_with fail
    clear cBD0 cBD1 cBD2 cBD3
    refine (HN.out _ HS2.out.2).mono ?_
    rintro e w3 ⟨rfl, hb⟩
    have HS3 := Lib.hid (⟨below_trans HS2.out.1 hb, HS2.out.2.below hb⟩ : _ ∧ _)
    have BD_3 := Lib.hid (BD_2.out.below hb (Nat.le_refl _))
    clear hb HS2 BD_2
    have cBD0 := BD_3.out.cell 0
    have cBD1 := BD_3.out.cell 1
    have cBD2 := BD_3.out.cell 2
    have cBD3 := BD_3.out.cell 3
    go_wp2_with fail
    clear cBD0 cBD1 cBD2 cBD3
    refine (HR.out _).mono ?_
    rintro e w4 ⟨rfl, hb⟩
    have HS4 := Lib.hid (⟨below_trans HS3.out.1 hb, HS3.out.2.below hb⟩ : _ ∧ _)
    have BD_4 := Lib.hid (BD_3.out.below hb (Nat.le_refl _))
    clear hb HS3 BD_3
    have cBD0 := BD_4.out.cell 0
    have cBD1 := BD_4.out.cell 1
    have cBD2 := BD_4.out.cell 2
    have cBD3 := BD_4.out.cell 3
    go_wp2_with fail
    clear cBD0 cBD1 cBD2 cBD3
    refine (HF.out _).mono ?_
    rintro e w5 ⟨rfl, hb⟩
    have HS5 := Lib.hid (⟨below_trans HS4.out.1 hb, HS4.out.2.below hb⟩ : _ ∧ _)
    have BD_5 := Lib.hid (BD_4.out.below hb (Nat.le_refl _))
    clear hb HS4 BD_4
    have cBD0 := BD_5.out.cell 0
    have cBD1 := BD_5.out.cell 1
    have cBD2 := BD_5.out.cell 2
    have cBD3 := BD_5.out.cell 3
    go_wp2_with fail
    clear cBD0 cBD1 cBD2 cBD3
    refine (HU.out _).mono ?_
    rintro e w6 ⟨rfl, hb⟩
    have HS6 := Lib.hid (⟨below_trans HS5.out.1 hb, HS5.out.2.below hb⟩ : _ ∧ _)
    have BD_6 := Lib.hid (BD_5.out.below hb (Nat.le_refl _))
    clear hb HS5 BD_5
    have cBD0 := BD_6.out.cell 0
    have cBD1 := BD_6.out.cell 1
    have cBD2 := BD_6.out.cell 2
    have cBD3 := BD_6.out.cell 3
    go_wp2_with fail
    clear cBD0 cBD1 cBD2 cBD3
    refine (HX.out _).mono ?_
    rintro e w7 ⟨rfl, hb⟩
    have HS7 := Lib.hid (⟨below_trans HS6.out.1 hb, HS6.out.2.below hb⟩ : _ ∧ _)
    have BD_7 := Lib.hid (BD_6.out.below hb (Nat.le_refl _))
    clear hb HS6 BD_6
    have cBD0 := BD_7.out.cell 0
    have cBD1 := BD_7.out.cell 1
    have cBD2 := BD_7.out.cell 2
    have cBD3 := BD_7.out.cell 3
    go_wp2_with fail
    clear cBD0 cBD1 cBD2 cBD3
    refine (HL.out _).mono ?_
    rintro e w8 ⟨rfl, hb⟩
    have HS8 := Lib.hid (⟨below_trans HS7.out.1 hb, HS7.out.2.below hb⟩ : _ ∧ _)
    have BD_8 := Lib.hid (BD_7.out.below hb (Nat.le_refl _))
    clear hb HS7 BD_7
    have cBD0 := BD_8.out.cell 0
    have cBD1 := BD_8.out.cell 1
    have cBD2 := BD_8.out.cell 2
    have cBD3 := BD_8.out.cell 3
    go_wp2_with fail
    clear cBD0 cBD1 cBD2 cBD3
    refine (HB.out _).mono ?_
    rintro e w9 ⟨rfl, hb⟩
    have HS9 := Lib.hid (⟨below_trans HS8.out.1 hb, HS8.out.2.below hb⟩ : _ ∧ _)
    have BD_9 := Lib.hid (BD_8.out.below hb (Nat.le_refl _))
    clear hb HS8 BD_8
    have cBD0 := BD_9.out.cell 0
    have cBD1 := BD_9.out.cell 1
    have cBD2 := BD_9.out.cell 2
    have cBD3 := BD_9.out.cell 3
    go_wp2_with fail
    clear cBD0 cBD1 cBD2 cBD3
    refine (HO.out _ HS9.out.2).mono ?_
    rintro e w10 ⟨rfl, hb⟩
    have HS10 := Lib.hid (⟨below_trans HS9.out.1 hb, HS9.out.2.below hb⟩ : _ ∧ _)
    have BD_10 := Lib.hid (BD_9.out.below hb (Nat.le_refl _))
    clear hb HS9 BD_9
    have cBD0 := BD_10.out.cell 0
    have cBD1 := BD_10.out.cell 1
    have cBD2 := BD_10.out.cell 2
    have cBD3 := BD_10.out.cell 3
    go_wp2_with fail
    clear cBD0 cBD1 cBD2 cBD3
    refine (HM.out _).mono ?_
    rintro e w11 ⟨rfl, hb⟩
    have HS11 := Lib.hid (⟨below_trans HS10.out.1 hb, HS10.out.2.below hb⟩ : _ ∧ _)
    have BD_11 := Lib.hid (BD_10.out.below hb (Nat.le_refl _))
    clear hb HS10 BD_10
    have cBD0 := BD_11.out.cell 0
    have cBD1 := BD_11.out.cell 1
    have cBD2 := BD_11.out.cell 2
    have cBD3 := BD_11.out.cell 3
    go_wp2_with fail
    clear cBD0 cBD1 cBD2 cBD3
    go_ret
    exact ⟨rfl, HS11.out.1⟩
  have e1 := decide_eq_false m1
  by_cases m2 : 12 < m
  case pos =>
    have e2 := decide_eq_true m2
    have HS0 := Lib.hid (show Below w.heap.size w w ∧ Wd w from ⟨below_self w, hW⟩)
    have HS1 := Lib.hid (⟨below_trans HS0.out.1 (below_alloc _ (.cells #[.int .i64 y, .int .i64 m, .int .i64 d, .int .i64 h] 23)), HS0.out.2.below (below_alloc _ (.cells #[.int .i64 y, .int .i64 m, .int .i64 d, .int .i64 h] 23))⟩ : _ ∧ _)
    have BD_1 := Lib.hid (Blk.new w 23 #[.int .i64 y, .int .i64 m, .int .i64 d, .int .i64 h])
    clear HS0 
    clear hW wy wm wd wh wf wu wn hsea b4 m1 m2
    go_enter Tryd.func8, Tryd.ntmps8
    go_wp2_with fail
    refine (HSM.out _ HS1.out.2).mono ?_
    rintro e w2 ⟨rfl, hb⟩
    have HS2 := Lib.hid (⟨below_trans HS1.out.1 hb, HS1.out.2.below hb⟩ : _ ∧ _)
    have BD_2 := Lib.hid (BD_1.out.below hb (Nat.le_refl _))
    clear hb HS1 BD_1
    have cBD0 := BD_2.out.cell 0
    have cBD1 := BD_2.out.cell 1
    have cBD2 := BD_2.out.cell 2
    have cBD3 := BD_2.out.cell 3
    go_wp2_with fail
    clear cBD0 cBD1 cBD2 cBD3
    refine (HN.out _ HS2.out.2).mono ?_
    rintro e w3 ⟨rfl, hb⟩
    have HS3 := Lib.hid (⟨below_trans HS2.out.1 hb, HS2.out.2.below hb⟩ : _ ∧ _)
    have BD_3 := Lib.hid (BD_2.out.below hb (Nat.le_refl _))
    clear hb HS2 BD_2
    have cBD0 := BD_3.out.cell 0
    have cBD1 := BD_3.out.cell 1
    have cBD2 := BD_3.out.cell 2
    have cBD3 := BD_3.out.cell 3
    go_wp2_with fail
    clear cBD0 cBD1 cBD2 cBD3
    refine (HR.out _).mono ?_
    rintro e w4 ⟨rfl, hb⟩
    have HS4 := Lib.hid (⟨below_trans HS3.out.1 hb, HS3.out.2.below hb⟩ : _ ∧ _)
    have BD_4 := Lib.hid (BD_3.out.below hb (Nat.le_refl _))
    clear hb HS3 BD_3
    have cBD0 := BD_4.out.cell 0
    have cBD1 := BD_4.out.cell 1
    have cBD2 := BD_4.out.cell 2
    have cBD3 := BD_4.out.cell 3
    go_wp2_with fail
    clear cBD0 cBD1 cBD2 cBD3
    refine (HF.out _).mono ?_
    rintro e w5 ⟨rfl, hb⟩
    have HS5 := Lib.hid (⟨below_trans HS4.out.1 hb, HS4.out.2.below hb⟩ : _ ∧ _)
    have BD_5 := Lib.hid (BD_4.out.below hb (Nat.le_refl _))
    clear hb HS4 BD_4
    have cBD0 := BD_5.out.cell 0
    have cBD1 := BD_5.out.cell 1
    have cBD2 := BD_5.out.cell 2
    have cBD3 := BD_5.out.cell 3
    go_wp2_with fail
    clear cBD0 cBD1 cBD2 cBD3
    refine (HU.out _).mono ?_
    rintro e w6 ⟨rfl, hb⟩
    have HS6 := Lib.hid (⟨below_trans HS5.out.1 hb, HS5.out.2.below hb⟩ : _ ∧ _)
    have BD_6 := Lib.hid (BD_5.out.below hb (Nat.le_refl _))
    clear hb HS5 BD_5
    have cBD0 := BD_6.out.cell 0
    have cBD1 := BD_6.out.cell 1
    have cBD2 := BD_6.out.cell 2
    have cBD3 := BD_6.out.cell 3
    go_wp2_with fail
    clear cBD0 cBD1 cBD2 cBD3
    refine (HX.out _).mono ?_
    rintro e w7 ⟨rfl, hb⟩
    have HS7 := Lib.hid (⟨below_trans HS6.out.1 hb, HS6.out.2.below hb⟩ : _ ∧ _)
    have BD_7 := Lib.hid (BD_6.out.below hb (Nat.le_refl _))
    clear hb HS6 BD_6
    have cBD0 := BD_7.out.cell 0
    have cBD1 := BD_7.out.cell 1
    have cBD2 := BD_7.out.cell 2
    have cBD3 := BD_7.out.cell 3
    go_wp2_with fail
    clear cBD0 cBD1 cBD2 cBD3
    refine (HL.out _).mono ?_
    rintro e w8 ⟨rfl, hb⟩
    have HS8 := Lib.hid (⟨below_trans HS7.out.1 hb, HS7.out.2.below hb⟩ : _ ∧ _)
    have BD_8 := Lib.hid (BD_7.out.below hb (Nat.le_refl _))
    clear hb HS7 BD_7
    have cBD0 := BD_8.out.cell 0
    have cBD1 := BD_8.out.cell 1
    have cBD2 := BD_8.out.cell 2
    have cBD3 := BD_8.out.cell 3
    go_wp2_with fail
    clear cBD0 cBD1 cBD2 cBD3
    refine (HB.out _).mono ?_
    rintro e w9 ⟨rfl, hb⟩
    have HS9 := Lib.hid (⟨below_trans HS8.out.1 hb, HS8.out.2.below hb⟩ : _ ∧ _)
    have BD_9 := Lib.hid (BD_8.out.below hb (Nat.le_refl _))
    clear hb HS8 BD_8
    have cBD0 := BD_9.out.cell 0
    have cBD1 := BD_9.out.cell 1
    have cBD2 := BD_9.out.cell 2
    have cBD3 := BD_9.out.cell 3
    go_wp2_with fail
    clear cBD0 cBD1 cBD2 cBD3
    refine (HO.out _ HS9.out.2).mono ?_
    rintro e w10 ⟨rfl, hb⟩
    have HS10 := Lib.hid (⟨below_trans HS9.out.1 hb, HS9.out.2.below hb⟩ : _ ∧ _)
    have BD_10 := Lib.hid (BD_9.out.below hb (Nat.le_refl _))
    clear hb HS9 BD_9
    have cBD0 := BD_10.out.cell 0
    have cBD1 := BD_10.out.cell 1
    have cBD2 := BD_10.out.cell 2
    have cBD3 := BD_10.out.cell 3
    go_wp2_with fail
    clear cBD0 cBD1 cBD2 cBD3
    refine (HM.out _).mono ?_
    rintro e w11 ⟨rfl, hb⟩
    have HS11 := Lib.hid (⟨below_trans HS10.out.1 hb, HS10.out.2.below hb⟩ : _ ∧ _)
    have BD_11 := Lib.hid (BD_10.out.below hb (Nat.le_refl _))
    clear hb HS10 BD_10
    have cBD0 := BD_11.out.cell 0
    have cBD1 := BD_11.out.cell 1
    have cBD2 := BD_11.out.cell 2
    have cBD3 := BD_11.out.cell 3
    go_wp2_with fail
    clear cBD0 cBD1 cBD2 cBD3
    go_ret
    exact ⟨rfl, HS11.out.1⟩
  have e2 := decide_eq_false m2
  by_cases m3 : d < 1
  case pos =>
    have e3 := decide_eq_true m3
    have HS0 := Lib.hid (show Below w.heap.size w w ∧ Wd w from ⟨below_self w, hW⟩)
    have HS1 := Lib.hid (⟨below_trans HS0.out.1 (below_alloc _ (.cells #[.int .i64 y, .int .i64 m, .int .i64 d, .int .i64 h] 23)), HS0.out.2.below (below_alloc _ (.cells #[.int .i64 y, .int .i64 m, .int .i64 d, .int .i64 h] 23))⟩ : _ ∧ _)
    have BD_1 := Lib.hid (Blk.new w 23 #[.int .i64 y, .int .i64 m, .int .i64 d, .int .i64 h])
    clear HS0 
    clear hW wy wm wd wh wf wu wn hsea b4 m1 m2 m3
    go_enter Tryd.func8, Tryd.ntmps8
    go_wp2_with fail
    refine (HSM.out _ HS1.out.2).mono ?_
    rintro e w2 ⟨rfl, hb⟩
    have HS2 := Lib.hid (⟨below_trans HS1.out.1 hb, HS1.out.2.below hb⟩ : _ ∧ _)
    have BD_2 := Lib.hid (BD_1.out.below hb (Nat.le_refl _))
    clear hb HS1 BD_1
    have cBD0 := BD_2.out.cell 0
    have cBD1 := BD_2.out.cell 1
    have cBD2 := BD_2.out.cell 2
    have cBD3 := BD_2.out.cell 3
    go_wp2_with fail
    clear cBD0 cBD1 cBD2 cBD3
    refine (HN.out _ HS2.out.2).mono ?_
    rintro e w3 ⟨rfl, hb⟩
    have HS3 := Lib.hid (⟨below_trans HS2.out.1 hb, HS2.out.2.below hb⟩ : _ ∧ _)
    have BD_3 := Lib.hid (BD_2.out.below hb (Nat.le_refl _))
    clear hb HS2 BD_2
    have cBD0 := BD_3.out.cell 0
    have cBD1 := BD_3.out.cell 1
    have cBD2 := BD_3.out.cell 2
    have cBD3 := BD_3.out.cell 3
    go_wp2_with fail
    clear cBD0 cBD1 cBD2 cBD3
    refine (HR.out _).mono ?_
    rintro e w4 ⟨rfl, hb⟩
    have HS4 := Lib.hid (⟨below_trans HS3.out.1 hb, HS3.out.2.below hb⟩ : _ ∧ _)
    have BD_4 := Lib.hid (BD_3.out.below hb (Nat.le_refl _))
    clear hb HS3 BD_3
    have cBD0 := BD_4.out.cell 0
    have cBD1 := BD_4.out.cell 1
    have cBD2 := BD_4.out.cell 2
    have cBD3 := BD_4.out.cell 3
    go_wp2_with fail
    clear cBD0 cBD1 cBD2 cBD3
    refine (HF.out _).mono ?_
    rintro e w5 ⟨rfl, hb⟩
    have HS5 := Lib.hid (⟨below_trans HS4.out.1 hb, HS4.out.2.below hb⟩ : _ ∧ _)
    have BD_5 := Lib.hid (BD_4.out.below hb (Nat.le_refl _))
    clear hb HS4 BD_4
    have cBD0 := BD_5.out.cell 0
    have cBD1 := BD_5.out.cell 1
    have cBD2 := BD_5.out.cell 2
    have cBD3 := BD_5.out.cell 3
    go_wp2_with fail
    clear cBD0 cBD1 cBD2 cBD3
    refine (HU.out _).mono ?_
    rintro e w6 ⟨rfl, hb⟩
    have HS6 := Lib.hid (⟨below_trans HS5.out.1 hb, HS5.out.2.below hb⟩ : _ ∧ _)
    have BD_6 := Lib.hid (BD_5.out.below hb (Nat.le_refl _))
    clear hb HS5 BD_5
    have cBD0 := BD_6.out.cell 0
    have cBD1 := BD_6.out.cell 1
    have cBD2 := BD_6.out.cell 2
    have cBD3 := BD_6.out.cell 3
    go_wp2_with fail
    clear cBD0 cBD1 cBD2 cBD3
    refine (HX.out _).mono ?_
    rintro e w7 ⟨rfl, hb⟩
    have HS7 := Lib.hid (⟨below_trans HS6.out.1 hb, HS6.out.2.below hb⟩ : _ ∧ _)
    have BD_7 := Lib.hid (BD_6.out.below hb (Nat.le_refl _))
    clear hb HS6 BD_6
    have cBD0 := BD_7.out.cell 0
    have cBD1 := BD_7.out.cell 1
    have cBD2 := BD_7.out.cell 2
    have cBD3 := BD_7.out.cell 3
    go_wp2_with fail
    clear cBD0 cBD1 cBD2 cBD3
    refine (HL.out _).mono ?_
    rintro e w8 ⟨rfl, hb⟩
    have HS8 := Lib.hid (⟨below_trans HS7.out.1 hb, HS7.out.2.below hb⟩ : _ ∧ _)
    have BD_8 := Lib.hid (BD_7.out.below hb (Nat.le_refl _))
    clear hb HS7 BD_7
    have cBD0 := BD_8.out.cell 0
    have cBD1 := BD_8.out.cell 1
    have cBD2 := BD_8.out.cell 2
    have cBD3 := BD_8.out.cell 3
    go_wp2_with fail
    clear cBD0 cBD1 cBD2 cBD3
    refine (HB.out _).mono ?_
    rintro e w9 ⟨rfl, hb⟩
    have HS9 := Lib.hid (⟨below_trans HS8.out.1 hb, HS8.out.2.below hb⟩ : _ ∧ _)
    have BD_9 := Lib.hid (BD_8.out.below hb (Nat.le_refl _))
    clear hb HS8 BD_8
    have cBD0 := BD_9.out.cell 0
    have cBD1 := BD_9.out.cell 1
    have cBD2 := BD_9.out.cell 2
    have cBD3 := BD_9.out.cell 3
    go_wp2_with fail
    clear cBD0 cBD1 cBD2 cBD3
    refine (HO.out _ HS9.out.2).mono ?_
    rintro e w10 ⟨rfl, hb⟩
    have HS10 := Lib.hid (⟨below_trans HS9.out.1 hb, HS9.out.2.below hb⟩ : _ ∧ _)
    have BD_10 := Lib.hid (BD_9.out.below hb (Nat.le_refl _))
    clear hb HS9 BD_9
    have cBD0 := BD_10.out.cell 0
    have cBD1 := BD_10.out.cell 1
    have cBD2 := BD_10.out.cell 2
    have cBD3 := BD_10.out.cell 3
    go_wp2_with fail
    clear cBD0 cBD1 cBD2 cBD3
    refine (HM.out _).mono ?_
    rintro e w11 ⟨rfl, hb⟩
    have HS11 := Lib.hid (⟨below_trans HS10.out.1 hb, HS10.out.2.below hb⟩ : _ ∧ _)
    have BD_11 := Lib.hid (BD_10.out.below hb (Nat.le_refl _))
    clear hb HS10 BD_10
    have cBD0 := BD_11.out.cell 0
    have cBD1 := BD_11.out.cell 1
    have cBD2 := BD_11.out.cell 2
    have cBD3 := BD_11.out.cell 3
    go_wp2_with fail
    clear cBD0 cBD1 cBD2 cBD3
    go_ret
    exact ⟨rfl, HS11.out.1⟩
  have e3 := decide_eq_false m3
  by_cases m4 : 31 < d
  case pos =>
    have e4 := decide_eq_true m4
    have HS0 := Lib.hid (show Below w.heap.size w w ∧ Wd w from ⟨below_self w, hW⟩)
    have HS1 := Lib.hid (⟨below_trans HS0.out.1 (below_alloc _ (.cells #[.int .i64 y, .int .i64 m, .int .i64 d, .int .i64 h] 23)), HS0.out.2.below (below_alloc _ (.cells #[.int .i64 y, .int .i64 m, .int .i64 d, .int .i64 h] 23))⟩ : _ ∧ _)
    have BD_1 := Lib.hid (Blk.new w 23 #[.int .i64 y, .int .i64 m, .int .i64 d, .int .i64 h])
    clear HS0 
    clear hW wy wm wd wh wf wu wn hsea b4 m1 m2 m3 m4
    go_enter Tryd.func8, Tryd.ntmps8
    go_wp2_with fail
    refine (HSM.out _ HS1.out.2).mono ?_
    rintro e w2 ⟨rfl, hb⟩
    have HS2 := Lib.hid (⟨below_trans HS1.out.1 hb, HS1.out.2.below hb⟩ : _ ∧ _)
    have BD_2 := Lib.hid (BD_1.out.below hb (Nat.le_refl _))
    clear hb HS1 BD_1
    have cBD0 := BD_2.out.cell 0
    have cBD1 := BD_2.out.cell 1
    have cBD2 := BD_2.out.cell 2
    have cBD3 := BD_2.out.cell 3
    go_wp2_with fail
    clear cBD0 cBD1 cBD2 cBD3
    refine (HN.out _ HS2.out.2).mono ?_
    rintro e w3 ⟨rfl, hb⟩
    have HS3 := Lib.hid (⟨below_trans HS2.out.1 hb, HS2.out.2.below hb⟩ : _ ∧ _)
    have BD_3 := Lib.hid (BD_2.out.below hb (Nat.le_refl _))
    clear hb HS2 BD_2
    have cBD0 := BD_3.out.cell 0
    have cBD1 := BD_3.out.cell 1
    have cBD2 := BD_3.out.cell 2
    have cBD3 := BD_3.out.cell 3
    go_wp2_with fail
    clear cBD0 cBD1 cBD2 cBD3
    refine (HR.out _).mono ?_
    rintro e w4 ⟨rfl, hb⟩
    have HS4 := Lib.hid (⟨below_trans HS3.out.1 hb, HS3.out.2.below hb⟩ : _ ∧ _)
    have BD_4 := Lib.hid (BD_3.out.below hb (Nat.le_refl _))
    clear hb HS3 BD_3
    have cBD0 := BD_4.out.cell 0
    have cBD1 := BD_4.out.cell 1
    have cBD2 := BD_4.out.cell 2
    have cBD3 := BD_4.out.cell 3
    go_wp2_with fail
    clear cBD0 cBD1 cBD2 cBD3
    refine (HF.out _).mono ?_
    rintro e w5 ⟨rfl, hb⟩
    have HS5 := Lib.hid (⟨below_trans HS4.out.1 hb, HS4.out.2.below hb⟩ : _ ∧ _)
    have BD_5 := Lib.hid (BD_4.out.below hb (Nat.le_refl _))
    clear hb HS4 BD_4
    have cBD0 := BD_5.out.cell 0
    have cBD1 := BD_5.out.cell 1
    have cBD2 := BD_5.out.cell 2
    have cBD3 := BD_5.out.cell 3
    go_wp2_with fail
    clear cBD0 cBD1 cBD2 cBD3
    refine (HU.out _).mono ?_
    rintro e w6 ⟨rfl, hb⟩
    have HS6 := Lib.hid (⟨below_trans HS5.out.1 hb, HS5.out.2.below hb⟩ : _ ∧ _)
    have BD_6 := Lib.hid (BD_5.out.below hb (Nat.le_refl _))
    clear hb HS5 BD_5
    have cBD0 := BD_6.out.cell 0
    have cBD1 := BD_6.out.cell 1
    have cBD2 := BD_6.out.cell 2
    have cBD3 := BD_6.out.cell 3
    go_wp2_with fail
    clear cBD0 cBD1 cBD2 cBD3
    refine (HX.out _).mono ?_
    rintro e w7 ⟨rfl, hb⟩
    have HS7 := Lib.hid (⟨below_trans HS6.out.1 hb, HS6.out.2.below hb⟩ : _ ∧ _)
    have BD_7 := Lib.hid (BD_6.out.below hb (Nat.le_refl _))
    clear hb HS6 BD_6
    have cBD0 := BD_7.out.cell 0
    have cBD1 := BD_7.out.cell 1
    have cBD2 := BD_7.out.cell 2
    have cBD3 := BD_7.out.cell 3
    go_wp2_with fail
    clear cBD0 cBD1 cBD2 cBD3
    refine (HL.out _).mono ?_
    rintro e w8 ⟨rfl, hb⟩
    have HS8 := Lib.hid (⟨below_trans HS7.out.1 hb, HS7.out.2.below hb⟩ : _ ∧ _)
    have BD_8 := Lib.hid (BD_7.out.below hb (Nat.le_refl _))
    clear hb HS7 BD_7
    have cBD0 := BD_8.out.cell 0
    have cBD1 := BD_8.out.cell 1
    have cBD2 := BD_8.out.cell 2
    have cBD3 := BD_8.out.cell 3
    go_wp2_with fail
    clear cBD0 cBD1 cBD2 cBD3
    refine (HB.out _).mono ?_
    rintro e w9 ⟨rfl, hb⟩
    have HS9 := Lib.hid (⟨below_trans HS8.out.1 hb, HS8.out.2.below hb⟩ : _ ∧ _)
    have BD_9 := Lib.hid (BD_8.out.below hb (Nat.le_refl _))
    clear hb HS8 BD_8
    have cBD0 := BD_9.out.cell 0
    have cBD1 := BD_9.out.cell 1
    have cBD2 := BD_9.out.cell 2
    have cBD3 := BD_9.out.cell 3
    go_wp2_with fail
    clear cBD0 cBD1 cBD2 cBD3
    refine (HO.out _ HS9.out.2).mono ?_
    rintro e w10 ⟨rfl, hb⟩
    have HS10 := Lib.hid (⟨below_trans HS9.out.1 hb, HS9.out.2.below hb⟩ : _ ∧ _)
    have BD_10 := Lib.hid (BD_9.out.below hb (Nat.le_refl _))
    clear hb HS9 BD_9
    have cBD0 := BD_10.out.cell 0
    have cBD1 := BD_10.out.cell 1
    have cBD2 := BD_10.out.cell 2
    have cBD3 := BD_10.out.cell 3
    go_wp2_with fail
    clear cBD0 cBD1 cBD2 cBD3
    refine (HM.out _).mono ?_
    rintro e w11 ⟨rfl, hb⟩
    have HS11 := Lib.hid (⟨below_trans HS10.out.1 hb, HS10.out.2.below hb⟩ : _ ∧ _)
    have BD_11 := Lib.hid (BD_10.out.below hb (Nat.le_refl _))
    clear hb HS10 BD_10
    have cBD0 := BD_11.out.cell 0
    have cBD1 := BD_11.out.cell 1
    have cBD2 := BD_11.out.cell 2
    have cBD3 := BD_11.out.cell 3
    go_wp2_with fail
    clear cBD0 cBD1 cBD2 cBD3
    go_ret
    exact ⟨rfl, HS11.out.1⟩
  have e4 := decide_eq_false m4
  have hrr := hsea b4 (by omega) (by omega) (by omega) (by omega)
  have hne : (r != r2) = true := by rw [hrr]; cases r2 <;> rfl
  have HS0 := Lib.hid (show Below w.heap.size w w ∧ Wd w from ⟨below_self w, hW⟩)
  have HS1 := Lib.hid (⟨below_trans HS0.out.1 (below_alloc _ (.cells #[.int .i64 y, .int .i64 m, .int .i64 d, .int .i64 h] 23)), HS0.out.2.below (below_alloc _ (.cells #[.int .i64 y, .int .i64 m, .int .i64 d, .int .i64 h] 23))⟩ : _ ∧ _)
  have BD_1 := Lib.hid (Blk.new w 23 #[.int .i64 y, .int .i64 m, .int .i64 d, .int .i64 h])
  clear HS0 
  have HRR := Lib.hid hrr
  clear hW wy wm wd wh wf wu wn hsea b4 m1 m2 m3 m4 hrr
  go_enter Tryd.func8, Tryd.ntmps8
  go_wp2_with fail
  refine (HSM.out _ HS1.out.2).mono ?_
  rintro e w2 ⟨rfl, hb⟩
  have HS2 := Lib.hid (⟨below_trans HS1.out.1 hb, HS1.out.2.below hb⟩ : _ ∧ _)
  have BD_2 := Lib.hid (BD_1.out.below hb (Nat.le_refl _))
  clear hb HS1 BD_1
  have cBD0 := BD_2.out.cell 0
  have cBD1 := BD_2.out.cell 1
  have cBD2 := BD_2.out.cell 2
  have cBD3 := BD_2.out.cell 3
  go_wp2_with fail
  clear cBD0 cBD1 cBD2 cBD3
  refine (HN.out _ HS2.out.2).mono ?_
  rintro e w3 ⟨rfl, hb⟩
  have HS3 := Lib.hid (⟨below_trans HS2.out.1 hb, HS2.out.2.below hb⟩ : _ ∧ _)
  have BD_3 := Lib.hid (BD_2.out.below hb (Nat.le_refl _))
  clear hb HS2 BD_2
  have cBD0 := BD_3.out.cell 0
  have cBD1 := BD_3.out.cell 1
  have cBD2 := BD_3.out.cell 2
  have cBD3 := BD_3.out.cell 3
  go_wp2_with fail
  clear cBD0 cBD1 cBD2 cBD3
  refine (HR.out _).mono ?_
  rintro e w4 ⟨rfl, hb⟩
  have HS4 := Lib.hid (⟨below_trans HS3.out.1 hb, HS3.out.2.below hb⟩ : _ ∧ _)
  have BD_4 := Lib.hid (BD_3.out.below hb (Nat.le_refl _))
  clear hb HS3 BD_3
  have cBD0 := BD_4.out.cell 0
  have cBD1 := BD_4.out.cell 1
  have cBD2 := BD_4.out.cell 2
  have cBD3 := BD_4.out.cell 3
  go_wp2_with fail
  clear cBD0 cBD1 cBD2 cBD3
  refine (HF.out _).mono ?_
  rintro e w5 ⟨rfl, hb⟩
  have HS5 := Lib.hid (⟨below_trans HS4.out.1 hb, HS4.out.2.below hb⟩ : _ ∧ _)
  have BD_5 := Lib.hid (BD_4.out.below hb (Nat.le_refl _))
  clear hb HS4 BD_4
  have cBD0 := BD_5.out.cell 0
  have cBD1 := BD_5.out.cell 1
  have cBD2 := BD_5.out.cell 2
  have cBD3 := BD_5.out.cell 3
  go_wp2_with fail
  clear cBD0 cBD1 cBD2 cBD3
  refine (HU.out _).mono ?_
  rintro e w6 ⟨rfl, hb⟩
  have HS6 := Lib.hid (⟨below_trans HS5.out.1 hb, HS5.out.2.below hb⟩ : _ ∧ _)
  have BD_6 := Lib.hid (BD_5.out.below hb (Nat.le_refl _))
  clear hb HS5 BD_5
  have cBD0 := BD_6.out.cell 0
  have cBD1 := BD_6.out.cell 1
  have cBD2 := BD_6.out.cell 2
  have cBD3 := BD_6.out.cell 3
  go_wp2_with fail
  clear cBD0 cBD1 cBD2 cBD3
  refine (HX.out _).mono ?_
  rintro e w7 ⟨rfl, hb⟩
  have HS7 := Lib.hid (⟨below_trans HS6.out.1 hb, HS6.out.2.below hb⟩ : _ ∧ _)
  have BD_7 := Lib.hid (BD_6.out.below hb (Nat.le_refl _))
  clear hb HS6 BD_6
  have cBD0 := BD_7.out.cell 0
  have cBD1 := BD_7.out.cell 1
  have cBD2 := BD_7.out.cell 2
  have cBD3 := BD_7.out.cell 3
  go_wp2_with fail
  clear cBD0 cBD1 cBD2 cBD3
  refine (HL.out _).mono ?_
  rintro e w8 ⟨rfl, hb⟩
  have HS8 := Lib.hid (⟨below_trans HS7.out.1 hb, HS7.out.2.below hb⟩ : _ ∧ _)
  have BD_8 := Lib.hid (BD_7.out.below hb (Nat.le_refl _))
  clear hb HS7 BD_7
  have cBD0 := BD_8.out.cell 0
  have cBD1 := BD_8.out.cell 1
  have cBD2 := BD_8.out.cell 2
  have cBD3 := BD_8.out.cell 3
  go_wp2_with fail
  clear cBD0 cBD1 cBD2 cBD3
  refine (HB.out _).mono ?_
  rintro e w9 ⟨rfl, hb⟩
  have HS9 := Lib.hid (⟨below_trans HS8.out.1 hb, HS8.out.2.below hb⟩ : _ ∧ _)
  have BD_9 := Lib.hid (BD_8.out.below hb (Nat.le_refl _))
  clear hb HS8 BD_8
  have cBD0 := BD_9.out.cell 0
  have cBD1 := BD_9.out.cell 1
  have cBD2 := BD_9.out.cell 2
  have cBD3 := BD_9.out.cell 3
  go_wp2_with fail
  clear cBD0 cBD1 cBD2 cBD3
  refine (HO.out _ HS9.out.2).mono ?_
  rintro e w10 ⟨rfl, hb⟩
  have HS10 := Lib.hid (⟨below_trans HS9.out.1 hb, HS9.out.2.below hb⟩ : _ ∧ _)
  have BD_10 := Lib.hid (BD_9.out.below hb (Nat.le_refl _))
  clear hb HS9 BD_9
  have cBD0 := BD_10.out.cell 0
  have cBD1 := BD_10.out.cell 1
  have cBD2 := BD_10.out.cell 2
  have cBD3 := BD_10.out.cell 3
  go_wp2_with fail
  clear cBD0 cBD1 cBD2 cBD3
  refine (HM.out _).mono ?_
  rintro e w11 ⟨rfl, hb⟩
  have HS11 := Lib.hid (⟨below_trans HS10.out.1 hb, HS10.out.2.below hb⟩ : _ ∧ _)
  have BD_11 := Lib.hid (BD_10.out.below hb (Nat.le_refl _))
  clear hb HS10 BD_10
  have cBD0 := BD_11.out.cell 0
  have cBD1 := BD_11.out.cell 1
  have cBD2 := BD_11.out.cell 2
  have cBD3 := BD_11.out.cell 3
  go_wp2_with fail
  clear cBD0 cBD1 cBD2 cBD3
  go_ret
  exact ⟨ret_b (by first | exact hne | (rw [HRR.out]; cases r2 <;> rfl) | simpa using hne), HS11.out.1⟩
set_option maxRecDepth 100000 in
theorem lifted (os : Os) (started : os.Started) (H : Type) (enc : TypeId × Value → H) :
    ReturnsInHanded {} Tryd.checked os 8 .any (fun w args => (Rows.dateSeasonsSpec.pre enc Tryd.prog Tryd.f8 Rows.dateSeasonsRow.domain false w args ∧ laidMetH Tryd.prog Rows.dateSeasonsRow.laid w) ∧ sizedMet enc Tryd.prog Tryd.f8 (OpenSpec.ofChange Rows.dateSeasonsSpec) false w args)
      (Rows.dateSeasonsSpec.post enc Tryd.prog Tryd.f8 false true false false) := by
  refine returns_both (C := Tryd.checked) (X := fun w _ => laidMetH Tryd.prog Rows.dateSeasonsRow.laid w) (fun _ _ _ hh h => h.of_heap hh.symm) own started (by kernel_rfl) Tryd.func8
    (ChangeSpec.witness_shaped (enc := enc) (C := Tryd.checked) (os := os) (X := fun w _ => laidMetH Tryd.prog Rows.dateSeasonsRow.laid w) false (World.laidAll Tryd.prog os Rows.dateSeasonsRow.laid) #[.agg #[.int .i64 0, .int .i64 0, .int .i64 0, .int .i64 0], .int .i64 0, .int .i64 0, .int .i64 0] 8 (World.laidAll_os _ _ _)
      (World.shaped_of_ZipB (by kernel_rfl) (by kernel_rfl)) (by kernel_rfl) (by kernel_rfl) (by kernel_rfl)
      (by rw [MakeChecks.laidMetH_plain _ _ _ (by kernel_rfl)]; exact laidMet_laidAll _ (by kernel_rfl) (by kernel_rfl))) ?_
  intro W base args ds gs before hval0 hW hsh hX hsz0
  have hsz : (DataW.weightsEach Tryd.prog (Tryd.f8.params.toList ++ Rows.dateSeasonsSpec.plain.varTypes Tryd.prog) (ds ++ gs)).all (· ≤ reachBytes) = true := hsz0
  clear hsz0
  have hWd : Wd W := wd_of_laid hX
  have hval : ∀ (j : Nat) t v, Tryd.f8.params[j]? = some t → args[j]? = some v → Value.okWide Tryd.prog W .any base t v := hval0
  have hW' := hW
  obtain ⟨p, q, hA0, hV, rfl, hfz, hnd⟩ := hW
  have hA : DataW.TrodAll enc Tryd.prog W 0 (fun _ => true) true Tryd.f8.params.toList args.toList ds p := hA0
  rw [Tryd.params8] at hA hval hsz
  obtain ⟨v0, vs0, d0, ds0, p0, q0, hargs, rfl, rfl, h0, r0⟩ := trodAll_cons hA
  obtain ⟨v1, vs1, d1, ds1, p1, q1, rfl, rfl, rfl, h1, r1⟩ := trodAll_cons r0
  obtain ⟨v2, vs2, d2, ds2, p2, q2, rfl, rfl, rfl, h2, r2⟩ := trodAll_cons r1
  obtain ⟨v3, vs3, d3, ds3, p3, q3, rfl, rfl, rfl, h3, r3⟩ := trodAll_cons r2
  obtain ⟨rfl, rfl, rfl⟩ := trodAll_nil r3
  obtain rfl : args = #[v0, v1, v2, v3] := by cases args; simp_all
  obtain ⟨rfl, rfl⟩ := trodVars_none hV
  obtain ⟨y0, m0, k0, x0, rfl, wy0, wm0, wk0, wx0, rfl, t0⟩ := open_date (hval 0 23 v0 rfl rfl) h0
  obtain ⟨a1, rfl, rfl, rfl, w1⟩ := open_int Tryd.underlying3 (hval 1 3 v1 rfl rfl) h1
  obtain ⟨a2, rfl, rfl, rfl, w2⟩ := open_int Tryd.underlying3 (hval 2 3 v2 rfl rfl) h2
  obtain ⟨a3, rfl, rfl, rfl, w3⟩ := open_int Tryd.underlying3 (hval 3 3 v3 rfl rfl) h3
  clear hA0 hval0
  simp only [List.append_nil] at hW'
  refine (walk y0 m0 k0 x0 wy0 wm0 wk0 wx0 a1 (i64_of_wf w1) a2 (i64_of_wf w2) a3 (i64_of_wf w3) W hWd).mono fun e W' ⟨he, hb⟩ => ?_
  subst he
  exact ⟨_, rfl, _, _, _, [], _, [], hW', (trodAll_cons_mk (shut_bool Tryd.underlying4 _) trodAll_mk0), (trodAll_cons_mk (t0 _ _ _ _) (trodAll_cons_mk (shut_int Tryd.underlying3 w1) (trodAll_cons_mk (shut_int Tryd.underlying3 w2) (trodAll_cons_mk (shut_int Tryd.underlying3 w3) trodAll_mk0)))), rfl, hb.frame _, fun h => by cases h⟩

theorem over : Rows.DateSeasonsSaid :=
  OpenClaim.holds_of_wide 8 Tryd.f8 rfl rfl rfl rfl rfl rfl rfl ⟨rfl, rfl, rfl, rfl, rfl⟩ rfl rfl rfl rfl rfl (by kernel_rfl) Tryd.func8 (by kernel_rfl)
    (of_decide_eq_true (by kernel_rfl)) (by unfold Func.isWrapper; first | (rw [if_pos (by decide +kernel)]; kernel_rfl) | (rw [if_neg (by decide +kernel)]; exact ⟨rfl, rfl⟩))
    (fun os started H enc _ => lifted os started H enc)
theorem proved : Rows.DateSeasonsCardSaid :=
  Claim7.holds_tied_plain_at .later [] [.data, .data, .data, .sentinel, .sentinel, .data] true Rows.dateSeasonsCard.stood.harness true over (fun _ h => by cases h) (by kernel_rfl) (fun _ h => by cases h) dateSeasons_row_tie rfl ⟨rfl, rfl⟩ (by kernel_rfl) rfl
    (fun f fn hf hfn => by
      obtain rfl : f = 8 := Option.some.inj ((show Tryd.prog.funcNamed "bourne/bournelaw08.DateSeasons" = some 8 by kernel_rfl).symm.trans hf) |>.symm
      obtain rfl : fn = Tryd.f8 := (Option.some.inj (Tryd.func8.symm.trans hfn)).symm
      exact ⟨by kernel_rfl, fun j t ht => by
        rw [Tryd.params8] at ht
        have hm : t ∈ [23, 3, 3, 3] := by simpa using Array.mem_of_getElem? ht
        have hall : ([23, 3, 3, 3].all fun u => !Tryd.prog.wantsStandIn u) = true := by kernel_rfl
        exact (show Tryd.prog.wantsStandIn t = false by simpa using List.all_eq_true.1 hall t hm)⟩)
    (by kernel_rfl)
end Go.Proofs.YtanjkjendppigaaDoor.dateSeasons
