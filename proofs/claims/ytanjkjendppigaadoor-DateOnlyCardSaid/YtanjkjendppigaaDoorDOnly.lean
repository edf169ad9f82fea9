/- The statement DateOnly: Hour accepts a date only if Of of its hour is this date; Parse accepts a string only if it is the text of the hour. Conditions: those of its row. -/
import Derived.Test.YtanjkjendppigaaDoorDDet
namespace Go.Proofs.YtanjkjendppigaaDoor.dateOnly
open Go.ChangeShapes Go.WideShapes Go.ChangeAt Go.RowKit Go.Joins Cal Dy
set_option linter.unusedVariables false
set_option maxRecDepth 100000

set_option maxHeartbeats 4000000 in
theorem walk (y m d h : Int) (wy : I64 y) (wm : I64 m) (wd : I64 d) (wh : I64 h) (s : ByteArray) (z : s.size ≤ 140737488355328) (w : World) (hW : Wd w) : Calls Tryd.prog 7 #[dv y m d h, .string s] w (IsTrue w) := by
  obtain ⟨l, hl⟩ : ∃ l, s.data.toList = l := ⟨_, rfl⟩
  have hs : s = sv l := by rw [← hl, sv_of]
  have hz : l.length ≤ 140737488355328 := by rw [← sv_size, ← hs]; exact z
  obtain ⟨n, b, hd, hcase⟩ := parse_det l
  have HSM := Lib.hid (fun W hW => small_any W hW)
  have HP := Lib.hid (fun W hW => parse_at hd hz W hW)
  have HH := Lib.hid (fun W hW => hour_any y m d h W hW)
  have HO := Lib.hid (fun W hW => of_any (hourN y m d h) W hW)
  have HT := Lib.hid (fun W hW => text_any n W hW)
  unfold hourV at HH
  rw [← hs] at HP
  by_cases hok : okI y m d h
  · rw [ofV_okI hok] at HO
    rw [decide_eq_true hok] at HH
    generalize hourN y m d h = x at *
    unfold dv at *
    rcases hcase with ⟨rfl, t, ht, rfl, rfl⟩ | ⟨rfl, rfl⟩
    · rw [textB_nat ht, ← hs] at HT
      have HS0 := Lib.hid (show Below w.heap.size w w ∧ Wd w from ⟨below_self w, hW⟩)
      have HS1 := Lib.hid (⟨below_trans HS0.out.1 (below_alloc _ (.cells #[.int .i64 y, .int .i64 m, .int .i64 d, .int .i64 h] 23)), HS0.out.2.below (below_alloc _ (.cells #[.int .i64 y, .int .i64 m, .int .i64 d, .int .i64 h] 23))⟩ : _ ∧ _)
      have BD_1 := Lib.hid (Blk.new w 23 #[.int .i64 y, .int .i64 m, .int .i64 d, .int .i64 h])
      clear HS0 
      clear hW wy wm wd wh hl hs hz hd z hok
      go_enter Tryd.func7, Tryd.ntmps7
      go_wp2_with fail
      refine (HSM.out _ HS1.out.2).mono ?_
      rintro e w2 ⟨rfl, hb⟩
      have HS2 := Lib.hid (⟨below_trans HS1.out.1 hb, HS1.out.2.below hb⟩ : _ ∧ _)
      have BD_2 := Lib.hid (BD_1.out.below hb (Nat.le_refl _))
      clear hb HS1 BD_1
      have cBD0 := BD_2.out.cell 0
      have cBD1 := BD_2.out.cell 1
      have cBD2 := BD_2.out.cell 2
      have cBD3 := BD_2.out.cell 3
      go_wp2_with fail
      clear cBD0 cBD1 cBD2 cBD3
      refine (HH.out _ HS2.out.2).mono ?_
      rintro e w3 ⟨rfl, hb⟩
      have HS3 := Lib.hid (⟨below_trans HS2.out.1 hb, HS2.out.2.below hb⟩ : _ ∧ _)
      have BD_3 := Lib.hid (BD_2.out.below hb (Nat.le_refl _))
      clear hb HS2 BD_2
      have cBD0 := BD_3.out.cell 0
      have cBD1 := BD_3.out.cell 1
      have cBD2 := BD_3.out.cell 2
      have cBD3 := BD_3.out.cell 3
      go_wp2_with fail
      clear cBD0 cBD1 cBD2 cBD3
      refine (HO.out _ HS3.out.2).mono ?_
      rintro e w4 ⟨rfl, hb⟩
      have HS4 := Lib.hid (⟨below_trans HS3.out.1 hb, HS3.out.2.below hb⟩ : _ ∧ _)
      have BD_4 := Lib.hid (BD_3.out.below hb (Nat.le_refl _))
      clear hb HS3 BD_3
      have HS5 := Lib.hid (⟨below_trans HS4.out.1 (below_alloc _ (.cells #[.int .i64 y, .int .i64 m, .int .i64 d, .int .i64 h] 23)), HS4.out.2.below (below_alloc _ (.cells #[.int .i64 y, .int .i64 m, .int .i64 d, .int .i64 h] 23))⟩ : _ ∧ _)
      have BD_5 := Lib.hid (BD_4.out.below (below_alloc w4 (.cells #[.int .i64 y, .int .i64 m, .int .i64 d, .int .i64 h] 23)) (Nat.le_refl _))
      have BE_5 := Lib.hid (Blk.new w4 23 #[.int .i64 y, .int .i64 m, .int .i64 d, .int .i64 h])
      clear HS4 BD_4
      have cBD0 := BD_5.out.cell 0
      have cBD1 := BD_5.out.cell 1
      have cBD2 := BD_5.out.cell 2
      have cBD3 := BD_5.out.cell 3
      have cBE0 := BE_5.out.cell 0
      have cBE1 := BE_5.out.cell 1
      have cBE2 := BE_5.out.cell 2
      have cBE3 := BE_5.out.cell 3
      go_wp2_with fail
      clear cBD0 cBD1 cBD2 cBD3 cBE0 cBE1 cBE2 cBE3
      refine (HP.out _ HS5.out.2).mono ?_
      rintro e w6 ⟨rfl, hb⟩
      have HS6 := Lib.hid (⟨below_trans HS5.out.1 hb, HS5.out.2.below hb⟩ : _ ∧ _)
      have BD_6 := Lib.hid (BD_5.out.below hb (Nat.le_refl _))
      have BE_6 := Lib.hid (BE_5.out.below hb (Nat.le_refl _))
      clear hb HS5 BD_5 BE_5
      have cBD0 := BD_6.out.cell 0
      have cBD1 := BD_6.out.cell 1
      have cBD2 := BD_6.out.cell 2
      have cBD3 := BD_6.out.cell 3
      have cBE0 := BE_6.out.cell 0
      have cBE1 := BE_6.out.cell 1
      have cBE2 := BE_6.out.cell 2
      have cBE3 := BE_6.out.cell 3
      go_wp2_with fail
      clear cBD0 cBD1 cBD2 cBD3 cBE0 cBE1 cBE2 cBE3
      refine (HT.out _ HS6.out.2).mono ?_
      rintro e w7 ⟨rfl, hb⟩
      have HS7 := Lib.hid (⟨below_trans HS6.out.1 hb, HS6.out.2.below hb⟩ : _ ∧ _)
      have BD_7 := Lib.hid (BD_6.out.below hb (Nat.le_refl _))
      have BE_7 := Lib.hid (BE_6.out.below hb (Nat.le_refl _))
      clear hb HS6 BD_6 BE_6
      have cBD0 := BD_7.out.cell 0
      have cBD1 := BD_7.out.cell 1
      have cBD2 := BD_7.out.cell 2
      have cBD3 := BD_7.out.cell 3
      have cBE0 := BE_7.out.cell 0
      have cBE1 := BE_7.out.cell 1
      have cBE2 := BE_7.out.cell 2
      have cBE3 := BE_7.out.cell 3
      go_wp2_with fail
      clear cBD0 cBD1 cBD2 cBD3 cBE0 cBE1 cBE2 cBE3
      go_ret
      exact ⟨rfl, HS7.out.1⟩
    · clear HT
      have HS0 := Lib.hid (show Below w.heap.size w w ∧ Wd w from ⟨below_self w, hW⟩)
      have HS1 := Lib.hid (⟨below_trans HS0.out.1 (below_alloc _ (.cells #[.int .i64 y, .int .i64 m, .int .i64 d, .int .i64 h] 23)), HS0.out.2.below (below_alloc _ (.cells #[.int .i64 y, .int .i64 m, .int .i64 d, .int .i64 h] 23))⟩ : _ ∧ _)
      have BD_1 := Lib.hid (Blk.new w 23 #[.int .i64 y, .int .i64 m, .int .i64 d, .int .i64 h])
      clear HS0 
      clear hW wy wm wd wh hl hs hz hd z hok
      go_enter Tryd.func7, Tryd.ntmps7
      go_wp2_with fail
      refine (HSM.out _ HS1.out.2).mono ?_
      rintro e w2 ⟨rfl, hb⟩
      have HS2 := Lib.hid (⟨below_trans HS1.out.1 hb, HS1.out.2.below hb⟩ : _ ∧ _)
      have BD_2 := Lib.hid (BD_1.out.below hb (Nat.le_refl _))
      clear hb HS1 BD_1
      have cBD0 := BD_2.out.cell 0
      have cBD1 := BD_2.out.cell 1
      have cBD2 := BD_2.out.cell 2
      have cBD3 := BD_2.out.cell 3
      go_wp2_with fail
      clear cBD0 cBD1 cBD2 cBD3
      refine (HH.out _ HS2.out.2).mono ?_
      rintro e w3 ⟨rfl, hb⟩
      have HS3 := Lib.hid (⟨below_trans HS2.out.1 hb, HS2.out.2.below hb⟩ : _ ∧ _)
      have BD_3 := Lib.hid (BD_2.out.below hb (Nat.le_refl _))
      clear hb HS2 BD_2
      have cBD0 := BD_3.out.cell 0
      have cBD1 := BD_3.out.cell 1
      have cBD2 := BD_3.out.cell 2
      have cBD3 := BD_3.out.cell 3
      go_wp2_with fail
      clear cBD0 cBD1 cBD2 cBD3
      refine (HO.out _ HS3.out.2).mono ?_
      rintro e w4 ⟨rfl, hb⟩
      have HS4 := Lib.hid (⟨below_trans HS3.out.1 hb, HS3.out.2.below hb⟩ : _ ∧ _)
      have BD_4 := Lib.hid (BD_3.out.below hb (Nat.le_refl _))
      clear hb HS3 BD_3
      have HS5 := Lib.hid (⟨below_trans HS4.out.1 (below_alloc _ (.cells #[.int .i64 y, .int .i64 m, .int .i64 d, .int .i64 h] 23)), HS4.out.2.below (below_alloc _ (.cells #[.int .i64 y, .int .i64 m, .int .i64 d, .int .i64 h] 23))⟩ : _ ∧ _)
      have BD_5 := Lib.hid (BD_4.out.below (below_alloc w4 (.cells #[.int .i64 y, .int .i64 m, .int .i64 d, .int .i64 h] 23)) (Nat.le_refl _))
      have BE_5 := Lib.hid (Blk.new w4 23 #[.int .i64 y, .int .i64 m, .int .i64 d, .int .i64 h])
      clear HS4 BD_4
      have cBD0 := BD_5.out.cell 0
      have cBD1 := BD_5.out.cell 1
      have cBD2 := BD_5.out.cell 2
      have cBD3 := BD_5.out.cell 3
      have cBE0 := BE_5.out.cell 0
      have cBE1 := BE_5.out.cell 1
      have cBE2 := BE_5.out.cell 2
      have cBE3 := BE_5.out.cell 3
      go_wp2_with fail
      clear cBD0 cBD1 cBD2 cBD3 cBE0 cBE1 cBE2 cBE3
      refine (HP.out _ HS5.out.2).mono ?_
      rintro e w6 ⟨rfl, hb⟩
      have HS6 := Lib.hid (⟨below_trans HS5.out.1 hb, HS5.out.2.below hb⟩ : _ ∧ _)
      have BD_6 := Lib.hid (BD_5.out.below hb (Nat.le_refl _))
      have BE_6 := Lib.hid (BE_5.out.below hb (Nat.le_refl _))
      clear hb HS5 BD_5 BE_5
      have cBD0 := BD_6.out.cell 0
      have cBD1 := BD_6.out.cell 1
      have cBD2 := BD_6.out.cell 2
      have cBD3 := BD_6.out.cell 3
      have cBE0 := BE_6.out.cell 0
      have cBE1 := BE_6.out.cell 1
      have cBE2 := BE_6.out.cell 2
      have cBE3 := BE_6.out.cell 3
      go_wp2_with fail
      clear cBD0 cBD1 cBD2 cBD3 cBE0 cBE1 cBE2 cBE3
      go_ret
      exact ⟨rfl, HS6.out.1⟩
  · have hn : hourN y m d h = 0 := by unfold hourN; rw [if_neg hok]
    rw [decide_eq_false hok, hn] at HH
    rw [hn] at HO
    obtain ⟨q0, q1, q2, q3, o, hq⟩ := ofV_shape 0
    rw [hq] at HO
    unfold dv at *
    rcases hcase with ⟨rfl, t, ht, rfl, rfl⟩ | ⟨rfl, rfl⟩
    · rw [textB_nat ht, ← hs] at HT
      have HS0 := Lib.hid (show Below w.heap.size w w ∧ Wd w from ⟨below_self w, hW⟩)
      have HS1 := Lib.hid (⟨below_trans HS0.out.1 (below_alloc _ (.cells #[.int .i64 y, .int .i64 m, .int .i64 d, .int .i64 h] 23)), HS0.out.2.below (below_alloc _ (.cells #[.int .i64 y, .int .i64 m, .int .i64 d, .int .i64 h] 23))⟩ : _ ∧ _)
      have BD_1 := Lib.hid (Blk.new w 23 #[.int .i64 y, .int .i64 m, .int .i64 d, .int .i64 h])
      clear HS0 
      clear hW wy wm wd wh hl hs hz hd z hok hn hq
      go_enter Tryd.func7, Tryd.ntmps7
      go_wp2_with fail
      refine (HSM.out _ HS1.out.2).mono ?_
      rintro e w2 ⟨rfl, hb⟩
      have HS2 := Lib.hid (⟨below_trans HS1.out.1 hb, HS1.out.2.below hb⟩ : _ ∧ _)
      have BD_2 := Lib.hid (BD_1.out.below hb (Nat.le_refl _))
      clear hb HS1 BD_1
      have cBD0 := BD_2.out.cell 0
      have cBD1 := BD_2.out.cell 1
      have cBD2 := BD_2.out.cell 2
      have cBD3 := BD_2.out.cell 3
      go_wp2_with fail
      clear cBD0 cBD1 cBD2 cBD3
      refine (HH.out _ HS2.out.2).mono ?_
      rintro e w3 ⟨rfl, hb⟩
      have HS3 := Lib.hid (⟨below_trans HS2.out.1 hb, HS2.out.2.below hb⟩ : _ ∧ _)
      have BD_3 := Lib.hid (BD_2.out.below hb (Nat.le_refl _))
      clear hb HS2 BD_2
      have cBD0 := BD_3.out.cell 0
      have cBD1 := BD_3.out.cell 1
      have cBD2 := BD_3.out.cell 2
      have cBD3 := BD_3.out.cell 3
      go_wp2_with fail
      clear cBD0 cBD1 cBD2 cBD3
      refine (HO.out _ HS3.out.2).mono ?_
      rintro e w4 ⟨rfl, hb⟩
      have HS4 := Lib.hid (⟨below_trans HS3.out.1 hb, HS3.out.2.below hb⟩ : _ ∧ _)
      have BD_4 := Lib.hid (BD_3.out.below hb (Nat.le_refl _))
      clear hb HS3 BD_3
      have HS5 := Lib.hid (⟨below_trans HS4.out.1 (below_alloc _ (.cells #[.int .i64 q0, .int .i64 q1, .int .i64 q2, .int .i64 q3] 23)), HS4.out.2.below (below_alloc _ (.cells #[.int .i64 q0, .int .i64 q1, .int .i64 q2, .int .i64 q3] 23))⟩ : _ ∧ _)
      have BD_5 := Lib.hid (BD_4.out.below (below_alloc w4 (.cells #[.int .i64 q0, .int .i64 q1, .int .i64 q2, .int .i64 q3] 23)) (Nat.le_refl _))
      have BE_5 := Lib.hid (Blk.new w4 23 #[.int .i64 q0, .int .i64 q1, .int .i64 q2, .int .i64 q3])
      clear HS4 BD_4
      have cBD0 := BD_5.out.cell 0
      have cBD1 := BD_5.out.cell 1
      have cBD2 := BD_5.out.cell 2
      have cBD3 := BD_5.out.cell 3
      have cBE0 := BE_5.out.cell 0
      have cBE1 := BE_5.out.cell 1
      have cBE2 := BE_5.out.cell 2
      have cBE3 := BE_5.out.cell 3
      go_wp2_with fail
      clear cBD0 cBD1 cBD2 cBD3 cBE0 cBE1 cBE2 cBE3
      refine (HP.out _ HS5.out.2).mono ?_
      rintro e w6 ⟨rfl, hb⟩
      have HS6 := Lib.hid (⟨below_trans HS5.out.1 hb, HS5.out.2.below hb⟩ : _ ∧ _)
      have BD_6 := Lib.hid (BD_5.out.below hb (Nat.le_refl _))
      have BE_6 := Lib.hid (BE_5.out.below hb (Nat.le_refl _))
      clear hb HS5 BD_5 BE_5
      have cBD0 := BD_6.out.cell 0
      have cBD1 := BD_6.out.cell 1
      have cBD2 := BD_6.out.cell 2
      have cBD3 := BD_6.out.cell 3
      have cBE0 := BE_6.out.cell 0
      have cBE1 := BE_6.out.cell 1
      have cBE2 := BE_6.out.cell 2
      have cBE3 := BE_6.out.cell 3
      go_wp2_with fail
      clear cBD0 cBD1 cBD2 cBD3 cBE0 cBE1 cBE2 cBE3
      refine (HT.out _ HS6.out.2).mono ?_
      rintro e w7 ⟨rfl, hb⟩
      have HS7 := Lib.hid (⟨below_trans HS6.out.1 hb, HS6.out.2.below hb⟩ : _ ∧ _)
      have BD_7 := Lib.hid (BD_6.out.below hb (Nat.le_refl _))
      have BE_7 := Lib.hid (BE_6.out.below hb (Nat.le_refl _))
      clear hb HS6 BD_6 BE_6
      have cBD0 := BD_7.out.cell 0
      have cBD1 := BD_7.out.cell 1
      have cBD2 := BD_7.out.cell 2
      have cBD3 := BD_7.out.cell 3
      have cBE0 := BE_7.out.cell 0
      have cBE1 := BE_7.out.cell 1
      have cBE2 := BE_7.out.cell 2
      have cBE3 := BE_7.out.cell 3
      go_wp2_with fail
      clear cBD0 cBD1 cBD2 cBD3 cBE0 cBE1 cBE2 cBE3
      go_ret
      exact ⟨rfl, HS7.out.1⟩
    · clear HT
      have HS0 := Lib.hid (show Below w.heap.size w w ∧ Wd w from ⟨below_self w, hW⟩)
      have HS1 := Lib.hid (⟨below_trans HS0.out.1 (below_alloc _ (.cells #[.int .i64 y, .int .i64 m, .int .i64 d, .int .i64 h] 23)), HS0.out.2.below (below_alloc _ (.cells #[.int .i64 y, .int .i64 m, .int .i64 d, .int .i64 h] 23))⟩ : _ ∧ _)
      have BD_1 := Lib.hid (Blk.new w 23 #[.int .i64 y, .int .i64 m, .int .i64 d, .int .i64 h])
      clear HS0 
      clear hW wy wm wd wh hl hs hz hd z hok hn hq
      go_enter Tryd.func7, Tryd.ntmps7
      go_wp2_with fail
      refine (HSM.out _ HS1.out.2).mono ?_
      rintro e w2 ⟨rfl, hb⟩
      have HS2 := Lib.hid (⟨below_trans HS1.out.1 hb, HS1.out.2.below hb⟩ : _ ∧ _)
      have BD_2 := Lib.hid (BD_1.out.below hb (Nat.le_refl _))
      clear hb HS1 BD_1
      have cBD0 := BD_2.out.cell 0
      have cBD1 := BD_2.out.cell 1
      have cBD2 := BD_2.out.cell 2
      have cBD3 := BD_2.out.cell 3
      go_wp2_with fail
      clear cBD0 cBD1 cBD2 cBD3
      refine (HH.out _ HS2.out.2).mono ?_
      rintro e w3 ⟨rfl, hb⟩
      have HS3 := Lib.hid (⟨below_trans HS2.out.1 hb, HS2.out.2.below hb⟩ : _ ∧ _)
      have BD_3 := Lib.hid (BD_2.out.below hb (Nat.le_refl _))
      clear hb HS2 BD_2
      have cBD0 := BD_3.out.cell 0
      have cBD1 := BD_3.out.cell 1
      have cBD2 := BD_3.out.cell 2
      have cBD3 := BD_3.out.cell 3
      go_wp2_with fail
      clear cBD0 cBD1 cBD2 cBD3
      refine (HO.out _ HS3.out.2).mono ?_
      rintro e w4 ⟨rfl, hb⟩
      have HS4 := Lib.hid (⟨below_trans HS3.out.1 hb, HS3.out.2.below hb⟩ : _ ∧ _)
      have BD_4 := Lib.hid (BD_3.out.below hb (Nat.le_refl _))
      clear hb HS3 BD_3
      have HS5 := Lib.hid (⟨below_trans HS4.out.1 (below_alloc _ (.cells #[.int .i64 q0, .int .i64 q1, .int .i64 q2, .int .i64 q3] 23)), HS4.out.2.below (below_alloc _ (.cells #[.int .i64 q0, .int .i64 q1, .int .i64 q2, .int .i64 q3] 23))⟩ : _ ∧ _)
      have BD_5 := Lib.hid (BD_4.out.below (below_alloc w4 (.cells #[.int .i64 q0, .int .i64 q1, .int .i64 q2, .int .i64 q3] 23)) (Nat.le_refl _))
      have BE_5 := Lib.hid (Blk.new w4 23 #[.int .i64 q0, .int .i64 q1, .int .i64 q2, .int .i64 q3])
      clear HS4 BD_4
      have cBD0 := BD_5.out.cell 0
      have cBD1 := BD_5.out.cell 1
      have cBD2 := BD_5.out.cell 2
      have cBD3 := BD_5.out.cell 3
      have cBE0 := BE_5.out.cell 0
      have cBE1 := BE_5.out.cell 1
      have cBE2 := BE_5.out.cell 2
      have cBE3 := BE_5.out.cell 3
      go_wp2_with fail
      clear cBD0 cBD1 cBD2 cBD3 cBE0 cBE1 cBE2 cBE3
      refine (HP.out _ HS5.out.2).mono ?_
      rintro e w6 ⟨rfl, hb⟩
      have HS6 := Lib.hid (⟨below_trans HS5.out.1 hb, HS5.out.2.below hb⟩ : _ ∧ _)
      have BD_6 := Lib.hid (BD_5.out.below hb (Nat.le_refl _))
      have BE_6 := Lib.hid (BE_5.out.below hb (Nat.le_refl _))
      clear hb HS5 BD_5 BE_5
      have cBD0 := BD_6.out.cell 0
      have cBD1 := BD_6.out.cell 1
      have cBD2 := BD_6.out.cell 2
      have cBD3 := BD_6.out.cell 3
      have cBE0 := BE_6.out.cell 0
      have cBE1 := BE_6.out.cell 1
      have cBE2 := BE_6.out.cell 2
      have cBE3 := BE_6.out.cell 3
      go_wp2_with fail
      clear cBD0 cBD1 cBD2 cBD3 cBE0 cBE1 cBE2 cBE3
      go_ret
      exact ⟨rfl, HS6.out.1⟩
set_option maxRecDepth 100000 in
theorem lifted (os : Os) (started : os.Started) (H : Type) (enc : TypeId × Value → H) :
    ReturnsInHanded {} Tryd.checked os 7 .any (fun w args => (Rows.dateOnlySpec.pre enc Tryd.prog Tryd.f7 Rows.dateOnlyRow.domain false w args ∧ laidMetH Tryd.prog Rows.dateOnlyRow.laid w) ∧ sizedMet enc Tryd.prog Tryd.f7 (OpenSpec.ofChange Rows.dateOnlySpec) false w args)
      (Rows.dateOnlySpec.post enc Tryd.prog Tryd.f7 false true false false) := by
  refine returns_both (C := Tryd.checked) (X := fun w _ => laidMetH Tryd.prog Rows.dateOnlyRow.laid w) (fun _ _ _ hh h => h.of_heap hh.symm) own started (by kernel_rfl) Tryd.func7
    (ChangeSpec.witness_shaped (enc := enc) (C := Tryd.checked) (os := os) (X := fun w _ => laidMetH Tryd.prog Rows.dateOnlyRow.laid w) false (World.laidAll Tryd.prog os Rows.dateOnlyRow.laid) #[.agg #[.int .i64 0, .int .i64 0, .int .i64 0, .int .i64 0], .string ⟨#[]⟩] 8 (World.laidAll_os _ _ _)
      (World.shaped_of_ZipB (by kernel_rfl) (by kernel_rfl)) (by kernel_rfl) (by kernel_rfl) (by kernel_rfl)
      (by rw [MakeChecks.laidMetH_plain _ _ _ (by kernel_rfl)]; exact laidMet_laidAll _ (by kernel_rfl) (by kernel_rfl))) ?_
  intro W base args ds gs before hval0 hW hsh hX hsz0
  have hsz : (DataW.weightsEach Tryd.prog (Tryd.f7.params.toList ++ Rows.dateOnlySpec.plain.varTypes Tryd.prog) (ds ++ gs)).all (· ≤ reachBytes) = true := hsz0
  clear hsz0
  have hWd : Wd W := wd_of_laid hX
  have hval : ∀ (j : Nat) t v, Tryd.f7.params[j]? = some t → args[j]? = some v → Value.okWide Tryd.prog W .any base t v := hval0
  have hW' := hW
  obtain ⟨p, q, hA0, hV, rfl, hfz, hnd⟩ := hW
  have hA : DataW.TrodAll enc Tryd.prog W 0 (fun _ => true) true Tryd.f7.params.toList args.toList ds p := hA0
  rw [Tryd.params7] at hA hval hsz
  obtain ⟨v0, vs0, d0, ds0, p0, q0, hargs, rfl, rfl, h0, r0⟩ := trodAll_cons hA
  obtain ⟨v1, vs1, d1, ds1, p1, q1, rfl, rfl, rfl, h1, r1⟩ := trodAll_cons r0
  obtain ⟨rfl, rfl, rfl⟩ := trodAll_nil r1
  obtain rfl : args = #[v0, v1] := by cases args; simp_all
  obtain ⟨rfl, rfl⟩ := trodVars_none hV
  obtain ⟨y0, m0, k0, x0, rfl, wy0, wm0, wk0, wx0, rfl, t0⟩ := open_date (hval 0 23 v0 rfl rfl) h0
  obtain ⟨s1, rfl, rfl, rfl, ws1⟩ := Go.ChangeMaps.open_string Tryd.underlying9 (hval 1 9 v1 rfl rfl) h1
  have z1 : s1.size ≤ 140737488355328 := by rw [Lib.size_eq]; exact reach_le (sized_string hsz (j := 1) (t := 9) rfl rfl)
  clear hA0 hval0
  simp only [List.append_nil] at hW'
  refine (walk y0 m0 k0 x0 wy0 wm0 wk0 wx0 s1 z1 W hWd).mono fun e W' ⟨he, hb⟩ => ?_
  subst he
  exact ⟨_, rfl, _, _, _, [], _, [], hW', (trodAll_cons_mk (shut_bool Tryd.underlying4 _) trodAll_mk0), (trodAll_cons_mk (t0 _ _ _ _) (trodAll_cons_mk (Go.ChangeMaps.shut_string Tryd.underlying9 ws1) trodAll_mk0)), rfl, hb.frame _, fun h => by cases h⟩

theorem over : Rows.DateOnlySaid :=
  OpenClaim.holds_of_wide 7 Tryd.f7 rfl rfl rfl rfl rfl rfl rfl ⟨rfl, rfl, rfl, rfl, rfl⟩ rfl rfl rfl rfl rfl (by kernel_rfl) Tryd.func7 (by kernel_rfl)
    (of_decide_eq_true (by kernel_rfl)) (by unfold Func.isWrapper; first | (rw [if_pos (by decide +kernel)]; kernel_rfl) | (rw [if_neg (by decide +kernel)]; exact ⟨rfl, rfl⟩))
    (fun os started H enc _ => lifted os started H enc)
theorem proved : Rows.DateOnlyCardSaid :=
  Claim7.holds_tied_plain_at .later [] [.data, .data, .data, .sentinel, .sentinel, .data] true Rows.dateOnlyCard.stood.harness true over (fun _ h => by cases h) (by kernel_rfl) (fun _ h => by cases h) dateOnly_row_tie rfl ⟨rfl, rfl⟩ (by kernel_rfl) rfl
    (fun f fn hf hfn => by
      obtain rfl : f = 7 := Option.some.inj ((show Tryd.prog.funcNamed "bourne/bournelaw08.DateOnly" = some 7 by kernel_rfl).symm.trans hf) |>.symm
      obtain rfl : fn = Tryd.f7 := (Option.some.inj (Tryd.func7.symm.trans hfn)).symm
      exact ⟨by kernel_rfl, fun j t ht => by
        rw [Tryd.params7] at ht
        have hm : t ∈ [23, 9] := by simpa using Array.mem_of_getElem? ht
        have hall : ([23, 9].all fun u => !Tryd.prog.wantsStandIn u) = true := by kernel_rfl
        exact (show Tryd.prog.wantsStandIn t = false by simpa using List.all_eq_true.1 hall t hm)⟩)
    (by kernel_rfl)
end Go.Proofs.YtanjkjendppigaaDoor.dateOnly
