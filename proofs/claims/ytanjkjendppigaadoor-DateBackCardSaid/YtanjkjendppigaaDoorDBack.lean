/- The statement DateBack: Hour inverts Of and Parse inverts Text; the next hour has the next date. Conditions: those of its row. -/
import Derived.Test.YtanjkjendppigaaDoorDDet
namespace Go.Proofs.YtanjkjendppigaaDoor.dateBack
open Go.ChangeShapes Go.WideShapes Go.ChangeAt Go.RowKit Go.Joins Cal Dy
set_option linter.unusedVariables false
set_option maxRecDepth 100000

set_option maxHeartbeats 4000000 in
theorem main (t : Nat) (ht : t < 16777216) (w : World) (hW : Wd w) : Calls Tryd.prog 5 #[.int .i64 (t : Int)] w (IsTrue w) := by
  have HSM := Lib.hid (fun W hW => small_any W hW)
  have HO := Lib.hid (fun W hW => of_good t (by omega) W hW)
  have HO1 := Lib.hid (fun W hW => of_good (t + 1) (by omega) W hW)
  have HH := Lib.hid (fun W hW => hour_any (dateOf t).y (dateOf t).m (dateOf t).d (dateOf t).h W hW)
  rw [hourV_date (by omega)] at HH
  have HT := Lib.hid (fun W hW => text_any (t : Int) W hW)
  have HT1 := Lib.hid (fun W hW => text_any ((t + 1 : Nat) : Int) W hW)
  rw [textB_nat (by omega)] at HT HT1
  obtain ⟨n, b, hd, hcase⟩ := parse_det (text t)
  have hnb : n = (t : Int) ∧ b = true := by
    have h1 := hd _ (Or.inl ⟨t, by omega, rfl, rfl⟩)
    injection h1 with h1
    simp at h1
    exact ⟨h1.1.symm, h1.2⟩
  obtain ⟨rfl, rfl⟩ := hnb
  have hlen : (text t).length ≤ 140737488355328 := by rw [show (text t).length = 14 from txt_length _]; decide
  have HP := Lib.hid (fun W hW => parse_at hd hlen W hW)
  have hless := text_less (Nat.lt_succ_self t) (by omega)
  rw [← sv_toList (text t), ← sv_toList (text (t + 1))] at hless
  have hx1 : wrap64 ((t : Int) + 1) = ((t + 1 : Nat) : Int) := by unfold wrap64; omega
  have hx0 : decide ((t : Int) < 0) = false := decide_eq_false (by omega)
  have hx2 : decide (16777216 ≤ (t : Int)) = false := decide_eq_false (by omega)
  have hok := dateOf_ok t
  have hyr := dateOf_year (t := t) (by omega)
  have hl31 := len_le (dateOf t).y (dateOf t).m
  have nsame := @next_same t
  have nday := @next_day t
  unfold dtv at HO HO1
  obtain ⟨⟨y, m, d, h⟩, hD⟩ : ∃ q, dateOf t = q := ⟨_, rfl⟩
  obtain ⟨⟨y', m', d', h'⟩, hE⟩ : ∃ q, dateOf (t + 1) = q := ⟨_, rfl⟩
  rw [hD] at HO HH hok hyr hl31 nsame nday
  rw [hE] at HO1 nsame nday
  simp only at HO HO1 HH hok hyr hl31 nsame nday
  generalize sv (text t) = T at *
  generalize sv (text (t + 1)) = U at *
  generalize ((t + 1 : Nat) : Int) = x1 at *
  generalize ((t : Nat) : Int) = x at *
  obtain ⟨o1, o2, o3, o4, o5, o6⟩ := hok
  clear hD hE hd hcase hlen ht
  unfold dv at *
  by_cases hh : h < 23
  · have e := nsame hh
    injection e with e1 e2 e3 e4
    rw [e1, e2, e3, e4] at HO1
    clear e1 e2 e3 e4
    have dh : decide ((h : Int) < 23) = true := decide_eq_true (by omega)
    have hw : wrap64 ((h : Int) + 1) = ((h + 1 : Nat) : Int) := by unfold wrap64; omega
    have HS0 := Lib.hid (show Below w.heap.size w w ∧ Wd w from ⟨below_self w, hW⟩)
    clear hW nsame nday o1 o2 o3 o4 o5 o6 hyr hl31 hh
    generalize ((h + 1 : Nat) : Int) = h1 at *
    generalize ((y : Nat) : Int) = y at *
    generalize ((m : Nat) : Int) = m at *
    generalize ((d : Nat) : Int) = d at *
    generalize ((h : Nat) : Int) = h at *
    go_enter Tryd.func5, Tryd.ntmps5
    go_wp2_with fail
    refine (HSM.out _ HS0.out.2).mono ?_
    rintro e w1 ⟨rfl, hb⟩
    have HS1 := Lib.hid (⟨below_trans HS0.out.1 hb, HS0.out.2.below hb⟩ : _ ∧ _)
    clear hb HS0 
    go_wp2_with fail
    refine (HO.out _ HS1.out.2).mono ?_
    rintro e w2 ⟨rfl, hb⟩
    have HS2 := Lib.hid (⟨below_trans HS1.out.1 hb, HS1.out.2.below hb⟩ : _ ∧ _)
    clear hb HS1 
    have HS3 := Lib.hid (⟨below_trans HS2.out.1 (below_alloc _ (.cells #[.int .i64 y, .int .i64 m, .int .i64 d, .int .i64 h] 23)), HS2.out.2.below (below_alloc _ (.cells #[.int .i64 y, .int .i64 m, .int .i64 d, .int .i64 h] 23))⟩ : _ ∧ _)
    have BA_3 := Lib.hid (Blk.new w2 23 #[.int .i64 y, .int .i64 m, .int .i64 d, .int .i64 h])
    clear HS2 
    have cBA0 := BA_3.out.cell 0
    have cBA1 := BA_3.out.cell 1
    have cBA2 := BA_3.out.cell 2
    have cBA3 := BA_3.out.cell 3
    go_wp2_with fail
    clear cBA0 cBA1 cBA2 cBA3
    refine (HO1.out _ HS3.out.2).mono ?_
    rintro e w4 ⟨rfl, hb⟩
    have HS4 := Lib.hid (⟨below_trans HS3.out.1 hb, HS3.out.2.below hb⟩ : _ ∧ _)
    have BA_4 := Lib.hid (BA_3.out.below hb (Nat.le_refl _))
    clear hb HS3 BA_3
    have HS5 := Lib.hid (⟨below_trans HS4.out.1 (below_alloc _ (.cells #[.int .i64 y, .int .i64 m, .int .i64 d, .int .i64 h1] 23)), HS4.out.2.below (below_alloc _ (.cells #[.int .i64 y, .int .i64 m, .int .i64 d, .int .i64 h1] 23))⟩ : _ ∧ _)
    have BA_5 := Lib.hid (BA_4.out.below (below_alloc w4 (.cells #[.int .i64 y, .int .i64 m, .int .i64 d, .int .i64 h1] 23)) (Nat.le_refl _))
    have BB_5 := Lib.hid (Blk.new w4 23 #[.int .i64 y, .int .i64 m, .int .i64 d, .int .i64 h1])
    clear HS4 BA_4
    have cBA0 := BA_5.out.cell 0
    have cBA1 := BA_5.out.cell 1
    have cBA2 := BA_5.out.cell 2
    have cBA3 := BA_5.out.cell 3
    have cBB0 := BB_5.out.cell 0
    have cBB1 := BB_5.out.cell 1
    have cBB2 := BB_5.out.cell 2
    have cBB3 := BB_5.out.cell 3
    go_wp2_with fail
    clear cBA0 cBA1 cBA2 cBA3 cBB0 cBB1 cBB2 cBB3
    refine (HH.out _ HS5.out.2).mono ?_
    rintro e w6 ⟨rfl, hb⟩
    have HS6 := Lib.hid (⟨below_trans HS5.out.1 hb, HS5.out.2.below hb⟩ : _ ∧ _)
    have BA_6 := Lib.hid (BA_5.out.below hb (Nat.le_refl _))
    have BB_6 := Lib.hid (BB_5.out.below hb (Nat.le_refl _))
    clear hb HS5 BA_5 BB_5
    have cBA0 := BA_6.out.cell 0
    have cBA1 := BA_6.out.cell 1
    have cBA2 := BA_6.out.cell 2
    have cBA3 := BA_6.out.cell 3
    have cBB0 := BB_6.out.cell 0
    have cBB1 := BB_6.out.cell 1
    have cBB2 := BB_6.out.cell 2
    have cBB3 := BB_6.out.cell 3
    go_wp2_with fail
    clear cBA0 cBA1 cBA2 cBA3 cBB0 cBB1 cBB2 cBB3
    refine (HT.out _ HS6.out.2).mono ?_
    rintro e w7 ⟨rfl, hb⟩
    have HS7 := Lib.hid (⟨below_trans HS6.out.1 hb, HS6.out.2.below hb⟩ : _ ∧ _)
    have BA_7 := Lib.hid (BA_6.out.below hb (Nat.le_refl _))
    have BB_7 := Lib.hid (BB_6.out.below hb (Nat.le_refl _))
    clear hb HS6 BA_6 BB_6
    have cBA0 := BA_7.out.cell 0
    have cBA1 := BA_7.out.cell 1
    have cBA2 := BA_7.out.cell 2
    have cBA3 := BA_7.out.cell 3
    have cBB0 := BB_7.out.cell 0
    have cBB1 := BB_7.out.cell 1
    have cBB2 := BB_7.out.cell 2
    have cBB3 := BB_7.out.cell 3
    go_wp2_with fail
    clear cBA0 cBA1 cBA2 cBA3 cBB0 cBB1 cBB2 cBB3
    refine (HP.out _ HS7.out.2).mono ?_
    rintro e w8 ⟨rfl, hb⟩
    have HS8 := Lib.hid (⟨below_trans HS7.out.1 hb, HS7.out.2.below hb⟩ : _ ∧ _)
    have BA_8 := Lib.hid (BA_7.out.below hb (Nat.le_refl _))
    have BB_8 := Lib.hid (BB_7.out.below hb (Nat.le_refl _))
    clear hb HS7 BA_7 BB_7
    have cBA0 := BA_8.out.cell 0
    have cBA1 := BA_8.out.cell 1
    have cBA2 := BA_8.out.cell 2
    have cBA3 := BA_8.out.cell 3
    have cBB0 := BB_8.out.cell 0
    have cBB1 := BB_8.out.cell 1
    have cBB2 := BB_8.out.cell 2
    have cBB3 := BB_8.out.cell 3
    go_wp2_with fail
    clear cBA0 cBA1 cBA2 cBA3 cBB0 cBB1 cBB2 cBB3
    refine (HT.out _ HS8.out.2).mono ?_
    rintro e w9 ⟨rfl, hb⟩
    have HS9 := Lib.hid (⟨below_trans HS8.out.1 hb, HS8.out.2.below hb⟩ : _ ∧ _)
    have BA_9 := Lib.hid (BA_8.out.below hb (Nat.le_refl _))
    have BB_9 := Lib.hid (BB_8.out.below hb (Nat.le_refl _))
    clear hb HS8 BA_8 BB_8
    have cBA0 := BA_9.out.cell 0
    have cBA1 := BA_9.out.cell 1
    have cBA2 := BA_9.out.cell 2
    have cBA3 := BA_9.out.cell 3
    have cBB0 := BB_9.out.cell 0
    have cBB1 := BB_9.out.cell 1
    have cBB2 := BB_9.out.cell 2
    have cBB3 := BB_9.out.cell 3
    go_wp2_with fail
    clear cBA0 cBA1 cBA2 cBA3 cBB0 cBB1 cBB2 cBB3
    refine (HT1.out _ HS9.out.2).mono ?_
    rintro e w10 ⟨rfl, hb⟩
    have HS10 := Lib.hid (⟨below_trans HS9.out.1 hb, HS9.out.2.below hb⟩ : _ ∧ _)
    have BA_10 := Lib.hid (BA_9.out.below hb (Nat.le_refl _))
    have BB_10 := Lib.hid (BB_9.out.below hb (Nat.le_refl _))
    clear hb HS9 BA_9 BB_9
    have cBA0 := BA_10.out.cell 0
    have cBA1 := BA_10.out.cell 1
    have cBA2 := BA_10.out.cell 2
    have cBA3 := BA_10.out.cell 3
    have cBB0 := BB_10.out.cell 0
    have cBB1 := BB_10.out.cell 1
    have cBB2 := BB_10.out.cell 2
    have cBB3 := BB_10.out.cell 3
    go_wp2_with fail
    clear cBA0 cBA1 cBA2 cBA3 cBB0 cBB1 cBB2 cBB3
    go_ret
    exact ⟨rfl, HS10.out.1⟩
  · have dh : decide ((h : Int) < 23) = false := decide_eq_false (by omega)
    obtain ⟨_, hc⟩ := nday hh
    rcases hc with ⟨g1, e⟩ | ⟨g1, g2, g3, e⟩ | ⟨g1, g2, g3, g4, e⟩
    · injection e with e1 e2 e3 e4
      rw [e1, e2, e3, e4] at HO1
      clear e1 e2 e3 e4
      have dd : decide (1 < ((d + 1 : Nat) : Int)) = true := decide_eq_true (by omega)
      have hw : wrap64 ((d : Int) + 1) = ((d + 1 : Nat) : Int) := by unfold wrap64; omega
      have HS0 := Lib.hid (show Below w.heap.size w w ∧ Wd w from ⟨below_self w, hW⟩)
      clear hW nsame nday o1 o2 o3 o4 o5 o6 hyr hl31 hh g1
      generalize ((d + 1 : Nat) : Int) = d1 at *
      generalize ((y : Nat) : Int) = y at *
      generalize ((m : Nat) : Int) = m at *
      generalize ((d : Nat) : Int) = d at *
      generalize ((h : Nat) : Int) = h at *
      go_enter Tryd.func5, Tryd.ntmps5
      go_wp2_with fail
      refine (HSM.out _ HS0.out.2).mono ?_
      rintro e w1 ⟨rfl, hb⟩
      have HS1 := Lib.hid (⟨below_trans HS0.out.1 hb, HS0.out.2.below hb⟩ : _ ∧ _)
      clear hb HS0 
      go_wp2_with fail
      refine (HO.out _ HS1.out.2).mono ?_
      rintro e w2 ⟨rfl, hb⟩
      have HS2 := Lib.hid (⟨below_trans HS1.out.1 hb, HS1.out.2.below hb⟩ : _ ∧ _)
      clear hb HS1 
      have HS3 := Lib.hid (⟨below_trans HS2.out.1 (below_alloc _ (.cells #[.int .i64 y, .int .i64 m, .int .i64 d, .int .i64 h] 23)), HS2.out.2.below (below_alloc _ (.cells #[.int .i64 y, .int .i64 m, .int .i64 d, .int .i64 h] 23))⟩ : _ ∧ _)
      have BA_3 := Lib.hid (Blk.new w2 23 #[.int .i64 y, .int .i64 m, .int .i64 d, .int .i64 h])
      clear HS2 
      have cBA0 := BA_3.out.cell 0
      have cBA1 := BA_3.out.cell 1
      have cBA2 := BA_3.out.cell 2
      have cBA3 := BA_3.out.cell 3
      go_wp2_with fail
      clear cBA0 cBA1 cBA2 cBA3
      refine (HO1.out _ HS3.out.2).mono ?_
      rintro e w4 ⟨rfl, hb⟩
      have HS4 := Lib.hid (⟨below_trans HS3.out.1 hb, HS3.out.2.below hb⟩ : _ ∧ _)
      have BA_4 := Lib.hid (BA_3.out.below hb (Nat.le_refl _))
      clear hb HS3 BA_3
      have HS5 := Lib.hid (⟨below_trans HS4.out.1 (below_alloc _ (.cells #[.int .i64 y, .int .i64 m, .int .i64 d1, .int .i64 0] 23)), HS4.out.2.below (below_alloc _ (.cells #[.int .i64 y, .int .i64 m, .int .i64 d1, .int .i64 0] 23))⟩ : _ ∧ _)
      have BA_5 := Lib.hid (BA_4.out.below (below_alloc w4 (.cells #[.int .i64 y, .int .i64 m, .int .i64 d1, .int .i64 0] 23)) (Nat.le_refl _))
      have BB_5 := Lib.hid (Blk.new w4 23 #[.int .i64 y, .int .i64 m, .int .i64 d1, .int .i64 0])
      clear HS4 BA_4
      have cBA0 := BA_5.out.cell 0
      have cBA1 := BA_5.out.cell 1
      have cBA2 := BA_5.out.cell 2
      have cBA3 := BA_5.out.cell 3
      have cBB0 := BB_5.out.cell 0
      have cBB1 := BB_5.out.cell 1
      have cBB2 := BB_5.out.cell 2
      have cBB3 := BB_5.out.cell 3
      go_wp2_with fail
      clear cBA0 cBA1 cBA2 cBA3 cBB0 cBB1 cBB2 cBB3
      refine (HH.out _ HS5.out.2).mono ?_
      rintro e w6 ⟨rfl, hb⟩
      have HS6 := Lib.hid (⟨below_trans HS5.out.1 hb, HS5.out.2.below hb⟩ : _ ∧ _)
      have BA_6 := Lib.hid (BA_5.out.below hb (Nat.le_refl _))
      have BB_6 := Lib.hid (BB_5.out.below hb (Nat.le_refl _))
      clear hb HS5 BA_5 BB_5
      have cBA0 := BA_6.out.cell 0
      have cBA1 := BA_6.out.cell 1
      have cBA2 := BA_6.out.cell 2
      have cBA3 := BA_6.out.cell 3
      have cBB0 := BB_6.out.cell 0
      have cBB1 := BB_6.out.cell 1
      have cBB2 := BB_6.out.cell 2
      have cBB3 := BB_6.out.cell 3
      go_wp2_with fail
      clear cBA0 cBA1 cBA2 cBA3 cBB0 cBB1 cBB2 cBB3
      refine (HT.out _ HS6.out.2).mono ?_
      rintro e w7 ⟨rfl, hb⟩
      have HS7 := Lib.hid (⟨below_trans HS6.out.1 hb, HS6.out.2.below hb⟩ : _ ∧ _)
      have BA_7 := Lib.hid (BA_6.out.below hb (Nat.le_refl _))
      have BB_7 := Lib.hid (BB_6.out.below hb (Nat.le_refl _))
      clear hb HS6 BA_6 BB_6
      have cBA0 := BA_7.out.cell 0
      have cBA1 := BA_7.out.cell 1
      have cBA2 := BA_7.out.cell 2
      have cBA3 := BA_7.out.cell 3
      have cBB0 := BB_7.out.cell 0
      have cBB1 := BB_7.out.cell 1
      have cBB2 := BB_7.out.cell 2
      have cBB3 := BB_7.out.cell 3
      go_wp2_with fail
      clear cBA0 cBA1 cBA2 cBA3 cBB0 cBB1 cBB2 cBB3
      refine (HP.out _ HS7.out.2).mono ?_
      rintro e w8 ⟨rfl, hb⟩
      have HS8 := Lib.hid (⟨below_trans HS7.out.1 hb, HS7.out.2.below hb⟩ : _ ∧ _)
      have BA_8 := Lib.hid (BA_7.out.below hb (Nat.le_refl _))
      have BB_8 := Lib.hid (BB_7.out.below hb (Nat.le_refl _))
      clear hb HS7 BA_7 BB_7
      have cBA0 := BA_8.out.cell 0
      have cBA1 := BA_8.out.cell 1
      have cBA2 := BA_8.out.cell 2
      have cBA3 := BA_8.out.cell 3
      have cBB0 := BB_8.out.cell 0
      have cBB1 := BB_8.out.cell 1
      have cBB2 := BB_8.out.cell 2
      have cBB3 := BB_8.out.cell 3
      go_wp2_with fail
      clear cBA0 cBA1 cBA2 cBA3 cBB0 cBB1 cBB2 cBB3
      refine (HT.out _ HS8.out.2).mono ?_
      rintro e w9 ⟨rfl, hb⟩
      have HS9 := Lib.hid (⟨below_trans HS8.out.1 hb, HS8.out.2.below hb⟩ : _ ∧ _)
      have BA_9 := Lib.hid (BA_8.out.below hb (Nat.le_refl _))
      have BB_9 := Lib.hid (BB_8.out.below hb (Nat.le_refl _))
      clear hb HS8 BA_8 BB_8
      have cBA0 := BA_9.out.cell 0
      have cBA1 := BA_9.out.cell 1
      have cBA2 := BA_9.out.cell 2
      have cBA3 := BA_9.out.cell 3
      have cBB0 := BB_9.out.cell 0
      have cBB1 := BB_9.out.cell 1
      have cBB2 := BB_9.out.cell 2
      have cBB3 := BB_9.out.cell 3
      go_wp2_with fail
      clear cBA0 cBA1 cBA2 cBA3 cBB0 cBB1 cBB2 cBB3
      refine (HT1.out _ HS9.out.2).mono ?_
      rintro e w10 ⟨rfl, hb⟩
      have HS10 := Lib.hid (⟨below_trans HS9.out.1 hb, HS9.out.2.below hb⟩ : _ ∧ _)
      have BA_10 := Lib.hid (BA_9.out.below hb (Nat.le_refl _))
      have BB_10 := Lib.hid (BB_9.out.below hb (Nat.le_refl _))
      clear hb HS9 BA_9 BB_9
      have cBA0 := BA_10.out.cell 0
      have cBA1 := BA_10.out.cell 1
      have cBA2 := BA_10.out.cell 2
      have cBA3 := BA_10.out.cell 3
      have cBB0 := BB_10.out.cell 0
      have cBB1 := BB_10.out.cell 1
      have cBB2 := BB_10.out.cell 2
      have cBB3 := BB_10.out.cell 3
      go_wp2_with fail
      clear cBA0 cBA1 cBA2 cBA3 cBB0 cBB1 cBB2 cBB3
      go_ret
      exact ⟨rfl, HS10.out.1⟩
    · injection e with e1 e2 e3 e4
      rw [e1, e2, e3, e4] at HO1
      clear e1 e2 e3 e4
      have dd : decide (1 < ((m + 1 : Nat) : Int)) = true := decide_eq_true (by omega)
      have d28 : decide (28 ≤ (d : Int)) = true := decide_eq_true (by omega)
      have hw : wrap64 ((m : Int) + 1) = ((m + 1 : Nat) : Int) := by unfold wrap64; omega
      have HS0 := Lib.hid (show Below w.heap.size w w ∧ Wd w from ⟨below_self w, hW⟩)
      clear hW nsame nday o1 o2 o3 o4 o5 o6 hyr hl31 hh g1 g2 g3
      generalize ((m + 1 : Nat) : Int) = m1 at *
      generalize ((y : Nat) : Int) = y at *
      generalize ((m : Nat) : Int) = m at *
      generalize ((d : Nat) : Int) = d at *
      generalize ((h : Nat) : Int) = h at *
      go_enter Tryd.func5, Tryd.ntmps5
      go_wp2_with fail
      refine (HSM.out _ HS0.out.2).mono ?_
      rintro e w1 ⟨rfl, hb⟩
      have HS1 := Lib.hid (⟨below_trans HS0.out.1 hb, HS0.out.2.below hb⟩ : _ ∧ _)
      clear hb HS0 
      go_wp2_with fail
      refine (HO.out _ HS1.out.2).mono ?_
      rintro e w2 ⟨rfl, hb⟩
      have HS2 := Lib.hid (⟨below_trans HS1.out.1 hb, HS1.out.2.below hb⟩ : _ ∧ _)
      clear hb HS1 
      have HS3 := Lib.hid (⟨below_trans HS2.out.1 (below_alloc _ (.cells #[.int .i64 y, .int .i64 m, .int .i64 d, .int .i64 h] 23)), HS2.out.2.below (below_alloc _ (.cells #[.int .i64 y, .int .i64 m, .int .i64 d, .int .i64 h] 23))⟩ : _ ∧ _)
      have BA_3 := Lib.hid (Blk.new w2 23 #[.int .i64 y, .int .i64 m, .int .i64 d, .int .i64 h])
      clear HS2 
      have cBA0 := BA_3.out.cell 0
      have cBA1 := BA_3.out.cell 1
      have cBA2 := BA_3.out.cell 2
      have cBA3 := BA_3.out.cell 3
      go_wp2_with fail
      clear cBA0 cBA1 cBA2 cBA3
      refine (HO1.out _ HS3.out.2).mono ?_
      rintro e w4 ⟨rfl, hb⟩
      have HS4 := Lib.hid (⟨below_trans HS3.out.1 hb, HS3.out.2.below hb⟩ : _ ∧ _)
      have BA_4 := Lib.hid (BA_3.out.below hb (Nat.le_refl _))
      clear hb HS3 BA_3
      have HS5 := Lib.hid (⟨below_trans HS4.out.1 (below_alloc _ (.cells #[.int .i64 y, .int .i64 m1, .int .i64 1, .int .i64 0] 23)), HS4.out.2.below (below_alloc _ (.cells #[.int .i64 y, .int .i64 m1, .int .i64 1, .int .i64 0] 23))⟩ : _ ∧ _)
      have BA_5 := Lib.hid (BA_4.out.below (below_alloc w4 (.cells #[.int .i64 y, .int .i64 m1, .int .i64 1, .int .i64 0] 23)) (Nat.le_refl _))
      have BB_5 := Lib.hid (Blk.new w4 23 #[.int .i64 y, .int .i64 m1, .int .i64 1, .int .i64 0])
      clear HS4 BA_4
      have cBA0 := BA_5.out.cell 0
      have cBA1 := BA_5.out.cell 1
      have cBA2 := BA_5.out.cell 2
      have cBA3 := BA_5.out.cell 3
      have cBB0 := BB_5.out.cell 0
      have cBB1 := BB_5.out.cell 1
      have cBB2 := BB_5.out.cell 2
      have cBB3 := BB_5.out.cell 3
      go_wp2_with fail
      clear cBA0 cBA1 cBA2 cBA3 cBB0 cBB1 cBB2 cBB3
      refine (HH.out _ HS5.out.2).mono ?_
      rintro e w6 ⟨rfl, hb⟩
      have HS6 := Lib.hid (⟨below_trans HS5.out.1 hb, HS5.out.2.below hb⟩ : _ ∧ _)
      have BA_6 := Lib.hid (BA_5.out.below hb (Nat.le_refl _))
      have BB_6 := Lib.hid (BB_5.out.below hb (Nat.le_refl _))
      clear hb HS5 BA_5 BB_5
      have cBA0 := BA_6.out.cell 0
      have cBA1 := BA_6.out.cell 1
      have cBA2 := BA_6.out.cell 2
      have cBA3 := BA_6.out.cell 3
      have cBB0 := BB_6.out.cell 0
      have cBB1 := BB_6.out.cell 1
      have cBB2 := BB_6.out.cell 2
      have cBB3 := BB_6.out.cell 3
      go_wp2_with fail
      clear cBA0 cBA1 cBA2 cBA3 cBB0 cBB1 cBB2 cBB3
      refine (HT.out _ HS6.out.2).mono ?_
      rintro e w7 ⟨rfl, hb⟩
      have HS7 := Lib.hid (⟨below_trans HS6.out.1 hb, HS6.out.2.below hb⟩ : _ ∧ _)
      have BA_7 := Lib.hid (BA_6.out.below hb (Nat.le_refl _))
      have BB_7 := Lib.hid (BB_6.out.below hb (Nat.le_refl _))
      clear hb HS6 BA_6 BB_6
      have cBA0 := BA_7.out.cell 0
      have cBA1 := BA_7.out.cell 1
      have cBA2 := BA_7.out.cell 2
      have cBA3 := BA_7.out.cell 3
      have cBB0 := BB_7.out.cell 0
      have cBB1 := BB_7.out.cell 1
      have cBB2 := BB_7.out.cell 2
      have cBB3 := BB_7.out.cell 3
      go_wp2_with fail
      clear cBA0 cBA1 cBA2 cBA3 cBB0 cBB1 cBB2 cBB3
      refine (HP.out _ HS7.out.2).mono ?_
      rintro e w8 ⟨rfl, hb⟩
      have HS8 := Lib.hid (⟨below_trans HS7.out.1 hb, HS7.out.2.below hb⟩ : _ ∧ _)
      have BA_8 := Lib.hid (BA_7.out.below hb (Nat.le_refl _))
      have BB_8 := Lib.hid (BB_7.out.below hb (Nat.le_refl _))
      clear hb HS7 BA_7 BB_7
      have cBA0 := BA_8.out.cell 0
      have cBA1 := BA_8.out.cell 1
      have cBA2 := BA_8.out.cell 2
      have cBA3 := BA_8.out.cell 3
      have cBB0 := BB_8.out.cell 0
      have cBB1 := BB_8.out.cell 1
      have cBB2 := BB_8.out.cell 2
      have cBB3 := BB_8.out.cell 3
      go_wp2_with fail
      clear cBA0 cBA1 cBA2 cBA3 cBB0 cBB1 cBB2 cBB3
      refine (HT.out _ HS8.out.2).mono ?_
      rintro e w9 ⟨rfl, hb⟩
      have HS9 := Lib.hid (⟨below_trans HS8.out.1 hb, HS8.out.2.below hb⟩ : _ ∧ _)
      have BA_9 := Lib.hid (BA_8.out.below hb (Nat.le_refl _))
      have BB_9 := Lib.hid (BB_8.out.below hb (Nat.le_refl _))
      clear hb HS8 BA_8 BB_8
      have cBA0 := BA_9.out.cell 0
      have cBA1 := BA_9.out.cell 1
      have cBA2 := BA_9.out.cell 2
      have cBA3 := BA_9.out.cell 3
      have cBB0 := BB_9.out.cell 0
      have cBB1 := BB_9.out.cell 1
      have cBB2 := BB_9.out.cell 2
      have cBB3 := BB_9.out.cell 3
      go_wp2_with fail
      clear cBA0 cBA1 cBA2 cBA3 cBB0 cBB1 cBB2 cBB3
      refine (HT1.out _ HS9.out.2).mono ?_
      rintro e w10 ⟨rfl, hb⟩
      have HS10 := Lib.hid (⟨below_trans HS9.out.1 hb, HS9.out.2.below hb⟩ : _ ∧ _)
      have BA_10 := Lib.hid (BA_9.out.below hb (Nat.le_refl _))
      have BB_10 := Lib.hid (BB_9.out.below hb (Nat.le_refl _))
      clear hb HS9 BA_9 BB_9
      have cBA0 := BA_10.out.cell 0
      have cBA1 := BA_10.out.cell 1
      have cBA2 := BA_10.out.cell 2
      have cBA3 := BA_10.out.cell 3
      have cBB0 := BB_10.out.cell 0
      have cBB1 := BB_10.out.cell 1
      have cBB2 := BB_10.out.cell 2
      have cBB3 := BB_10.out.cell 3
      go_wp2_with fail
      clear cBA0 cBA1 cBA2 cBA3 cBB0 cBB1 cBB2 cBB3
      go_ret
      exact ⟨rfl, HS10.out.1⟩
    · injection e with e1 e2 e3 e4
      rw [e1, e2, e3, e4] at HO1
      clear e1 e2 e3 e4
      subst g3 g4
      have hw : wrap64 ((y : Int) + 1) = ((y + 1 : Nat) : Int) := by unfold wrap64; omega
      have HS0 := Lib.hid (show Below w.heap.size w w ∧ Wd w from ⟨below_self w, hW⟩)
      clear hW nsame nday o1 o2 o3 o4 o5 o6 hyr hl31 hh g1 g2
      generalize ((y + 1 : Nat) : Int) = y1 at *
      generalize ((y : Nat) : Int) = y at *
      generalize ((h : Nat) : Int) = h at *
      go_enter Tryd.func5, Tryd.ntmps5
      go_wp2_with fail
      refine (HSM.out _ HS0.out.2).mono ?_
      rintro e w1 ⟨rfl, hb⟩
      have HS1 := Lib.hid (⟨below_trans HS0.out.1 hb, HS0.out.2.below hb⟩ : _ ∧ _)
      clear hb HS0 
      go_wp2_with fail
      refine (HO.out _ HS1.out.2).mono ?_
      rintro e w2 ⟨rfl, hb⟩
      have HS2 := Lib.hid (⟨below_trans HS1.out.1 hb, HS1.out.2.below hb⟩ : _ ∧ _)
      clear hb HS1 
      have HS3 := Lib.hid (⟨below_trans HS2.out.1 (below_alloc _ (.cells #[.int .i64 y, .int .i64 ((12 : Nat) : Int), .int .i64 ((31 : Nat) : Int), .int .i64 h] 23)), HS2.out.2.below (below_alloc _ (.cells #[.int .i64 y, .int .i64 ((12 : Nat) : Int), .int .i64 ((31 : Nat) : Int), .int .i64 h] 23))⟩ : _ ∧ _)
      have BA_3 := Lib.hid (Blk.new w2 23 #[.int .i64 y, .int .i64 ((12 : Nat) : Int), .int .i64 ((31 : Nat) : Int), .int .i64 h])
      clear HS2 
      have cBA0 := BA_3.out.cell 0
      have cBA1 := BA_3.out.cell 1
      have cBA2 := BA_3.out.cell 2
      have cBA3 := BA_3.out.cell 3
      go_wp2_with fail
      clear cBA0 cBA1 cBA2 cBA3
      refine (HO1.out _ HS3.out.2).mono ?_
      rintro e w4 ⟨rfl, hb⟩
      have HS4 := Lib.hid (⟨below_trans HS3.out.1 hb, HS3.out.2.below hb⟩ : _ ∧ _)
      have BA_4 := Lib.hid (BA_3.out.below hb (Nat.le_refl _))
      clear hb HS3 BA_3
      have HS5 := Lib.hid (⟨below_trans HS4.out.1 (below_alloc _ (.cells #[.int .i64 y1, .int .i64 1, .int .i64 1, .int .i64 0] 23)), HS4.out.2.below (below_alloc _ (.cells #[.int .i64 y1, .int .i64 1, .int .i64 1, .int .i64 0] 23))⟩ : _ ∧ _)
      have BA_5 := Lib.hid (BA_4.out.below (below_alloc w4 (.cells #[.int .i64 y1, .int .i64 1, .int .i64 1, .int .i64 0] 23)) (Nat.le_refl _))
      have BB_5 := Lib.hid (Blk.new w4 23 #[.int .i64 y1, .int .i64 1, .int .i64 1, .int .i64 0])
      clear HS4 BA_4
      have cBA0 := BA_5.out.cell 0
      have cBA1 := BA_5.out.cell 1
      have cBA2 := BA_5.out.cell 2
      have cBA3 := BA_5.out.cell 3
      have cBB0 := BB_5.out.cell 0
      have cBB1 := BB_5.out.cell 1
      have cBB2 := BB_5.out.cell 2
      have cBB3 := BB_5.out.cell 3
      go_wp2_with fail
      clear cBA0 cBA1 cBA2 cBA3 cBB0 cBB1 cBB2 cBB3
      refine (HH.out _ HS5.out.2).mono ?_
      rintro e w6 ⟨rfl, hb⟩
      have HS6 := Lib.hid (⟨below_trans HS5.out.1 hb, HS5.out.2.below hb⟩ : _ ∧ _)
      have BA_6 := Lib.hid (BA_5.out.below hb (Nat.le_refl _))
      have BB_6 := Lib.hid (BB_5.out.below hb (Nat.le_refl _))
      clear hb HS5 BA_5 BB_5
      have cBA0 := BA_6.out.cell 0
      have cBA1 := BA_6.out.cell 1
      have cBA2 := BA_6.out.cell 2
      have cBA3 := BA_6.out.cell 3
      have cBB0 := BB_6.out.cell 0
      have cBB1 := BB_6.out.cell 1
      have cBB2 := BB_6.out.cell 2
      have cBB3 := BB_6.out.cell 3
      go_wp2_with fail
      clear cBA0 cBA1 cBA2 cBA3 cBB0 cBB1 cBB2 cBB3
      refine (HT.out _ HS6.out.2).mono ?_
      rintro e w7 ⟨rfl, hb⟩
      have HS7 := Lib.hid (⟨below_trans HS6.out.1 hb, HS6.out.2.below hb⟩ : _ ∧ _)
      have BA_7 := Lib.hid (BA_6.out.below hb (Nat.le_refl _))
      have BB_7 := Lib.hid (BB_6.out.below hb (Nat.le_refl _))
      clear hb HS6 BA_6 BB_6
      have cBA0 := BA_7.out.cell 0
      have cBA1 := BA_7.out.cell 1
      have cBA2 := BA_7.out.cell 2
      have cBA3 := BA_7.out.cell 3
      have cBB0 := BB_7.out.cell 0
      have cBB1 := BB_7.out.cell 1
      have cBB2 := BB_7.out.cell 2
      have cBB3 := BB_7.out.cell 3
      go_wp2_with fail
      clear cBA0 cBA1 cBA2 cBA3 cBB0 cBB1 cBB2 cBB3
      refine (HP.out _ HS7.out.2).mono ?_
      rintro e w8 ⟨rfl, hb⟩
      have HS8 := Lib.hid (⟨below_trans HS7.out.1 hb, HS7.out.2.below hb⟩ : _ ∧ _)
      have BA_8 := Lib.hid (BA_7.out.below hb (Nat.le_refl _))
      have BB_8 := Lib.hid (BB_7.out.below hb (Nat.le_refl _))
      clear hb HS7 BA_7 BB_7
      have cBA0 := BA_8.out.cell 0
      have cBA1 := BA_8.out.cell 1
      have cBA2 := BA_8.out.cell 2
      have cBA3 := BA_8.out.cell 3
      have cBB0 := BB_8.out.cell 0
      have cBB1 := BB_8.out.cell 1
      have cBB2 := BB_8.out.cell 2
      have cBB3 := BB_8.out.cell 3
      go_wp2_with fail
      clear cBA0 cBA1 cBA2 cBA3 cBB0 cBB1 cBB2 cBB3
      refine (HT.out _ HS8.out.2).mono ?_
      rintro e w9 ⟨rfl, hb⟩
      have HS9 := Lib.hid (⟨below_trans HS8.out.1 hb, HS8.out.2.below hb⟩ : _ ∧ _)
      have BA_9 := Lib.hid (BA_8.out.below hb (Nat.le_refl _))
      have BB_9 := Lib.hid (BB_8.out.below hb (Nat.le_refl _))
      clear hb HS8 BA_8 BB_8
      have cBA0 := BA_9.out.cell 0
      have cBA1 := BA_9.out.cell 1
      have cBA2 := BA_9.out.cell 2
      have cBA3 := BA_9.out.cell 3
      have cBB0 := BB_9.out.cell 0
      have cBB1 := BB_9.out.cell 1
      have cBB2 := BB_9.out.cell 2
      have cBB3 := BB_9.out.cell 3
      go_wp2_with fail
      clear cBA0 cBA1 cBA2 cBA3 cBB0 cBB1 cBB2 cBB3
      refine (HT1.out _ HS9.out.2).mono ?_
      rintro e w10 ⟨rfl, hb⟩
      have HS10 := Lib.hid (⟨below_trans HS9.out.1 hb, HS9.out.2.below hb⟩ : _ ∧ _)
      have BA_10 := Lib.hid (BA_9.out.below hb (Nat.le_refl _))
      have BB_10 := Lib.hid (BB_9.out.below hb (Nat.le_refl _))
      clear hb HS9 BA_9 BB_9
      have cBA0 := BA_10.out.cell 0
      have cBA1 := BA_10.out.cell 1
      have cBA2 := BA_10.out.cell 2
      have cBA3 := BA_10.out.cell 3
      have cBB0 := BB_10.out.cell 0
      have cBB1 := BB_10.out.cell 1
      have cBB2 := BB_10.out.cell 2
      have cBB3 := BB_10.out.cell 3
      go_wp2_with fail
      clear cBA0 cBA1 cBA2 cBA3 cBB0 cBB1 cBB2 cBB3
      go_ret
      exact ⟨rfl, HS10.out.1⟩
theorem walk (a : Int) (wa : I64 a) (w : World) (hW : Wd w) : Calls Tryd.prog 5 #[.int .i64 a] w (IsTrue w) := by
  by_cases h0 : a < 0
  · have d0 := decide_eq_true h0
    have HSM := Lib.hid (fun W hW => small_any W hW)
    have HS0 := Lib.hid (show Below w.heap.size w w ∧ Wd w from ⟨below_self w, hW⟩)
    clear hW wa h0
    go_enter Tryd.func5, Tryd.ntmps5
    go_wp2_with fail
    refine (HSM.out _ HS0.out.2).mono ?_
    rintro e w1 ⟨rfl, hb⟩
    have HS1 := Lib.hid (⟨below_trans HS0.out.1 hb, HS0.out.2.below hb⟩ : _ ∧ _)
    clear hb HS0 
    go_wp2_with fail
    go_ret
    exact ⟨rfl, HS1.out.1⟩
  · by_cases h1 : 16777216 ≤ a
    · have d0 := decide_eq_false h0
      have d1 := decide_eq_true h1
      have HSM := Lib.hid (fun W hW => small_any W hW)
      have HS0 := Lib.hid (show Below w.heap.size w w ∧ Wd w from ⟨below_self w, hW⟩)
      clear hW wa h0 h1
      go_enter Tryd.func5, Tryd.ntmps5
      go_wp2_with fail
      refine (HSM.out _ HS0.out.2).mono ?_
      rintro e w1 ⟨rfl, hb⟩
      have HS1 := Lib.hid (⟨below_trans HS0.out.1 hb, HS0.out.2.below hb⟩ : _ ∧ _)
      clear hb HS0 
      go_wp2_with fail
      go_ret
      exact ⟨rfl, HS1.out.1⟩
    · obtain ⟨t, rfl⟩ : ∃ t : Nat, a = (t : Int) := ⟨a.toNat, by omega⟩
      exact main t (by omega) w hW
set_option maxRecDepth 100000 in
theorem lifted (os : Os) (started : os.Started) (H : Type) (enc : TypeId × Value → H) :
    ReturnsInHanded {} Tryd.checked os 5 .any (fun w args => (Rows.dateBackSpec.pre enc Tryd.prog Tryd.f5 Rows.dateBackRow.domain false w args ∧ laidMetH Tryd.prog Rows.dateBackRow.laid w) ∧ sizedMet enc Tryd.prog Tryd.f5 (OpenSpec.ofChange Rows.dateBackSpec) false w args)
      (Rows.dateBackSpec.post enc Tryd.prog Tryd.f5 false true false false) := by
  refine returns_both (C := Tryd.checked) (X := fun w _ => laidMetH Tryd.prog Rows.dateBackRow.laid w) (fun _ _ _ hh h => h.of_heap hh.symm) own started (by kernel_rfl) Tryd.func5
    (ChangeSpec.witness_shaped (enc := enc) (C := Tryd.checked) (os := os) (X := fun w _ => laidMetH Tryd.prog Rows.dateBackRow.laid w) false (World.laidAll Tryd.prog os Rows.dateBackRow.laid) #[.int .i64 0] 8 (World.laidAll_os _ _ _)
      (World.shaped_of_ZipB (by kernel_rfl) (by kernel_rfl)) (by kernel_rfl) (by kernel_rfl) (by kernel_rfl)
      (by rw [MakeChecks.laidMetH_plain _ _ _ (by kernel_rfl)]; exact laidMet_laidAll _ (by kernel_rfl) (by kernel_rfl))) ?_
  intro W base args ds gs before hval0 hW hsh hX hsz0
  have hsz : (DataW.weightsEach Tryd.prog (Tryd.f5.params.toList ++ Rows.dateBackSpec.plain.varTypes Tryd.prog) (ds ++ gs)).all (· ≤ reachBytes) = true := hsz0
  clear hsz0
  have hWd : Wd W := wd_of_laid hX
  have hval : ∀ (j : Nat) t v, Tryd.f5.params[j]? = some t → args[j]? = some v → Value.okWide Tryd.prog W .any base t v := hval0
  have hW' := hW
  obtain ⟨p, q, hA0, hV, rfl, hfz, hnd⟩ := hW
  have hA : DataW.TrodAll enc Tryd.prog W 0 (fun _ => true) true Tryd.f5.params.toList args.toList ds p := hA0
  rw [Tryd.params5] at hA hval hsz
  obtain ⟨v0, vs0, d0, ds0, p0, q0, hargs, rfl, rfl, h0, r0⟩ := trodAll_cons hA
  obtain ⟨rfl, rfl, rfl⟩ := trodAll_nil r0
  obtain rfl : args = #[v0] := by cases args; simp_all
  obtain ⟨rfl, rfl⟩ := trodVars_none hV
  obtain ⟨a0, rfl, rfl, rfl, w0⟩ := open_int Tryd.underlying3 (hval 0 3 v0 rfl rfl) h0
  clear hA0 hval0
  simp only [List.append_nil] at hW'
  refine (walk a0 (i64_of_wf w0) W hWd).mono fun e W' ⟨he, hb⟩ => ?_
  subst he
  exact ⟨_, rfl, _, _, _, [], _, [], hW', (trodAll_cons_mk (shut_bool Tryd.underlying4 _) trodAll_mk0), (trodAll_cons_mk (shut_int Tryd.underlying3 w0) trodAll_mk0), rfl, hb.frame _, fun h => by cases h⟩

theorem over : Rows.DateBackSaid :=
  OpenClaim.holds_of_wide 5 Tryd.f5 rfl rfl rfl rfl rfl rfl rfl ⟨rfl, rfl, rfl, rfl, rfl⟩ rfl rfl rfl rfl rfl (by kernel_rfl) Tryd.func5 (by kernel_rfl)
    (of_decide_eq_true (by kernel_rfl)) (by unfold Func.isWrapper; first | (rw [if_pos (by decide +kernel)]; kernel_rfl) | (rw [if_neg (by decide +kernel)]; exact ⟨rfl, rfl⟩))
    (fun os started H enc _ => lifted os started H enc)
theorem proved : Rows.DateBackCardSaid :=
  Claim7.holds_tied_plain_at .later [] [.data, .data, .data, .sentinel, .sentinel, .data] true Rows.dateBackCard.stood.harness true over (fun _ h => by cases h) (by kernel_rfl) (fun _ h => by cases h) dateBack_row_tie rfl ⟨rfl, rfl⟩ (by kernel_rfl) rfl
    (fun f fn hf hfn => by
      obtain rfl : f = 5 := Option.some.inj ((show Tryd.prog.funcNamed "bourne/bournelaw08.DateBack" = some 5 by kernel_rfl).symm.trans hf) |>.symm
      obtain rfl : fn = Tryd.f5 := (Option.some.inj (Tryd.func5.symm.trans hfn)).symm
      exact ⟨by kernel_rfl, fun j t ht => by
        rw [Tryd.params5] at ht
        have hm : t ∈ [3] := by simpa using Array.mem_of_getElem? ht
        have hall : ([3].all fun u => !Tryd.prog.wantsStandIn u) = true := by kernel_rfl
        exact (show Tryd.prog.wantsStandIn t = false by simpa using List.all_eq_true.1 hall t hm)⟩)
    (by kernel_rfl)
end Go.Proofs.YtanjkjendppigaaDoor.dateBack
