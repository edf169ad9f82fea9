/- The statement DateOrder: the later hour has the greater text and the day that is not less; 146097 days later is the same date, 400 years later. Conditions: those of its row. -/
import Derived.Test.YtanjkjendppigaaDoorDDet
namespace Go.Proofs.YtanjkjendppigaaDoor.dateOrder
open Go.ChangeShapes Go.WideShapes Go.ChangeAt Go.RowKit Go.Joins Cal Dy
set_option linter.unusedVariables false
set_option maxRecDepth 100000

theorem st_in {w W : World} {g : Nat} (h : Below w.heap.size w W ∧ Wd W) (hg : w.heap.size ≤ g) (v : Value) : Below w.heap.size w (W.setCell ⟨g, 0, none⟩ v) := h.1.setCell (p := ⟨g, 0, none⟩) hg v
set_option maxHeartbeats 4000000 in
theorem main (a b : Nat) (hab : a ≤ b) (hb : b ≤ 16777216) (w : World) (hW : Wd w) : Calls Tryd.prog 6 #[.int .i64 (a : Int), .int .i64 (b : Int)] w (IsTrue w) := by
  have HSM := Lib.hid (fun W hW => small_any W hW)
  have HT := Lib.hid (fun W hW => text_any (a : Int) W hW)
  have HU := Lib.hid (fun W hW => text_any (b : Int) W hW)
  rw [textB_nat (by omega)] at HT HU
  have HD := Lib.hid (fun W => (day_any (a : Int) W).mono fun e w' hh => (⟨hh.1, hh.2 ▸ below_self _⟩ : e = _ ∧ Below W.heap.size W w'))
  have HE := Lib.hid (fun W => (day_any (b : Int) W).mono fun e w' hh => (⟨hh.1, hh.2 ▸ below_self _⟩ : e = _ ∧ Below W.heap.size W w'))
  have HO := Lib.hid (fun W hW => of_good a (by omega) W hW)
  have HC := Lib.hid (fun W hW => of_any ((a + 3506328 : Nat) : Int) W hW)
  have d0 : decide ((a : Int) < 0) = false := decide_eq_false (by omega)
  have d1 : decide ((b : Int) < (a : Int)) = false := decide_eq_false (by omega)
  have d2 : decide (16777216 < (b : Int)) = false := decide_eq_false (by omega)
  have hda : dayI (a : Int) = (a : Int) / 24 := by unfold dayI; rw [if_pos (show isH (a : Int) = true from decide_eq_true (by omega))]
  have hdb : dayI (b : Int) = (b : Int) / 24 := by unfold dayI; rw [if_pos (show isH (b : Int) = true from decide_eq_true (by omega))]
  have d3 : decide (dayI (b : Int) < dayI (a : Int)) = false := decide_eq_false (by rw [hda, hdb]; omega)
  have hxc : wrap64 ((a : Int) + 3506328) = ((a + 3506328 : Nat) : Int) := by unfold wrap64; omega
  have hcmp : (Op.bytesLess (sv (text a)).toList (sv (text b)).toList = false ∧ ((sv (text a)).toList == (sv (text b)).toList) = true ∧ ((a : Int) == (b : Int)) = true) ∨ (Op.bytesLess (sv (text a)).toList (sv (text b)).toList = true ∧ ((sv (text a)).toList == (sv (text b)).toList) = false ∧ ((a : Int) == (b : Int)) = false) := by
    rw [sv_toList, sv_toList]
    by_cases e : a = b
    · subst e
      left
      exact ⟨less_irr _, by simp, by simp⟩
    · right
      exact ⟨text_less (show a < b by omega) hb, beq_eq_false_iff_ne.2 (fun h => e (text_inj (by omega) hb h)), beq_eq_false_iff_ne.2 (by omega)⟩
  unfold dtv at HO
  have hcase : (a + 3506328 ≤ 16777216 ∧ ofV ((a + 3506328 : Nat) : Int) = .tuple #[dv ((dateOf a).y + 400 : Nat) (dateOf a).m (dateOf a).d (dateOf a).h, .bool true] ∧ (dateOf a).y ≤ 3913) ∨ (16777216 < a + 3506328 ∧ ofV ((a + 3506328 : Nat) : Int) = .tuple #[dv 0 0 0 0, .bool false]) := by
    by_cases h : a + 3506328 ≤ 16777216
    · left
      refine ⟨h, ?_, dateOf_year (by omega)⟩
      rw [ofV_nat h]
      have := date_period a
      rw [show a + 24 * 146097 = a + 3506328 by omega] at this
      rw [this]
      rfl
    · right
      exact ⟨by omega, ofV_bad (decide_eq_false (by omega))⟩
  generalize sv (text a) = T at *
  generalize sv (text b) = U at *
  generalize dayI (a : Int) = da at *
  generalize dayI (b : Int) = db at *
  generalize dateOf a = q at *
  obtain ⟨y, m, d, h⟩ := q
  simp only at HO hcase
  rcases hcase with ⟨hc, hq, hy⟩ | ⟨hc, hq⟩
  · rw [hq] at HC
    have d5 : decide (16777216 < ((a + 3506328 : Nat) : Int)) = false := decide_eq_false (by omega)
    have hw : wrap64 ((y : Int) + 400) = ((y + 400 : Nat) : Int) := by unfold wrap64; omega
    unfold dv at *
    clear hc hq hy hda hdb hab hb
    generalize ((y + 400 : Nat) : Int) = y1 at *
    generalize ((a + 3506328 : Nat) : Int) = c at *
    generalize ((a : Nat) : Int) = a at *
    generalize ((b : Nat) : Int) = b at *
    generalize ((y : Nat) : Int) = y at *
    generalize ((m : Nat) : Int) = m at *
    generalize ((d : Nat) : Int) = d at *
    generalize ((h : Nat) : Int) = h at *
    rcases hcmp with ⟨k1, k2, k3⟩ | ⟨k1, k2, k3⟩
    · skip
      have HS0 := Lib.hid (show Below w.heap.size w w ∧ Wd w from ⟨below_self w, hW⟩)
      clear hW
      go_enter Tryd.func6, Tryd.ntmps6
      go_wp2_with fail
      refine (HSM.out _ HS0.out.2).mono ?_
      rintro e w1 ⟨rfl, hb⟩
      have HS1 := Lib.hid (⟨below_trans HS0.out.1 hb, HS0.out.2.below hb⟩ : _ ∧ _)
      clear hb HS0 
      go_wp2_with fail
      refine (HT.out _ HS1.out.2).mono ?_
      rintro e w2 ⟨rfl, hb⟩
      have HS2 := Lib.hid (⟨below_trans HS1.out.1 hb, HS1.out.2.below hb⟩ : _ ∧ _)
      clear hb HS1 
      go_wp2_with fail
      refine (HU.out _ HS2.out.2).mono ?_
      rintro e w3 ⟨rfl, hb⟩
      have HS3 := Lib.hid (⟨below_trans HS2.out.1 hb, HS2.out.2.below hb⟩ : _ ∧ _)
      clear hb HS2 
      go_wp2_with fail
      refine (HD.out _).mono ?_
      rintro e w4 ⟨rfl, hb⟩
      have HS4 := Lib.hid (⟨below_trans HS3.out.1 hb, HS3.out.2.below hb⟩ : _ ∧ _)
      clear hb HS3 
      go_wp2_with fail
      refine (HE.out _).mono ?_
      rintro e w5 ⟨rfl, hb⟩
      have HS5 := Lib.hid (⟨below_trans HS4.out.1 hb, HS4.out.2.below hb⟩ : _ ∧ _)
      clear hb HS4 
      go_wp2_with fail
      refine (HO.out _ HS5.out.2).mono ?_
      rintro e w6 ⟨rfl, hb⟩
      have HS6 := Lib.hid (⟨below_trans HS5.out.1 hb, HS5.out.2.below hb⟩ : _ ∧ _)
      clear hb HS5 
      have HSZ := Lib.hid HS6.out.1.size
      have HS7 := Lib.hid (⟨below_trans HS6.out.1 (below_alloc _ (.cells #[.int .i64 y, .int .i64 m, .int .i64 d, .int .i64 h] 23)), HS6.out.2.below (below_alloc _ (.cells #[.int .i64 y, .int .i64 m, .int .i64 d, .int .i64 h] 23))⟩ : _ ∧ _)
      have BA_7 := Lib.hid (Blk.new w6 23 #[.int .i64 y, .int .i64 m, .int .i64 d, .int .i64 h])
      clear HS6 
      have cBA0 := BA_7.out.cell 0
      have cBA1 := BA_7.out.cell 1
      have cBA2 := BA_7.out.cell 2
      have cBA3 := BA_7.out.cell 3
      go_wp2_with fail
      clear cBA0 cBA1 cBA2 cBA3
      refine (HC.out _ HS7.out.2).mono ?_
      rintro e w8 ⟨rfl, hb⟩
      have HS8 := Lib.hid (⟨below_trans HS7.out.1 hb, HS7.out.2.below hb⟩ : _ ∧ _)
      have BA_8 := Lib.hid (BA_7.out.below hb (Nat.le_refl _))
      clear hb HS7 BA_7
      have hne : w6.heap.size ≠ w8.heap.size := by have := BA_8.out.lt; omega
      have hne2 := hne.symm
      have HS9 := Lib.hid (⟨below_trans HS8.out.1 (below_alloc _ (.cells #[.int .i64 y1, .int .i64 m, .int .i64 d, .int .i64 h] 23)), HS8.out.2.below (below_alloc _ (.cells #[.int .i64 y1, .int .i64 m, .int .i64 d, .int .i64 h] 23))⟩ : _ ∧ _)
      have BA_9 := Lib.hid (BA_8.out.below (below_alloc w8 (.cells #[.int .i64 y1, .int .i64 m, .int .i64 d, .int .i64 h] 23)) (Nat.le_refl _))
      have BB_9 := Lib.hid (Blk.new w8 23 #[.int .i64 y1, .int .i64 m, .int .i64 d, .int .i64 h])
      clear HS8 BA_8
      have f0 := BA_9.out.frozen 0
      have f1 := BA_9.out.frozen 1
      have f2 := BA_9.out.frozen 2
      have f3 := BA_9.out.frozen 3
      have cBA0 := BA_9.out.cell 0
      have cBA1 := BA_9.out.cell 1
      have cBA2 := BA_9.out.cell 2
      have cBA3 := BA_9.out.cell 3
      have cBB0 := BB_9.out.cell 0
      have cBB1 := BB_9.out.cell 1
      have cBB2 := BB_9.out.cell 2
      have cBB3 := BB_9.out.cell 3
      go_wp2_with fail
      clear cBA0 cBA1 cBA2 cBA3 cBB0 cBB1 cBB2 cBB3
      go_ret
      exact ⟨rfl, st_in HS9.out HSZ.out _⟩
    · skip
      have HS0 := Lib.hid (show Below w.heap.size w w ∧ Wd w from ⟨below_self w, hW⟩)
      clear hW
      go_enter Tryd.func6, Tryd.ntmps6
      go_wp2_with fail
      refine (HSM.out _ HS0.out.2).mono ?_
      rintro e w1 ⟨rfl, hb⟩
      have HS1 := Lib.hid (⟨below_trans HS0.out.1 hb, HS0.out.2.below hb⟩ : _ ∧ _)
      clear hb HS0 
      go_wp2_with fail
      refine (HT.out _ HS1.out.2).mono ?_
      rintro e w2 ⟨rfl, hb⟩
      have HS2 := Lib.hid (⟨below_trans HS1.out.1 hb, HS1.out.2.below hb⟩ : _ ∧ _)
      clear hb HS1 
      go_wp2_with fail
      refine (HU.out _ HS2.out.2).mono ?_
      rintro e w3 ⟨rfl, hb⟩
      have HS3 := Lib.hid (⟨below_trans HS2.out.1 hb, HS2.out.2.below hb⟩ : _ ∧ _)
      clear hb HS2 
      go_wp2_with fail
      refine (HD.out _).mono ?_
      rintro e w4 ⟨rfl, hb⟩
      have HS4 := Lib.hid (⟨below_trans HS3.out.1 hb, HS3.out.2.below hb⟩ : _ ∧ _)
      clear hb HS3 
      go_wp2_with fail
      refine (HE.out _).mono ?_
      rintro e w5 ⟨rfl, hb⟩
      have HS5 := Lib.hid (⟨below_trans HS4.out.1 hb, HS4.out.2.below hb⟩ : _ ∧ _)
      clear hb HS4 
      go_wp2_with fail
      refine (HO.out _ HS5.out.2).mono ?_
      rintro e w6 ⟨rfl, hb⟩
      have HS6 := Lib.hid (⟨below_trans HS5.out.1 hb, HS5.out.2.below hb⟩ : _ ∧ _)
      clear hb HS5 
      have HSZ := Lib.hid HS6.out.1.size
      have HS7 := Lib.hid (⟨below_trans HS6.out.1 (below_alloc _ (.cells #[.int .i64 y, .int .i64 m, .int .i64 d, .int .i64 h] 23)), HS6.out.2.below (below_alloc _ (.cells #[.int .i64 y, .int .i64 m, .int .i64 d, .int .i64 h] 23))⟩ : _ ∧ _)
      have BA_7 := Lib.hid (Blk.new w6 23 #[.int .i64 y, .int .i64 m, .int .i64 d, .int .i64 h])
      clear HS6 
      have cBA0 := BA_7.out.cell 0
      have cBA1 := BA_7.out.cell 1
      have cBA2 := BA_7.out.cell 2
      have cBA3 := BA_7.out.cell 3
      go_wp2_with fail
      clear cBA0 cBA1 cBA2 cBA3
      refine (HC.out _ HS7.out.2).mono ?_
      rintro e w8 ⟨rfl, hb⟩
      have HS8 := Lib.hid (⟨below_trans HS7.out.1 hb, HS7.out.2.below hb⟩ : _ ∧ _)
      have BA_8 := Lib.hid (BA_7.out.below hb (Nat.le_refl _))
      clear hb HS7 BA_7
      have hne : w6.heap.size ≠ w8.heap.size := by have := BA_8.out.lt; omega
      have hne2 := hne.symm
      have HS9 := Lib.hid (⟨below_trans HS8.out.1 (below_alloc _ (.cells #[.int .i64 y1, .int .i64 m, .int .i64 d, .int .i64 h] 23)), HS8.out.2.below (below_alloc _ (.cells #[.int .i64 y1, .int .i64 m, .int .i64 d, .int .i64 h] 23))⟩ : _ ∧ _)
      have BA_9 := Lib.hid (BA_8.out.below (below_alloc w8 (.cells #[.int .i64 y1, .int .i64 m, .int .i64 d, .int .i64 h] 23)) (Nat.le_refl _))
      have BB_9 := Lib.hid (Blk.new w8 23 #[.int .i64 y1, .int .i64 m, .int .i64 d, .int .i64 h])
      clear HS8 BA_8
      have f0 := BA_9.out.frozen 0
      have f1 := BA_9.out.frozen 1
      have f2 := BA_9.out.frozen 2
      have f3 := BA_9.out.frozen 3
      have cBA0 := BA_9.out.cell 0
      have cBA1 := BA_9.out.cell 1
      have cBA2 := BA_9.out.cell 2
      have cBA3 := BA_9.out.cell 3
      have cBB0 := BB_9.out.cell 0
      have cBB1 := BB_9.out.cell 1
      have cBB2 := BB_9.out.cell 2
      have cBB3 := BB_9.out.cell 3
      go_wp2_with fail
      clear cBA0 cBA1 cBA2 cBA3 cBB0 cBB1 cBB2 cBB3
      go_ret
      exact ⟨rfl, st_in HS9.out HSZ.out _⟩
  · rw [hq] at HC
    have d5 : decide (16777216 < ((a + 3506328 : Nat) : Int)) = true := decide_eq_true (by omega)
    unfold dv at *
    clear hc hq hda hdb hab hb
    generalize ((a + 3506328 : Nat) : Int) = c at *
    generalize ((a : Nat) : Int) = a at *
    generalize ((b : Nat) : Int) = b at *
    generalize ((y : Nat) : Int) = y at *
    generalize ((m : Nat) : Int) = m at *
    generalize ((d : Nat) : Int) = d at *
    generalize ((h : Nat) : Int) = h at *
    rcases hcmp with ⟨k1, k2, k3⟩ | ⟨k1, k2, k3⟩
    · skip
      have HS0 := Lib.hid (show Below w.heap.size w w ∧ Wd w from ⟨below_self w, hW⟩)
      clear hW
      go_enter Tryd.func6, Tryd.ntmps6
      go_wp2_with fail
      refine (HSM.out _ HS0.out.2).mono ?_
      rintro e w1 ⟨rfl, hb⟩
      have HS1 := Lib.hid (⟨below_trans HS0.out.1 hb, HS0.out.2.below hb⟩ : _ ∧ _)
      clear hb HS0 
      go_wp2_with fail
      refine (HT.out _ HS1.out.2).mono ?_
      rintro e w2 ⟨rfl, hb⟩
      have HS2 := Lib.hid (⟨below_trans HS1.out.1 hb, HS1.out.2.below hb⟩ : _ ∧ _)
      clear hb HS1 
      go_wp2_with fail
      refine (HU.out _ HS2.out.2).mono ?_
      rintro e w3 ⟨rfl, hb⟩
      have HS3 := Lib.hid (⟨below_trans HS2.out.1 hb, HS2.out.2.below hb⟩ : _ ∧ _)
      clear hb HS2 
      go_wp2_with fail
      refine (HD.out _).mono ?_
      rintro e w4 ⟨rfl, hb⟩
      have HS4 := Lib.hid (⟨below_trans HS3.out.1 hb, HS3.out.2.below hb⟩ : _ ∧ _)
      clear hb HS3 
      go_wp2_with fail
      refine (HE.out _).mono ?_
      rintro e w5 ⟨rfl, hb⟩
      have HS5 := Lib.hid (⟨below_trans HS4.out.1 hb, HS4.out.2.below hb⟩ : _ ∧ _)
      clear hb HS4 
      go_wp2_with fail
      refine (HO.out _ HS5.out.2).mono ?_
      rintro e w6 ⟨rfl, hb⟩
      have HS6 := Lib.hid (⟨below_trans HS5.out.1 hb, HS5.out.2.below hb⟩ : _ ∧ _)
      clear hb HS5 
      have HSZ := Lib.hid HS6.out.1.size
      have HS7 := Lib.hid (⟨below_trans HS6.out.1 (below_alloc _ (.cells #[.int .i64 y, .int .i64 m, .int .i64 d, .int .i64 h] 23)), HS6.out.2.below (below_alloc _ (.cells #[.int .i64 y, .int .i64 m, .int .i64 d, .int .i64 h] 23))⟩ : _ ∧ _)
      have BA_7 := Lib.hid (Blk.new w6 23 #[.int .i64 y, .int .i64 m, .int .i64 d, .int .i64 h])
      clear HS6 
      have cBA0 := BA_7.out.cell 0
      have cBA1 := BA_7.out.cell 1
      have cBA2 := BA_7.out.cell 2
      have cBA3 := BA_7.out.cell 3
      go_wp2_with fail
      clear cBA0 cBA1 cBA2 cBA3
      refine (HC.out _ HS7.out.2).mono ?_
      rintro e w8 ⟨rfl, hb⟩
      have HS8 := Lib.hid (⟨below_trans HS7.out.1 hb, HS7.out.2.below hb⟩ : _ ∧ _)
      have BA_8 := Lib.hid (BA_7.out.below hb (Nat.le_refl _))
      clear hb HS7 BA_7
      have HS9 := Lib.hid (⟨below_trans HS8.out.1 (below_alloc _ (.cells #[.int .i64 0, .int .i64 0, .int .i64 0, .int .i64 0] 23)), HS8.out.2.below (below_alloc _ (.cells #[.int .i64 0, .int .i64 0, .int .i64 0, .int .i64 0] 23))⟩ : _ ∧ _)
      have BA_9 := Lib.hid (BA_8.out.below (below_alloc w8 (.cells #[.int .i64 0, .int .i64 0, .int .i64 0, .int .i64 0] 23)) (Nat.le_refl _))
      have BB_9 := Lib.hid (Blk.new w8 23 #[.int .i64 0, .int .i64 0, .int .i64 0, .int .i64 0])
      clear HS8 BA_8
      have cBA0 := BA_9.out.cell 0
      have cBA1 := BA_9.out.cell 1
      have cBA2 := BA_9.out.cell 2
      have cBA3 := BA_9.out.cell 3
      have cBB0 := BB_9.out.cell 0
      have cBB1 := BB_9.out.cell 1
      have cBB2 := BB_9.out.cell 2
      have cBB3 := BB_9.out.cell 3
      go_wp2_with fail
      clear cBA0 cBA1 cBA2 cBA3 cBB0 cBB1 cBB2 cBB3
      go_ret
      exact ⟨rfl, HS9.out.1⟩
    · skip
      have HS0 := Lib.hid (show Below w.heap.size w w ∧ Wd w from ⟨below_self w, hW⟩)
      clear hW
      go_enter Tryd.func6, Tryd.ntmps6
      go_wp2_with fail
      refine (HSM.out _ HS0.out.2).mono ?_
      rintro e w1 ⟨rfl, hb⟩
      have HS1 := Lib.hid (⟨below_trans HS0.out.1 hb, HS0.out.2.below hb⟩ : _ ∧ _)
      clear hb HS0 
      go_wp2_with fail
      refine (HT.out _ HS1.out.2).mono ?_
      rintro e w2 ⟨rfl, hb⟩
      have HS2 := Lib.hid (⟨below_trans HS1.out.1 hb, HS1.out.2.below hb⟩ : _ ∧ _)
      clear hb HS1 
      go_wp2_with fail
      refine (HU.out _ HS2.out.2).mono ?_
      rintro e w3 ⟨rfl, hb⟩
      have HS3 := Lib.hid (⟨below_trans HS2.out.1 hb, HS2.out.2.below hb⟩ : _ ∧ _)
      clear hb HS2 
      go_wp2_with fail
      refine (HD.out _).mono ?_
      rintro e w4 ⟨rfl, hb⟩
      have HS4 := Lib.hid (⟨below_trans HS3.out.1 hb, HS3.out.2.below hb⟩ : _ ∧ _)
      clear hb HS3 
      go_wp2_with fail
      refine (HE.out _).mono ?_
      rintro e w5 ⟨rfl, hb⟩
      have HS5 := Lib.hid (⟨below_trans HS4.out.1 hb, HS4.out.2.below hb⟩ : _ ∧ _)
      clear hb HS4 
      go_wp2_with fail
      refine (HO.out _ HS5.out.2).mono ?_
      rintro e w6 ⟨rfl, hb⟩
      have HS6 := Lib.hid (⟨below_trans HS5.out.1 hb, HS5.out.2.below hb⟩ : _ ∧ _)
      clear hb HS5 
      have HSZ := Lib.hid HS6.out.1.size
      have HS7 := Lib.hid (⟨below_trans HS6.out.1 (below_alloc _ (.cells #[.int .i64 y, .int .i64 m, .int .i64 d, .int .i64 h] 23)), HS6.out.2.below (below_alloc _ (.cells #[.int .i64 y, .int .i64 m, .int .i64 d, .int .i64 h] 23))⟩ : _ ∧ _)
      have BA_7 := Lib.hid (Blk.new w6 23 #[.int .i64 y, .int .i64 m, .int .i64 d, .int .i64 h])
      clear HS6 
      have cBA0 := BA_7.out.cell 0
      have cBA1 := BA_7.out.cell 1
      have cBA2 := BA_7.out.cell 2
      have cBA3 := BA_7.out.cell 3
      go_wp2_with fail
      clear cBA0 cBA1 cBA2 cBA3
      refine (HC.out _ HS7.out.2).mono ?_
      rintro e w8 ⟨rfl, hb⟩
      have HS8 := Lib.hid (⟨below_trans HS7.out.1 hb, HS7.out.2.below hb⟩ : _ ∧ _)
      have BA_8 := Lib.hid (BA_7.out.below hb (Nat.le_refl _))
      clear hb HS7 BA_7
      have HS9 := Lib.hid (⟨below_trans HS8.out.1 (below_alloc _ (.cells #[.int .i64 0, .int .i64 0, .int .i64 0, .int .i64 0] 23)), HS8.out.2.below (below_alloc _ (.cells #[.int .i64 0, .int .i64 0, .int .i64 0, .int .i64 0] 23))⟩ : _ ∧ _)
      have BA_9 := Lib.hid (BA_8.out.below (below_alloc w8 (.cells #[.int .i64 0, .int .i64 0, .int .i64 0, .int .i64 0] 23)) (Nat.le_refl _))
      have BB_9 := Lib.hid (Blk.new w8 23 #[.int .i64 0, .int .i64 0, .int .i64 0, .int .i64 0])
      clear HS8 BA_8
      have cBA0 := BA_9.out.cell 0
      have cBA1 := BA_9.out.cell 1
      have cBA2 := BA_9.out.cell 2
      have cBA3 := BA_9.out.cell 3
      have cBB0 := BB_9.out.cell 0
      have cBB1 := BB_9.out.cell 1
      have cBB2 := BB_9.out.cell 2
      have cBB3 := BB_9.out.cell 3
      go_wp2_with fail
      clear cBA0 cBA1 cBA2 cBA3 cBB0 cBB1 cBB2 cBB3
      go_ret
      exact ⟨rfl, HS9.out.1⟩
theorem walk (a : Int) (wa : I64 a) (b : Int) (wb : I64 b) (w : World) (hW : Wd w) : Calls Tryd.prog 6 #[.int .i64 a, .int .i64 b] w (IsTrue w) := by
  have HSM := Lib.hid (fun W hW => small_any W hW)
  by_cases h0 : a < 0
  · have d0 := decide_eq_true h0
    have HS0 := Lib.hid (show Below w.heap.size w w ∧ Wd w from ⟨below_self w, hW⟩)
    clear hW wa wb h0
    go_enter Tryd.func6, Tryd.ntmps6
    go_wp2_with fail
    refine (HSM.out _ HS0.out.2).mono ?_
    rintro e w1 ⟨rfl, hb⟩
    have HS1 := Lib.hid (⟨below_trans HS0.out.1 hb, HS0.out.2.below hb⟩ : _ ∧ _)
    clear hb HS0 
    go_wp2_with fail
    go_ret
    exact ⟨rfl, HS1.out.1⟩
  · by_cases h1 : b < a
    · have d0 := decide_eq_false h0
      have d1 := decide_eq_true h1
      have HS0 := Lib.hid (show Below w.heap.size w w ∧ Wd w from ⟨below_self w, hW⟩)
      clear hW wa wb h0 h1
      go_enter Tryd.func6, Tryd.ntmps6
      go_wp2_with fail
      refine (HSM.out _ HS0.out.2).mono ?_
      rintro e w1 ⟨rfl, hb⟩
      have HS1 := Lib.hid (⟨below_trans HS0.out.1 hb, HS0.out.2.below hb⟩ : _ ∧ _)
      clear hb HS0 
      go_wp2_with fail
      go_ret
      exact ⟨rfl, HS1.out.1⟩
    · by_cases h2 : 16777216 < b
      · have d0 := decide_eq_false h0
        have d1 := decide_eq_false h1
        have d2 := decide_eq_true h2
        have HS0 := Lib.hid (show Below w.heap.size w w ∧ Wd w from ⟨below_self w, hW⟩)
        clear hW wa wb h0 h1 h2
        go_enter Tryd.func6, Tryd.ntmps6
        go_wp2_with fail
        refine (HSM.out _ HS0.out.2).mono ?_
        rintro e w1 ⟨rfl, hb⟩
        have HS1 := Lib.hid (⟨below_trans HS0.out.1 hb, HS0.out.2.below hb⟩ : _ ∧ _)
        clear hb HS0 
        go_wp2_with fail
        go_ret
        exact ⟨rfl, HS1.out.1⟩
      · obtain ⟨an, rfl⟩ : ∃ t : Nat, a = (t : Int) := ⟨a.toNat, by omega⟩
        obtain ⟨bn, rfl⟩ : ∃ t : Nat, b = (t : Int) := ⟨b.toNat, by omega⟩
        exact main an bn (by omega) (by omega) w hW
set_option maxRecDepth 100000 in
theorem lifted (os : Os) (started : os.Started) (H : Type) (enc : TypeId × Value → H) :
    ReturnsInHanded {} Tryd.checked os 6 .any (fun w args => (Rows.dateOrderSpec.pre enc Tryd.prog Tryd.f6 Rows.dateOrderRow.domain false w args ∧ laidMetH Tryd.prog Rows.dateOrderRow.laid w) ∧ sizedMet enc Tryd.prog Tryd.f6 (OpenSpec.ofChange Rows.dateOrderSpec) false w args)
      (Rows.dateOrderSpec.post enc Tryd.prog Tryd.f6 false true false false) := by
  refine returns_both (C := Tryd.checked) (X := fun w _ => laidMetH Tryd.prog Rows.dateOrderRow.laid w) (fun _ _ _ hh h => h.of_heap hh.symm) own started (by kernel_rfl) Tryd.func6
    (ChangeSpec.witness_shaped (enc := enc) (C := Tryd.checked) (os := os) (X := fun w _ => laidMetH Tryd.prog Rows.dateOrderRow.laid w) false (World.laidAll Tryd.prog os Rows.dateOrderRow.laid) #[.int .i64 0, .int .i64 0] 8 (World.laidAll_os _ _ _)
      (World.shaped_of_ZipB (by kernel_rfl) (by kernel_rfl)) (by kernel_rfl) (by kernel_rfl) (by kernel_rfl)
      (by rw [MakeChecks.laidMetH_plain _ _ _ (by kernel_rfl)]; exact laidMet_laidAll _ (by kernel_rfl) (by kernel_rfl))) ?_
  intro W base args ds gs before hval0 hW hsh hX hsz0
  have hsz : (DataW.weightsEach Tryd.prog (Tryd.f6.params.toList ++ Rows.dateOrderSpec.plain.varTypes Tryd.prog) (ds ++ gs)).all (· ≤ reachBytes) = true := hsz0
  clear hsz0
  have hWd : Wd W := wd_of_laid hX
  have hval : ∀ (j : Nat) t v, Tryd.f6.params[j]? = some t → args[j]? = some v → Value.okWide Tryd.prog W .any base t v := hval0
  have hW' := hW
  obtain ⟨p, q, hA0, hV, rfl, hfz, hnd⟩ := hW
  have hA : DataW.TrodAll enc Tryd.prog W 0 (fun _ => true) true Tryd.f6.params.toList args.toList ds p := hA0
  rw [Tryd.params6] at hA hval hsz
  obtain ⟨v0, vs0, d0, ds0, p0, q0, hargs, rfl, rfl, h0, r0⟩ := trodAll_cons hA
  obtain ⟨v1, vs1, d1, ds1, p1, q1, rfl, rfl, rfl, h1, r1⟩ := trodAll_cons r0
  obtain ⟨rfl, rfl, rfl⟩ := trodAll_nil r1
  obtain rfl : args = #[v0, v1] := by cases args; simp_all
  obtain ⟨rfl, rfl⟩ := trodVars_none hV
  obtain ⟨a0, rfl, rfl, rfl, w0⟩ := open_int Tryd.underlying3 (hval 0 3 v0 rfl rfl) h0
  obtain ⟨a1, rfl, rfl, rfl, w1⟩ := open_int Tryd.underlying3 (hval 1 3 v1 rfl rfl) h1
  clear hA0 hval0
  simp only [List.append_nil] at hW'
  refine (walk a0 (i64_of_wf w0) a1 (i64_of_wf w1) W hWd).mono fun e W' ⟨he, hb⟩ => ?_
  subst he
  exact ⟨_, rfl, _, _, _, [], _, [], hW', (trodAll_cons_mk (shut_bool Tryd.underlying4 _) trodAll_mk0), (trodAll_cons_mk (shut_int Tryd.underlying3 w0) (trodAll_cons_mk (shut_int Tryd.underlying3 w1) trodAll_mk0)), rfl, hb.frame _, fun h => by cases h⟩

theorem over : Rows.DateOrderSaid :=
  OpenClaim.holds_of_wide 6 Tryd.f6 rfl rfl rfl rfl rfl rfl rfl ⟨rfl, rfl, rfl, rfl, rfl⟩ rfl rfl rfl rfl rfl (by kernel_rfl) Tryd.func6 (by kernel_rfl)
    (of_decide_eq_true (by kernel_rfl)) (by unfold Func.isWrapper; first | (rw [if_pos (by decide +kernel)]; kernel_rfl) | (rw [if_neg (by decide +kernel)]; exact ⟨rfl, rfl⟩))
    (fun os started H enc _ => lifted os started H enc)
theorem proved : Rows.DateOrderCardSaid :=
  Claim7.holds_tied_plain_at .later [] [.data, .data, .data, .sentinel, .sentinel, .data] true Rows.dateOrderCard.stood.harness true over (fun _ h => by cases h) (by kernel_rfl) (fun _ h => by cases h) dateOrder_row_tie rfl ⟨rfl, rfl⟩ (by kernel_rfl) rfl
    (fun f fn hf hfn => by
      obtain rfl : f = 6 := Option.some.inj ((show Tryd.prog.funcNamed "bourne/bournelaw08.DateOrder" = some 6 by kernel_rfl).symm.trans hf) |>.symm
      obtain rfl : fn = Tryd.f6 := (Option.some.inj (Tryd.func6.symm.trans hfn)).symm
      exact ⟨by kernel_rfl, fun j t ht => by
        rw [Tryd.params6] at ht
        have hm : t ∈ [3, 3] := by simpa using Array.mem_of_getElem? ht
        have hall : ([3, 3].all fun u => !Tryd.prog.wantsStandIn u) = true := by kernel_rfl
        exact (show Tryd.prog.wantsStandIn t = false by simpa using List.all_eq_true.1 hall t hm)⟩)
    (by kernel_rfl)
end Go.Proofs.YtanjkjendppigaaDoor.dateOrder
