/- The examples of the document, which every law of digest asks first. Conditions: the listed variables hold what they are laid with. -/
import Derived.Test.YtobhbdaenlkodaaDoorGEval
import Derived.Test.YtobhbdaenlkodaaDoorGShort
import Derived.Test.YtobhbdaenlkodaaDoorGUnhex
namespace Go.Proofs.YtobhbdaenlkodaaDoor
open Go.RowKit Gm
set_option linter.unusedVariables false

theorem eq_text (l : Bs) : ((sv l).toList == l) = true := by rw [sv_toList]; exact beq_self_eq_true _
set_option maxHeartbeats 2000000 in
set_option maxRecDepth 100000 in
theorem small_any (w : World) (hT : Tb w) : Calls Tryd.prog 9 #[] w fun e w' => e = .returned (.bool true) ∧ Below w.heap.size w w' := by
  have HT := Lib.hid hT
  have U1 := Lib.hid (fun W => unhex_any [48, 65] (by decide) W)
  have U2 := Lib.hid (fun W => unhex_any [48, 97] (by decide) W)
  rw [un_0A] at U1
  rw [un_0a] at U2
  have S1 := Lib.hid (fun W (h : Tb W) => sum_any [97, 98, 99] (by decide) W h)
  have S2 := Lib.hid (fun W (h : Tb W) => sum_any [] (by decide) W h)
  have X1 := Lib.hid (fun W => hex_any (sums [97, 98, 99]) (by rw [sums_length]; decide) W)
  have X2 := Lib.hid (fun W => hex_any (sums []) (by rw [sums_length]; decide) W)
  rw [hx_abc] at X1
  rw [hx_nil] at X2
  have C1 := Lib.hid (fun W => crc_any [49, 50, 51, 52, 53, 54, 55, 56, 57] (by decide) W)
  have C2 := Lib.hid (fun W => crc_any [] (by decide) W)
  rw [cr_19] at C1
  rw [cr_nil] at C2
  obtain ⟨A, hA⟩ : ∃ A, sums [97, 98, 99] = A := ⟨_, rfl⟩
  obtain ⟨B, hB⟩ : ∃ A, sums [] = A := ⟨_, rfl⟩
  rw [hA] at S1 X1
  rw [hB] at S2 X2
  clear hA hB hT
  have b1 : ((sv [53, 48, 56, 99, 53, 101, 56, 99, 51, 50, 55, 99, 49, 52, 101, 50, 101, 49, 97, 55, 50, 98, 97, 51, 52, 101, 101, 98, 52, 53, 50, 102, 51, 55, 52, 53, 56, 98, 50, 48, 57, 101, 100, 54, 51, 97, 50, 57, 52, 100, 57, 57, 57, 98, 52, 99, 56, 54, 54, 55, 53, 57, 56, 50]).toList == [53, 48, 56, 99, 53, 101, 56, 99, 51, 50, 55, 99, 49, 52, 101, 50, 101, 49, 97, 55, 50, 98, 97, 51, 52, 101, 101, 98, 52, 53, 50, 102, 51, 55, 52, 53, 56, 98, 50, 48, 57, 101, 100, 54, 51, 97, 50, 57, 52, 100, 57, 57, 57, 98, 52, 99, 56, 54, 54, 55, 53, 57, 56, 50]) = true := eq_text _
  have b2 : ((sv [54, 57, 50, 49, 55, 97, 51, 48, 55, 57, 57, 48, 56, 48, 57, 52, 101, 49, 49, 49, 50, 49, 100, 48, 52, 50, 51, 53, 52, 97, 55, 99, 49, 102, 53, 53, 98, 54, 52, 56, 50, 99, 97, 49, 97, 53, 49, 101, 49, 98, 50, 53, 48, 100, 102, 100, 49, 101, 100, 48, 101, 101, 102, 57]).toList == [54, 57, 50, 49, 55, 97, 51, 48, 55, 57, 57, 48, 56, 48, 57, 52, 101, 49, 49, 49, 50, 49, 100, 48, 52, 50, 51, 53, 52, 97, 55, 99, 49, 102, 53, 53, 98, 54, 52, 56, 50, 99, 97, 49, 97, 53, 49, 101, 49, 98, 50, 53, 48, 100, 102, 100, 49, 101, 100, 48, 101, 101, 102, 57]) = true := eq_text _
  have b3 : ((sv [10]).toList == [10]) = true := eq_text _
  go_enter Tryd.func9, Tryd.ntmps9
  go_wp2_with fail
  refine (U1.out _).mono ?_
  rintro e w1 ⟨rfl, hb1⟩
  have T1 := Lib.hid (HT.out.below hb1 (Nat.le_refl _))
  have B1 := Lib.hid hb1
  clear hb1
  unfold unres
  go_wp2_with fail
  refine (U2.out _).mono ?_
  rintro e w2 ⟨rfl, hb2⟩
  have T2 := Lib.hid (T1.out.below hb2 (Nat.le_refl _))
  have B2 := Lib.hid (below_trans B1.out hb2)
  clear hb2 T1 B1
  unfold unres
  go_wp2_with fail
  refine (S1.out _ T2.out).mono ?_
  rintro e w3 ⟨rfl, hb3⟩
  have T3 := Lib.hid (T2.out.below hb3 (Nat.le_refl _))
  have B3 := Lib.hid (below_trans B2.out hb3)
  clear hb3 T2 B2
  go_wp2_with fail
  refine (X1.out _).mono ?_
  rintro e w4 ⟨rfl, hb4⟩
  have T4 := Lib.hid (T3.out.below hb4 (Nat.le_refl _))
  have B4 := Lib.hid (below_trans B3.out hb4)
  clear hb4 T3 B3
  go_wp2_with fail
  refine (S2.out _ T4.out).mono ?_
  rintro e w5 ⟨rfl, hb5⟩
  have T5 := Lib.hid (T4.out.below hb5 (Nat.le_refl _))
  have B5 := Lib.hid (below_trans B4.out hb5)
  clear hb5 T4 B4
  go_wp2_with fail
  refine (X2.out _).mono ?_
  rintro e w6 ⟨rfl, hb6⟩
  have B6 := Lib.hid (below_trans B5.out hb6)
  clear hb6 T5 B5
  go_wp2_with fail
  refine (C1.out _).mono ?_
  rintro e w7 ⟨rfl, rfl⟩
  go_wp2_with fail
  refine (C2.out _).mono ?_
  rintro e w8 ⟨rfl, rfl⟩
  go_wp2_with fail
  go_ret
  exact ⟨rfl, B6.out⟩
end Go.Proofs.YtobhbdaenlkodaaDoor
