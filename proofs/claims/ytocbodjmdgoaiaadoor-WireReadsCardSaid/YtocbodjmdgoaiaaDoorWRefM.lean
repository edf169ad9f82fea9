/- The reference's reader reads the byte before an element of a list, or after the last one. Conditions: the text has at most 2^20 bytes; the reader lies in a block of its own. -/
import Derived.Test.YtocbodjmdgoaiaaDoorWRefR
namespace Go.Proofs.YtocbodjmdgoaiaaDoor
open Go.RowKit Wm
set_option linter.unusedVariables false

set_option maxRecDepth 100000 in
theorem qmore_empty {w : World} {r : Nat} {f : Bool} (h : Rdq w r [] f) : Calls Tryd.prog 52 #[.pointer (some ⟨r, 0, none⟩)] w fun e w' => e = .returned (.bool false) ∧ Rdq w' r [] true ∧ w.grownBy w' (some r) := by
  obtain ⟨c0, c1⟩ := h.cells
  have e1 : (sv []).toList.isEmpty = true := by rw [sv_toList]; rfl
  have F := Lib.hid (qfail h)
  clear h
  generalize sv [] = S at *
  go_enter Tryd.func52, Tryd.ntmps52
  go_wp2_with fail
  refine F.out.mono ?_
  rintro e w1 ⟨rfl, h1, h2⟩
  have H1 := Lib.hid h1
  have H2 := Lib.hid h2
  clear h1 h2
  go_wp2_with fail
  go_ret
  exact ⟨rfl, H1.out, H2.out⟩
set_option maxHeartbeats 1000000 in
set_option maxRecDepth 100000 in
theorem qmore_big {w : World} {r : Nat} {f : Bool} (c : UInt8) (t : Bs) (hs : t.length ≤ 1048576) (hc : 1 < c.toNat) (h : Rdq w r (c :: t) f) : Calls Tryd.prog 52 #[.pointer (some ⟨r, 0, none⟩)] w fun e w' => e = .returned (.bool false) ∧ Rdq w' r [] true ∧ w.grownBy w' (some r) := by
  obtain ⟨c0, c1⟩ := h.cells
  have e1 := sv_cons_ne c t
  have hsz : (sv (c :: t)).size = t.length + 1 := rfl
  have h0 : 0 < (sv (c :: t)).size := by rw [hsz]; omega
  have hg : ((sv (c :: t))[0]).toNat = c.toNat := by rw [sv_get]; rfl
  have d : decide ((1 : Int) < (c.toNat : Int)) = true := decide_eq_true (by omega)
  have F := Lib.hid (qfail h)
  clear h
  have hlt := c.toNat_lt
  clear hsz
  generalize sv (c :: t) = S at *
  generalize c.toNat = a at *
  go_enter Tryd.func52, Tryd.ntmps52
  go_wp2_with fail
  refine F.out.mono ?_
  rintro e w1 ⟨rfl, h1, h2⟩
  have H1 := Lib.hid h1
  have H2 := Lib.hid h2
  clear h1 h2
  go_wp2_with fail
  go_ret
  exact ⟨rfl, H1.out, H2.out⟩
set_option maxHeartbeats 1000000 in
set_option maxRecDepth 100000 in
theorem qmore_at {w : World} {r : Nat} {f : Bool} (c : UInt8) (t : Bs) (hs : t.length ≤ 1048576) (hc : c = 0 ∨ c = 1) (h : Rdq w r (c :: t) f) : Calls Tryd.prog 52 #[.pointer (some ⟨r, 0, none⟩)] w fun e w' => e = .returned (.bool (c == 1)) ∧ Rdq w' r t f ∧ w.grownBy w' (some r) := by
  obtain ⟨c0, c1⟩ := h.cells
  have f0 := Blk.frozen h 0
  have e1 := sv_cons_ne c t
  have hsz : (sv (c :: t)).size = t.length + 1 := rfl
  have h0 : 0 < (sv (c :: t)).size := by rw [hsz]; omega
  have h1 : 1 ≤ (sv (c :: t)).size := h0
  have hsl : (sv (c :: t)).size ≤ 1048577 := by rw [hsz]; omega
  have hx := drop_sv (c :: t) 1
  have HX := Lib.hid hx
  have HB := Lib.hid h
  rcases hc with rfl | rfl
  · have hg : ((sv (0 :: t))[0]).toNat = 0 := by rw [sv_get]; rfl
    clear h hsz hx
    generalize sv (0 :: t) = S at *
    go_enter Tryd.func52, Tryd.ntmps52
    go_wp2_with fail
    go_ret
    refine ⟨rfl, ?_, only_setCell (only_refl _ _) 0 _⟩
    have := Blk.set_ HB.out 0 (.string (S.extract 1 S.size))
    rw [HX.out] at this ⊢
    exact this
  · have hg : ((sv (1 :: t))[0]).toNat = 1 := by rw [sv_get]; rfl
    clear h hsz hx
    generalize sv (1 :: t) = S at *
    go_enter Tryd.func52, Tryd.ntmps52
    go_wp2_with fail
    go_ret
    refine ⟨rfl, ?_, only_setCell (only_refl _ _) 0 _⟩
    have := Blk.set_ HB.out 0 (.string (S.extract 1 S.size))
    rw [HX.out] at this ⊢
    exact this
end Go.Proofs.YtocbodjmdgoaiaaDoor
