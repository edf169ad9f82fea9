/- The reference's number of two digits. Conditions: a string of two bytes. -/
import Derived.Test.YtanjkjendppigaaDoorDParse
namespace Go.Proofs.YtanjkjendppigaaDoor.Dy
open Go.RowKit Cal
set_option linter.unusedVariables false
set_option maxRecDepth 100000

def rnum (a b : UInt8) : Int := if a.toNat < 48 ∨ 57 < a.toNat ∨ b.toNat < 48 ∨ 57 < b.toNat then -1 else 10 * ((a.toNat : Int) - 48) + ((b.toNat : Int) - 48)
theorem sv_get (l : Bs) (i : Nat) (h : i < (sv l).size) : (sv l)[i]'h = l.getD i 0 := by
  show (sv l).data[i]'h = _
  have hl : i < l.length := h
  simp [sv, List.getD_eq_getElem?_getD, List.getElem?_eq_getElem hl]
theorem rnumber_any (a b : UInt8) (w : World) : Calls Tryd.prog 32 #[.string (sv [a, b])] w fun e w' => e = .returned (.int .i64 (rnum a b)) ∧ Below w.heap.size w w' := by
  have hz : (sv [a, b]).size = 2 := rfl
  have hk0 : 0 < (sv [a, b]).size := by omega
  have hk1 : 1 < (sv [a, b]).size := by omega
  have g0 : (sv [a, b])[0]'hk0 = a := sv_get [a, b] 0 _
  have g1 : (sv [a, b])[1]'hk1 = b := sv_get [a, b] 1 _
  obtain ⟨r, hr⟩ : ∃ r, rnum a b = r := ⟨_, rfl⟩
  have hr' : r = if a.toNat < 48 ∨ 57 < a.toNat ∨ b.toNat < 48 ∨ 57 < b.toNat then -1 else 10 * ((a.toNat : Int) - 48) + ((b.toNat : Int) - 48) := by rw [← hr]; rfl
  have ha := a.toNat_lt
  have hb := b.toNat_lt
  rw [hr]
  generalize sv [a, b] = S at *
  clear hr
  by_cases h1 : a.toNat < 48
  · have hx : r = -1 := by rw [hr', if_pos (Or.inl h1)]
    have d1 : decide ((a.toNat : Int) < 48) = true := decide_eq_true (by omega)
    subst hx
    clear hr' h1 ha hb
    go_enter Tryd.func32, Tryd.ntmps32
    go_wp2_with fail
    go_ret
    exact ⟨rfl, below_self _⟩
  · have d1 : decide ((a.toNat : Int) < 48) = false := decide_eq_false (by omega)
    by_cases h2 : 57 < a.toNat
    · have hx : r = -1 := by rw [hr', if_pos (Or.inr (Or.inl h2))]
      have d2 : decide (57 < (a.toNat : Int)) = true := decide_eq_true (by omega)
      subst hx
      clear hr' h1 h2 ha hb
      go_enter Tryd.func32, Tryd.ntmps32
      go_wp2_with fail
      go_ret
      exact ⟨rfl, below_self _⟩
    · have d2 : decide (57 < (a.toNat : Int)) = false := decide_eq_false (by omega)
      by_cases h3 : b.toNat < 48
      · have hx : r = -1 := by rw [hr', if_pos (Or.inr (Or.inr (Or.inl h3)))]
        have d3 : decide ((b.toNat : Int) < 48) = true := decide_eq_true (by omega)
        subst hx
        clear hr' h1 h2 h3 ha hb
        go_enter Tryd.func32, Tryd.ntmps32
        go_wp2_with fail
        go_ret
        exact ⟨rfl, below_self _⟩
      · have d3 : decide ((b.toNat : Int) < 48) = false := decide_eq_false (by omega)
        by_cases h4 : 57 < b.toNat
        · have hx : r = -1 := by rw [hr', if_pos (Or.inr (Or.inr (Or.inr h4)))]
          have d4 : decide (57 < (b.toNat : Int)) = true := decide_eq_true (by omega)
          subst hx
          clear hr' h1 h2 h3 h4 ha hb
          go_enter Tryd.func32, Tryd.ntmps32
          go_wp2_with fail
          go_ret
          exact ⟨rfl, below_self _⟩
        · have d4 : decide (57 < (b.toNat : Int)) = false := decide_eq_false (by omega)
          have hx : r = 10 * ((a.toNat : Int) - 48) + ((b.toNat : Int) - 48) := by rw [hr', if_neg (by omega)]
          have HX := Lib.hid hx
          obtain ⟨x, hxa⟩ : ∃ x : Int, (a.toNat : Int) - 48 = x := ⟨_, rfl⟩
          obtain ⟨y, hyb⟩ : ∃ y : Int, (b.toNat : Int) - 48 = y := ⟨_, rfl⟩
          have HXY := Lib.hid (show 0 ≤ x ∧ x < 10 ∧ 0 ≤ y ∧ y < 10 ∧ r = 10 * x + y by omega)
          have wx : IntKind.u8.wrap ((a.toNat : Int) - 48) = x := by show ((a.toNat : Int) - 48) % 256 = x; omega
          have wy : IntKind.u8.wrap ((b.toNat : Int) - 48) = y := by show ((b.toNat : Int) - 48) % 256 = y; omega
          have wx2 : ((a.toNat : Int) - 48) % 256 = x := by omega
          have wy2 : ((b.toNat : Int) - 48) % 256 = y := by omega
          clear hr' h1 h2 h3 h4 ha hb hx hxa hyb
          go_enter Tryd.func32, Tryd.ntmps32
          go_wp2_with fail
          go_quiet (fail)
          go_wp2_with fail
          --GG
          go_ret
          refine ⟨ret_i ?_, below_drewN _ _⟩
          have h := HXY.out
          rw [h.2.2.2.2]
end Go.Proofs.YtanjkjendppigaaDoor.Dy
