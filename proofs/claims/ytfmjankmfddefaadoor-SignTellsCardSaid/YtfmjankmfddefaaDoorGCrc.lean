/- The steps of the checksum, and the bytes of a text. Conditions: those of each lemma. -/
import Derived.Test.YtfmjankmfddefaaDoorGWords
namespace Go.Proofs.YtfmjankmfddefaaDoor.Dg
open Go.RowKit Gm
set_option linter.unusedVariables false

theorem reg_take (x : Nat) (s : Bs) (k : Nat) (h : k < s.length) : reg x (s.take (k + 1)) = feed (reg x (s.take k)) (s.getD k 0) := by
  have e : s.getD k 0 = s[k] := by rw [List.getD_eq_getElem?_getD, List.getElem?_eq_getElem h]; rfl
  have e1 : ∀ (y : Nat) (b : UInt8), reg y [b] = feed y b := fun _ _ => rfl
  rw [List.take_succ_eq_append_getElem h, reg_append, e, e1]
theorem steps_succ (k x : Nat) : steps (k + 1) x = stp (steps k x) := by
  induction k generalizing x with
  | zero => rfl
  | succ k ih => show steps (k + 1) (stp x) = _; rw [ih]; rfl
theorem sv_get (s : Bs) (k : Nat) (h : k < (sv s).size) : (sv s)[k] = s.getD k 0 := by
  have h' : k < s.length := h
  have e : (sv s)[k] = s[k] := by
    show (s.toArray)[k] = s[k]
    rw [List.getElem_toArray]
  refine e.trans ?_
  rw [List.getD_eq_getElem?_getD, List.getElem?_eq_getElem h']
  rfl
theorem step_odd {x : Nat} (h : x % 2 = 1) : stp x = (x / 2) ^^^ 33800 := by unfold stp; rw [if_pos h]
theorem step_even {x : Nat} (h : x % 2 = 0) : stp x = x / 2 := by unfold stp; rw [if_neg (by omega)]

end Go.Proofs.YtfmjankmfddefaaDoor.Dg
