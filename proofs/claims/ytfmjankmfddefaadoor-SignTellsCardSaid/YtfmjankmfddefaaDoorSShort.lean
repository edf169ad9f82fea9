/- bournelaw05.short: whether three texts have at most 2000 bytes together. Conditions: the texts are within the model's reach. -/
import Derived.Test.YtfmjankmfddefaaDoorSSmall
namespace Go.Proofs.YtfmjankmfddefaaDoor.Sg
set_option linter.unusedVariables false
open Go.RowKit Gp Gp.Grp Wr.Wm
open Dg (sv)

theorem wrap_len (h : Nat) (hh : h ≤ 1000000000000000) : wrap64 (h : Int) = (h : Int) := by unfold wrap64; omega
theorem short_walk (S T U : ByteArray) (b : Bool) (a c d e f : Nat) (hS : S.size = a) (hT : T.size = c) (hU : U.size = d) (he : a + c = e) (hf : e + d = f) (hb : decide ((f : Int) ≤ (2000 : Int)) = b) (hl : f ≤ 1000000000000000) (w : World) :
    Calls Tryd.prog 9 #[.string S, .string T, .string U] w (Ret (.bool b) w) := by
  have m1 : (a : Int) + (c : Int) = (e : Int) := by omega
  have m2 : wrap64 (e : Int) = (e : Int) := wrap_len e (by omega)
  have m3 : (e : Int) + (d : Int) = (f : Int) := by omega
  have m4 : wrap64 (f : Int) = (f : Int) := wrap_len f hl
  clear he hf hl
  go_enter Tryd.func9, Tryd.ntmps9
  go_wp2_with fail
  go_ret
  exact ⟨rfl, Below.refl _ _⟩
theorem short_any (S T U : ByteArray) (hS : S.size ≤ 140737488355328) (hT : T.size ≤ 140737488355328) (hU : U.size ≤ 140737488355328) (w : World) :
    Calls Tryd.prog 9 #[.string S, .string T, .string U] w (Ret (.bool (decide (S.size + T.size + U.size ≤ 2000))) w) := by
  refine short_walk S T U _ S.size T.size U.size _ _ rfl rfl rfl rfl rfl ?_ (by omega) w
  by_cases h : S.size + T.size + U.size ≤ 2000
  · rw [decide_eq_true h]; exact decide_eq_true (by omega)
  · rw [decide_eq_false h]; exact decide_eq_false (by omega)
theorem short_t (S T U : ByteArray) (h : S.size + T.size + U.size ≤ 2000) (w : World) : Calls Tryd.prog 9 #[.string S, .string T, .string U] w (Ret (.bool true) w) := by
  have := short_any S T U (by omega) (by omega) (by omega) w
  rwa [decide_eq_true h] at this
theorem short_f (S T U : ByteArray) (h : ¬ (S.size + T.size + U.size ≤ 2000)) (hS : S.size ≤ 140737488355328) (hT : T.size ≤ 140737488355328) (hU : U.size ≤ 140737488355328) (w : World) : Calls Tryd.prog 9 #[.string S, .string T, .string U] w (Ret (.bool false) w) := by
  have := short_any S T U hS hT hU w
  rwa [decide_eq_false h] at this
end Go.Proofs.YtfmjankmfddefaaDoor.Sg
