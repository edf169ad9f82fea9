/- bourneref03.constants and order: the reference's tables. Conditions: the round is from 0 to 9. -/
import Derived.Test.YtfmjankmfddefaaDoorGBlake
namespace Go.Proofs.YtfmjankmfddefaaDoor.Dg
open Go.RowKit Gm
set_option linter.unusedVariables false

def il (l : List Int) : Array Value := (l.map (Value.int .i64)).toArray
theorem il_at (l : List Int) (i : Nat) (h : i < l.length) : (il l)[i]? = some (.int .i64 (l.getD i 0)) := by
  simp [il, List.getD_eq_getElem?_getD, h]
theorem consts_any (w : World) : Calls Tryd.prog 63 #[] w fun e w' => e = .returned (.slice (some ⟨w.heap.size, 0, none⟩) 8 8) ∧ w' = w.alloc (.cells (wl startL) 58) := by
  go_enter Tryd.func63, Tryd.ntmps63
  go_wp2_with fail
  go_ret
  exact ⟨rfl, rfl⟩
set_option maxHeartbeats 4000000 in
set_option maxRecDepth 100000 in
theorem order_any (r : Nat) (hr : r < 10) (w : World) : Calls Tryd.prog 77 #[.int .i64 r] w fun e w' => e = .returned (.slice (some ⟨w.heap.size, 0, none⟩) 16 16) ∧ w' = w.alloc (.cells (il (ordersL.getD r [])) 3) := by
  have hc : r = 0 ∨ r = 1 ∨ r = 2 ∨ r = 3 ∨ r = 4 ∨ r = 5 ∨ r = 6 ∨ r = 7 ∨ r = 8 ∨ r = 9 := by omega
  rcases hc with rfl | rfl | rfl | rfl | rfl | rfl | rfl | rfl | rfl | rfl
  all_goals
    clear hr
    go_enter Tryd.func77, Tryd.ntmps77
    go_wp2_with fail
    go_ret
    exact ⟨rfl, rfl⟩
end Go.Proofs.YtfmjankmfddefaaDoor.Dg
