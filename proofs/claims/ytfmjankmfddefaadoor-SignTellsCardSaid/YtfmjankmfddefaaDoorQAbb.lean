/- Short names for what the calls of layer 4 return, as the walks of its statements take them. Conditions: none. -/
import Derived.Test.YtfmjankmfddefaaDoorQMem
namespace Go.Proofs.YtfmjankmfddefaaDoor.Gp
set_option linter.unusedVariables false
open Go.RowKit Grp
abbrev InP (y : Int) (b : Bool) : Prop := ∀ W, Calls Tryd.prog 22 #[.int .i64 y] W fun e w' => e = .returned (.bool b) ∧ ∃ n, w' = W.drewN n
abbrev MulP (a b c : Int) : Prop := ∀ W, Calls Tryd.prog 25 #[.int .i64 a, .int .i64 b] W fun e w' => e = .returned (.int .i64 c) ∧ ∃ n, w' = W.drewN n
abbrev ExpP (a b c : Int) : Prop := ∀ W, Calls Tryd.prog 24 #[.int .i64 a, .int .i64 b] W fun e w' => e = .returned (.int .i64 c) ∧ ∃ n, w' = W.drewN n
abbrev InvP (a b : Int) (c : Bool) : Prop := ∀ W, Calls Tryd.prog 23 #[.int .i64 a] W fun e w' => e = .returned (.tuple #[.int .i64 b, .bool c]) ∧ ∃ n, w' = W.drewN n
abbrev MulqP (a b c : Int) : Prop := ∀ W, Calls Tryd.prog 36 #[.int .i64 a, .int .i64 b] W fun e w' => e = .returned (.int .i64 c) ∧ ∃ n, w' = W.drewN n
abbrev AddqP (a b c : Int) : Prop := ∀ W, Calls Tryd.prog 35 #[.int .i64 a, .int .i64 b] W fun e w' => e = .returned (.int .i64 c) ∧ w' = W
theorem i64_rq (a : Int) : I64 (rq a) := by have := rq_bd a; unfold I64; omega
end Go.Proofs.YtfmjankmfddefaaDoor.Gp
