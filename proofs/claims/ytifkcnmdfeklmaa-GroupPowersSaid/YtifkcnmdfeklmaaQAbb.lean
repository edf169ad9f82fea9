/- Short names for what the calls of layer 4 return, as the walks of its statements take them. Conditions: none. -/
import Derived.Test.YtifkcnmdfeklmaaQMem
namespace Go.Proofs.Ytifkcnmdfeklmaa
set_option linter.unusedVariables false
open Go.RowKit Grp
abbrev InP (y : Int) (b : Bool) : Prop := ∀ W, Calls Try.prog 15 #[.int .i64 y] W fun e w' => e = .returned (.bool b) ∧ ∃ n, w' = W.drewN n
abbrev MulP (a b c : Int) : Prop := ∀ W, Calls Try.prog 11 #[.int .i64 a, .int .i64 b] W fun e w' => e = .returned (.int .i64 c) ∧ ∃ n, w' = W.drewN n
abbrev ExpP (a b c : Int) : Prop := ∀ W, Calls Try.prog 13 #[.int .i64 a, .int .i64 b] W fun e w' => e = .returned (.int .i64 c) ∧ ∃ n, w' = W.drewN n
abbrev InvP (a b : Int) (c : Bool) : Prop := ∀ W, Calls Try.prog 9 #[.int .i64 a] W fun e w' => e = .returned (.tuple #[.int .i64 b, .bool c]) ∧ ∃ n, w' = W.drewN n
abbrev MulqP (a b c : Int) : Prop := ∀ W, Calls Try.prog 21 #[.int .i64 a, .int .i64 b] W fun e w' => e = .returned (.int .i64 c) ∧ ∃ n, w' = W.drewN n
abbrev AddqP (a b c : Int) : Prop := ∀ W, Calls Try.prog 17 #[.int .i64 a, .int .i64 b] W fun e w' => e = .returned (.int .i64 c) ∧ w' = W
abbrev SubqP (a b c : Int) : Prop := ∀ W, Calls Try.prog 19 #[.int .i64 a, .int .i64 b] W fun e w' => e = .returned (.int .i64 c) ∧ w' = W
theorem i64_rq (a : Int) : I64 (rq a) := by have := rq_bd a; unfold I64; omega
end Go.Proofs.Ytifkcnmdfeklmaa
