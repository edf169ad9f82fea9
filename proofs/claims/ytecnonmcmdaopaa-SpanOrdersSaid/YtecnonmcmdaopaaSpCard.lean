/- How a law's arguments that are spans are read. Conditions: those of the row's own form. -/
import Derived.Test.YtecnonmcmdaopaaSpSmall
import Derived.Test.YtecnonmcmdaopaaRows
import Derived.Lib.SmallJoins
import Derived.OpenShut
import Derived.SizedLaws
import Derived.ProofKit
namespace Go.Proofs.Ytecnonmcmdaopaa.Sp
open Go.ChangeShapes Go.WideShapes Go.ChangeAt Go.RowKit Go.Joins Go.Deep
set_option linter.unusedVariables false
set_option maxRecDepth 100000
theorem own : ownKnob Try.prog.godebug = none := by kernel_rfl
theorem laidOut : laidOutB Try.prog = true := by kernel_rfl
theorem spFields : ∃ f0 f1 : Field, Try.prog.underlying 23 = some (.struct #[f0, f1]) ∧ f0.type = 3 ∧ f1.type = 3 ∧ oneCellFields Try.prog #[f0, f1] = true := ⟨_, _, Try.underlying23, rfl, rfl, by kernel_rfl⟩
theorem cellsSp : Try.prog.cellsOf 23 = 2 := by kernel_rfl
section
variable {H : Type} {enc : TypeId × Value → H}
/-- An argument that is a span: what it is, and that it reads so in every world. -/
theorem open_span {w : World} {r : Reach} {b0 base : Nat} {spare : Nat → Bool} {held : Bool} {v : Value} {d : DataW H} {p : List MemPlace} (hv : Value.okWide Try.prog w r b0 23 v) (h : DataW.Trod enc Try.prog w base spare held 23 v d p) :
    ∃ y m : Int, v = sp y m ∧ I64 y ∧ I64 m ∧ p = [] ∧ ∀ (w' : World) (base' : Nat) (spare' : Nat → Bool) (held' : Bool), DataW.Trod enc Try.prog w' base' spare' held' 23 v d p := by
  obtain ⟨f0, f1, hs, t0, t1, hone⟩ := spFields
  obtain ⟨v0, v1, y0, y1, n, rfl, rfl, rfl, h0, h1⟩ := open_agg2 hs hone cellsSp hv h
  obtain ⟨a, e0, z0, k0⟩ := DataW.trod_int (by rw [t0]; exact Try.underlying3) h0
  obtain ⟨b, e1, z1, k1⟩ := DataW.trod_int (by rw [t1]; exact Try.underlying3) h1
  obtain rfl : v0 = .int .i64 a := by simpa using e0
  obtain rfl : v1 = .int .i64 b := by simpa using e1
  subst z0 z1
  refine ⟨a, b, rfl, i64_of_wf k0, i64_of_wf k1, rfl, fun w' base' spare' held' => ?_⟩
  exact shut_agg2 (enc := enc) (w := w') (base := base') (spare := spare') (held := held') hs hone cellsSp
    ⟨1, trod_int_mk (enc := enc) (w := w') (base := base') (spare := spare') (held := held') 0 (by rw [t0]; exact Try.underlying3) k0⟩
    ⟨1, trod_int_mk (enc := enc) (w := w') (base := base') (spare := spare') (held := held') 0 (by rw [t1]; exact Try.underlying3) k1⟩
end
theorem add_b (a b : Int) (ha : I64 a) (hb : I64 b) (w : World) : Calls Try.prog 29 #[.int .i64 a, .int .i64 b] w (Ret (.int .i64 (lim (a + b))) w) := (add_any a b ha hb w).mono fun e w' h => ⟨h.1, by rw [← h.2]; exact below_self _⟩
theorem sub_b (a b : Int) (ha : I64 a) (hb : I64 b) (w : World) : Calls Try.prog 30 #[.int .i64 a, .int .i64 b] w (Ret (.int .i64 (lim (a - b))) w) := (sub_any a b ha hb w).mono fun e w' h => ⟨h.1, by rw [← h.2]; exact below_self _⟩
/-- A call whose contract changes only new memory keeps whatever new memory keeps. -/
theorem s_call {f : FuncId} {args : Array Value} {v : Value} {S : World → Prop} (hs : ∀ W W', Below W.heap.size W W' → S W → S W') (h : ∀ W, Calls Try.prog f args W (Ret v W)) (W : World) (hS : S W) : Calls Try.prog f args W fun e w' => e = .returned v ∧ S w' :=
  (h W).mono fun e w' hh => ⟨hh.1, hs W w' hh.2 hS⟩
/-- The two cells of a span at block g. -/
def Cl (w : World) (g : Nat) (x y : Int) : Prop := w.cell? ⟨g, 0, none⟩ = some (.int .i64 x) ∧ w.cell? ⟨g, 1, none⟩ = some (.int .i64 y)
theorem Cl.at {w : World} {g : Nat} {x y : Int} (h : w.heap.size = g) : Cl (w.alloc (.cells #[.int .i64 x, .int .i64 y] 23)) g x y :=
  ⟨(Blk.at (t := 23) (cs := #[.int .i64 x, .int .i64 y]) h).cell 0, (Blk.at (t := 23) (cs := #[.int .i64 x, .int .i64 y]) h).cell 1⟩
theorem Cl.below {w w' : World} {g : Nat} {x y : Int} (h : Cl w g x y) (hb : Below w.heap.size w w') : Cl w' g x y := ⟨cell_below hb h.1, cell_below hb h.2⟩
theorem Cl.alloc {w : World} {g : Nat} {x y : Int} (h : Cl w g x y) (o : Obj) : Cl (w.alloc o) g x y := h.below (below_alloc w o)
abbrev IsTrue (w : World) : Ending → World → Prop := Ret (.bool true) w
end Go.Proofs.Ytecnonmcmdaopaa.Sp
