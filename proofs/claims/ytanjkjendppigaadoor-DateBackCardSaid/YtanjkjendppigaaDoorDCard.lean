/- How a law's arguments are read, and how a law that has been walked becomes its row: the listed variables are handed on. Conditions: those of the row's own form. -/
import Derived.Test.YtanjkjendppigaaDoorDSmall
import Derived.Lib.SmallJoins
import Derived.Lib.LaidU8
import Derived.Stop.LaidErr
import Derived.MakeChecks
import Derived.Test.YtanjkjendppigaaDoorRows
import Derived.Test.YtanjkjendppigaaDoorCards
import Derived.Test.YtanjkjendppigaaDoorTie
import Derived.ProofKit
import Derived.OpenShut
import Derived.LaidMore
import Derived.Lay
import Derived.SevenTiedAt
import Derived.Stop.Joined
import Derived.SizedLaws
import Derived.ChangeSlices
import Derived.SliceStrings
namespace Go.Proofs.YtanjkjendppigaaDoor.Dy
open Go.ChangeShapes Go.WideShapes Go.ChangeAt Go.RowKit Go.Joins Go.Deep
set_option linter.unusedVariables false
set_option maxRecDepth 100000

theorem own : ownKnob Tryd.prog.godebug = none := by kernel_rfl
theorem laidOut : laidOutB Tryd.prog = true := by kernel_rfl
theorem i64_of_wf {n : Int} (h : (Lit.int .i64 n).wf = true) : I64 n := by
  have h1 : IntKind.i64.min = -9223372036854775808 := rfl
  have h2 : IntKind.i64.max = 9223372036854775807 := rfl
  simp only [Lit.wf, Bool.and_eq_true, decide_eq_true_eq] at h
  unfold I64; omega
theorem cellsI : Tryd.prog.cellsOf 3 = 1 := by kernel_rfl
theorem cellsU : Tryd.prog.cellsOf 71 = 1 := by kernel_rfl
theorem cells12 : Tryd.prog.cellsOf 43 = 12 := by kernel_rfl
theorem cells20 : Tryd.prog.cellsOf 95 = 20 := by kernel_rfl
theorem nLen : Tryd.prog.globalNamed "bourne/date.lengths" = some 0 := by kernel_rfl
theorem nErr : Tryd.prog.globalNamed "strconv.ErrSyntax" = some 1 := by kernel_rfl
theorem yLen : (Tryd.prog.globals[0]?).map (·.type) = some 43 := by kernel_rfl
theorem yPow : (Tryd.prog.globals[3]?).map (·.type) = some 95 := by kernel_rfl
theorem yErr : (Tryd.prog.globals[1]?).map (·.type) = some 45 := by kernel_rfl
theorem laid_len_eq : (Rows.laid_bourne_date_lengths : DataW Unit) = Lib.tabData .i64 lens := rfl
theorem laid_pow_eq : (Rows.laid_internal_strconv_uint64pow10 : DataW Unit) = Lib.tabData .u64 Lib.pow10Tab := by rfl
theorem star : "*" ++ "errors.errorString" = "*errors.errorString" := by decide
theorem rowErr (u : TypeId) (h : Tryd.prog.typeName? 3 u = some "*errors.errorString") : u = 91 :=
  typeName_ptr_named (nm := "errors.errorString") (by rw [star]; kernel_rfl) (by kernel_rfl) (by decide) u (by rw [star]; exact h)
theorem cellsE : Tryd.prog.cellsOf 93 = 1 := by kernel_rfl
theorem cellsS : Tryd.prog.cellsOf 9 = 1 := by kernel_rfl
/-- What is listed is what the walks ask. -/
theorem wd_of_laid {W : World} (h : laidMetH Tryd.prog [("math/bits.deBruijn32tab", Rows.laid_math_bits_deBruijn32tab), ("math/bits.deBruijn64tab", Rows.laid_math_bits_deBruijn64tab), ("internal/strconv.uint64pow10", Rows.laid_internal_strconv_uint64pow10), ("strconv.ErrRange", Rows.laid_strconv_ErrRange), ("strconv.ErrSyntax", Rows.laid_strconv_ErrSyntax), ("bourne/date.lengths", Rows.laid_bourne_date_lengths)] W) : Wd W := by
  rw [MakeChecks.laidMetH_plain _ _ _ (by kernel_rfl)] at h
  have h3 := h.tail.tail
  have h5 := h3.tail.tail
  have h6 := h5.tail
  refine ⟨?_, ?_, ?_⟩
  · rw [laid_len_eq] at h6
    have ht := Lib.tabIs_of_head nLen yLen Tryd.underlying43 Tryd.underlying3 cellsI cells12 h6
    intro j v hv
    have hj := (List.getElem?_eq_some_iff.1 hv).1
    rw [ht.cell nLen j hj, List.getD_eq_getElem?_getD, hv]
    rfl
  · rw [laid_pow_eq] at h3
    exact Lib.tabIs_of_head nPow yPow Tryd.underlying95 Tryd.underlying71 cellsU cells20 h3
  · obtain ⟨a, s, hv, _⟩ := laid_sentinel h5 nErr yErr Tryd.underlying45 rowErr Tryd.underlying91 Tryd.underlying93 rfl rfl Tryd.underlying9 cellsE cellsS
    exact ⟨_, _, by simpa using World.var?_cell nErr hv 0⟩
section
variable {H : Type} {enc : TypeId × Value → H}
/-- The wrap of a law's row that lists variables: its contract is handed what is listed. -/
theorem returns_both {a : Assume} {C : Checked} {os : Os} {f : FuncId} {fn : Func} {s : ChangeSpec} {conds : List PathCond} {apart fresh handsOn again : Bool} {X : World → Array Value → Prop}
    (heaps : ∀ (w w' : World) (args : Array Value), w'.heap = w.heap → X w args → X w' args) (own : ownKnob C.prog.godebug = none) (started : os.Started) (noInit : C.prog.inits.idxOf? f = none) (hfn : C.prog.funcs[f]? = some fn)
    (witness : ∃ (w : World) (tape : Tape) (i : Input), w.os = os ∧ (w.forCall tape i).Shaped C.prog ∧ i.vars = [] ∧ Input.okWide C.prog (w.forCall tape i) .any w.heap.size f i ∧
      ((s.pre enc C.prog fn conds apart (w.forCall tape i).memory i.args ∧ X (w.forCall tape i).memory i.args) ∧ sizedMet enc C.prog fn (OpenSpec.ofChange s) apart (w.forCall tape i).memory i.args) ∧ a.holds C.prog (lone (Frame.enter C.prog f i.args .normal) [] (w.forCall tape i)))
    (contract : ∀ (W : World) (base : Nat) (args : Array Value) (ds gs : List (DataW H)) (before : List MemPlace),
      (∀ (j : Nat) t v, fn.params[j]? = some t → args[j]? = some v → Value.okWide C.prog W .any base t v) →
      DataW.Whole enc C.prog fn.params.toList s.vars apart W args.toList ds gs before → W.ShapedOpen C.prog → X W args →
      (DataW.weightsEach C.prog (fn.params.toList ++ s.plain.varTypes C.prog) (ds ++ gs)).all (· ≤ reachBytes) = true →
      Calls C.prog f args W fun e W' => ∃ v, e = .returned v ∧ s.post enc C.prog fn apart fresh handsOn again W args v W') :
    ReturnsInHanded a C os f .any (fun w args => (s.pre enc C.prog fn conds apart w args ∧ X w args) ∧ sizedMet enc C.prog fn (OpenSpec.ofChange s) apart w args) (s.post enc C.prog fn apart fresh handsOn again) := by
  refine returnsInHanded_of_calls own started noInit witness ?_
  intro w tape i _ hsh _ hok hpre _
  obtain ⟨_, _, _, fn', hfn', _, _, _, _, hval⟩ := hok
  obtain rfl : fn' = fn := Option.some.inj (hfn'.symm.trans hfn)
  obtain ⟨⟨⟨ds, gs, before, hw, _⟩, hx⟩, hz⟩ := hpre
  refine (contract (w.forCall tape i) w.heap.size i.args ds gs before hval (DataW.Whole.of_heap (w' := w.forCall tape i) (by rfl) hw) hsh (heaps _ _ _ (by rfl) hx) (hz.weights hw)).mono fun e W' ⟨v, he, hp⟩ => ?_
  subst he
  exact ChangeSpec.post_blind hp
end
theorem reach_le {l : List UInt8} (h : l.length ≤ reachBytes) : l.length ≤ 140737488355328 := Nat.le_of_lt (Nat.lt_of_le_of_lt h (by have := reachBytes_lt; omega))
theorem dateFields : ∃ f0 f1 f2 f3 : Field, Tryd.prog.underlying 23 = some (.struct #[f0, f1, f2, f3]) ∧ f0.type = 3 ∧ f1.type = 3 ∧ f2.type = 3 ∧ f3.type = 3 ∧ oneCellFields Tryd.prog #[f0, f1, f2, f3] = true := ⟨_, _, _, _, Tryd.underlying23, rfl, rfl, rfl, rfl, by kernel_rfl⟩
theorem cellsDate : Tryd.prog.cellsOf 23 = 4 := by kernel_rfl
section
variable {H : Type} {enc : TypeId × Value → H}
/-- An argument that is a date: what it is, and that it reads so in every world. -/
theorem open_date {w : World} {r : Reach} {b0 base : Nat} {spare : Nat → Bool} {held : Bool} {v : Value} {d : DataW H} {p : List MemPlace} (hv : Value.okWide Tryd.prog w r b0 23 v) (h : DataW.Trod enc Tryd.prog w base spare held 23 v d p) :
    ∃ y m k x : Int, v = dv y m k x ∧ I64 y ∧ I64 m ∧ I64 k ∧ I64 x ∧ p = [] ∧ ∀ (w' : World) (base' : Nat) (spare' : Nat → Bool) (held' : Bool), DataW.Trod enc Tryd.prog w' base' spare' held' 23 v d p := by
  obtain ⟨f0, f1, f2, f3, hs, t0, t1, t2, t3, hone⟩ := dateFields
  obtain ⟨v0, v1, v2, v3, y0, y1, y2, y3, n, rfl, rfl, rfl, h0, h1, h2, h3⟩ := open_agg4 hs hone cellsDate hv h
  obtain ⟨a, e0, z0, k0⟩ := DataW.trod_int (by rw [t0]; exact Tryd.underlying3) h0
  obtain ⟨b, e1, z1, k1⟩ := DataW.trod_int (by rw [t1]; exact Tryd.underlying3) h1
  obtain ⟨c, e2, z2, k2⟩ := DataW.trod_int (by rw [t2]; exact Tryd.underlying3) h2
  obtain ⟨e, e3, z3, k3⟩ := DataW.trod_int (by rw [t3]; exact Tryd.underlying3) h3
  obtain rfl : v0 = .int .i64 a := by simpa using e0
  obtain rfl : v1 = .int .i64 b := by simpa using e1
  obtain rfl : v2 = .int .i64 c := by simpa using e2
  obtain rfl : v3 = .int .i64 e := by simpa using e3
  subst z0 z1 z2 z3
  refine ⟨a, b, c, e, rfl, i64_of_wf k0, i64_of_wf k1, i64_of_wf k2, i64_of_wf k3, rfl, fun w' base' spare' held' => ?_⟩
  have hx := shut_agg4 (enc := enc) (w := w') (base := base') (spare := spare') (held := held') hs hone cellsDate
    ⟨1, trod_int_mk (enc := enc) (w := w') (base := base') (spare := spare') (held := held') 0 (by rw [t0]; exact Tryd.underlying3) k0⟩
    ⟨1, trod_int_mk (enc := enc) (w := w') (base := base') (spare := spare') (held := held') 0 (by rw [t1]; exact Tryd.underlying3) k1⟩
    ⟨1, trod_int_mk (enc := enc) (w := w') (base := base') (spare := spare') (held := held') 0 (by rw [t2]; exact Tryd.underlying3) k2⟩
    ⟨1, trod_int_mk (enc := enc) (w := w') (base := base') (spare := spare') (held := held') 0 (by rw [t3]; exact Tryd.underlying3) k3⟩
  exact hx
end
abbrev IsTrue (w : World) : Ending → World → Prop := Ret (.bool true) w
end Go.Proofs.YtanjkjendppigaaDoor.Dy
