/- How a law's arguments are read, and how a law that has been walked becomes its row: the world's shape and the listed variables are both handed on. Conditions: those of the row's own form. -/
import Derived.Test.YtfmjankmfddefaaDoorSShort
import Derived.Lib.SmallJoins
import Derived.Lib.LaidU8
import Derived.MakeChecks
import Derived.Test.YtfmjankmfddefaaDoorRows
import Derived.Test.YtfmjankmfddefaaDoorCards
import Derived.Test.YtfmjankmfddefaaDoorTie
import Derived.ProofKit
import Derived.OpenShut
import Derived.LaidMore
import Derived.Lay
import Derived.SevenTiedAt
import Derived.Stop.Joined
import Derived.SizedLaws
import Derived.ChangeSlices
import Derived.SliceStrings
namespace Go.Proofs.YtfmjankmfddefaaDoor.Sg
open Go.ChangeShapes Go.WideShapes Go.ChangeAt Go.RowKit Go.Joins Go.Deep Dg Dg.Gm
set_option linter.unusedVariables false

theorem own : ownKnob Tryd.prog.godebug = none := by kernel_rfl
theorem laidOut : laidOutB Tryd.prog = true := by kernel_rfl
abbrev IsTrue (w : World) : Ending → World → Prop := Ret (.bool true) w
theorem mx_of_shape {W : World} (h : W.ShapedOpen Tryd.prog) : Wr.Mx W := Tryd.laysM219.s1_3 W h
theorem cells1 : Tryd.prog.cellsOf 58 = 1 := by kernel_rfl
theorem cells2 : Tryd.prog.cellsOf 5 = 1 := by kernel_rfl
theorem cells8 : Tryd.prog.cellsOf 80 = 8 := by kernel_rfl
theorem cells16 : Tryd.prog.cellsOf 94 = 16 := by kernel_rfl
theorem nStart : Tryd.prog.globalNamed "bourne/digest.start" = some 0 := by kernel_rfl
theorem nOrders : Tryd.prog.globalNamed "bourne/digest.orders" = some 3 := by kernel_rfl
theorem yStart : (Tryd.prog.globals[0]?).map (·.type) = some 80 := by kernel_rfl
theorem yOrders : (Tryd.prog.globals[3]?).map (·.type) = some 95 := by kernel_rfl
theorem laid_start_eq : (Rows.laid_bourne_digest_start : DataW Unit) = Lib.tabData .u32 startL := rfl
theorem laid_orders_eq : (Rows.laid_bourne_digest_orders : DataW Unit) = .agg (ordersL.map fun z => Lib.tabData .u8 z) := rfl
theorem flat_at (L : List (List Int)) (n : Nat) (h : ∀ z ∈ L, z.length = n) (hn : 0 < n) (j : Nat) : L.flatten[j]? = (L[j / n]?).bind (fun z => z[j % n]?) := by
  induction L generalizing j with
  | nil => simp
  | cons z L ih =>
    have hz := h z (by simp)
    rw [List.flatten_cons]
    by_cases hj : j < n
    · rw [List.getElem?_append_left (by omega), Nat.div_eq_of_lt hj, Nat.mod_eq_of_lt hj]; rfl
    · rw [List.getElem?_append_right (by omega), hz, ih (fun y hy => h y (by simp [hy]))]
      have e1 : j / n = (j - n) / n + 1 := by rw [Nat.div_eq_sub_div hn (by omega)]
      have e2 : j % n = (j - n) % n := by rw [Nat.mod_eq_sub_mod (by omega)]
      rw [e1, e2]; rfl
/-- What is listed is what the walks ask. -/
theorem tb_of_laid {W : World} (h : laidMetH Tryd.prog [("unicode/utf8.acceptRanges", Rows.laid_unicode_utf8_acceptRanges), ("bourne/digest.start", Rows.laid_bourne_digest_start), ("bourne/digest.orders", Rows.laid_bourne_digest_orders), ("unicode/utf8.first", Rows.laid_unicode_utf8_first)] W) : Tb W := by
  rw [MakeChecks.laidMetH_plain _ _ _ (by kernel_rfl)] at h
  refine ⟨?_, ?_⟩
  · obtain ⟨g, t, cs, fuel, p, hg, hty, hvar, hd⟩ := Lib.laidMet.reads h (.tail _ (.head _))
    obtain rfl := Option.some.inj (nStart.symm.trans hg)
    obtain rfl := Option.some.inj (yStart.symm.trans hty)
    rw [laid_start_eq] at hd
    have hcs := Lib.cells_of_tab Tryd.underlying80 Tryd.underlying58 cells1 cells8 hd
    intro j v hv
    rw [Nat.zero_add, World.var?_cell hg hvar j, ← Array.getElem?_toList, hcs]
    exact hv
  · obtain ⟨g, t, cs, fuel, p, hg, hty, hvar, hd⟩ := Lib.laidMet.reads h (.tail _ (.tail _ (.head _)))
    obtain rfl := Option.some.inj (nOrders.symm.trans hg)
    obtain rfl := Option.some.inj (yOrders.symm.trans hty)
    rw [laid_orders_eq] at hd
    intro j v hv
    rw [Nat.zero_add, World.var?_cell hg hvar j, ← Array.getElem?_toList]
    rw [List.getElem?_map] at hv
    have hlen : ∀ z ∈ ordersL, z.length = 16 := by decide
    rw [flat_at ordersL 16 hlen (by decide)] at hv
    obtain ⟨x, hx, rfl⟩ := Option.map_eq_some_iff.1 hv
    obtain ⟨z, hz, hzx⟩ := Option.bind_eq_some_iff.1 hx
    have hi : j / 16 < 10 := (List.getElem?_eq_some_iff.1 hz).1
    obtain ⟨fuel', d, q, hdi, he⟩ := Lib.array_elem Tryd.underlying95 hd (j / 16) hi
    rw [List.getElem?_map, hz] at hdi
    obtain rfl := Option.some.inj hdi
    rw [cells16] at he
    have hcs := Lib.cells_of_tab Tryd.underlying94 Tryd.underlying5 cells2 cells16 he
    have h1 := congrArg (·[j % 16]?) hcs
    simp only [List.getElem?_take, List.getElem?_drop, List.getElem?_map, hzx, Option.map_some] at h1
    rw [if_pos (Nat.mod_lt _ (by decide)), show j / 16 * 16 + j % 16 = j by omega] at h1
    exact h1

section
variable {H : Type} {enc : TypeId × Value → H}
/-- The wrap of a law's row that lists variables: its contract is handed the world's shape and what is listed. -/
theorem returns_both {a : Assume} {C : Checked} {os : Os} {f : FuncId} {fn : Func} {s : ChangeSpec} {conds : List PathCond} {apart fresh handsOn again : Bool} {X : World → Array Value → Prop}
    (heaps : ∀ (w w' : World) (args : Array Value), w'.heap = w.heap → X w args → X w' args) (own : ownKnob C.prog.godebug = none) (started : os.Started) (noInit : C.prog.inits.idxOf? f = none) (hfn : C.prog.funcs[f]? = some fn)
    (witness : ∃ (w : World) (tape : Tape) (i : Input), w.os = os ∧ (w.forCall tape i).Shaped C.prog ∧ i.vars = [] ∧ Input.okWide C.prog (w.forCall tape i) .any w.heap.size f i ∧
      ((s.pre enc C.prog fn conds apart (w.forCall tape i).memory i.args ∧ X (w.forCall tape i).memory i.args) ∧ sizedMet enc C.prog fn (OpenSpec.ofChange s) apart (w.forCall tape i).memory i.args) ∧ a.holds C.prog (lone (Frame.enter C.prog f i.args .normal) [] (w.forCall tape i)))
    (contract : ∀ (W : World) (base : Nat) (args : Array Value) (ds gs : List (DataW H)) (before : List MemPlace),
      (∀ (j : Nat) t v, fn.params[j]? = some t → args[j]? = some v → Value.okWide C.prog W .any base t v) →
      DataW.Whole enc C.prog fn.params.toList s.vars apart W args.toList ds gs before → W.ShapedOpen C.prog → X W args →
      (DataW.weightsEach C.prog (fn.params.toList ++ s.plain.varTypes C.prog) (ds ++ gs)).all (· ≤ reachBytes) = true →
      Calls C.prog f args W fun e W' => ∃ v, e = .returned v ∧ s.post enc C.prog fn apart fresh handsOn again W args v W') :
    ReturnsInHanded a C os f .any (fun w args => (s.pre enc C.prog fn conds apart w args ∧ X w args) ∧ sizedMet enc C.prog fn (OpenSpec.ofChange s) apart w args) (s.post enc C.prog fn apart fresh handsOn again) := by
  refine returnsInHanded_of_calls own started noInit witness ?_
  intro w tape i _ hsh _ hok hpre _
  obtain ⟨_, _, _, fn', hfn', _, _, _, _, hval⟩ := hok
  obtain rfl : fn' = fn := Option.some.inj (hfn'.symm.trans hfn)
  obtain ⟨⟨⟨ds, gs, before, hw, _⟩, hx⟩, hz⟩ := hpre
  refine (contract (w.forCall tape i) w.heap.size i.args ds gs before hval (DataW.Whole.of_heap (w' := w.forCall tape i) (by rfl) hw) hsh (heaps _ _ _ (by rfl) hx) (hz.weights hw)).mono fun e W' ⟨v, he, hp⟩ => ?_
  subst he
  exact ChangeSpec.post_blind hp
end
theorem reach_le {l : List UInt8} (h : l.length ≤ reachBytes) : l.length ≤ 140737488355328 := Nat.le_of_lt (Nat.lt_of_le_of_lt h (by have := reachBytes_lt; omega))
theorem keyFields : ∃ f0 f1 : Field, Tryd.prog.underlying 23 = some (.struct #[f0, f1]) ∧ f0.type = 3 ∧ f1.type = 3 ∧ oneCellFields Tryd.prog #[f0, f1] = true := ⟨_, _, Tryd.underlying23, rfl, rfl, by kernel_rfl⟩
theorem sigFields : ∃ f0 f1 : Field, Tryd.prog.underlying 25 = some (.struct #[f0, f1]) ∧ f0.type = 3 ∧ f1.type = 3 ∧ oneCellFields Tryd.prog #[f0, f1] = true := ⟨_, _, Tryd.underlying25, rfl, rfl, by kernel_rfl⟩
theorem cellsKey : Tryd.prog.cellsOf 23 = 2 := by kernel_rfl
theorem cellsSig : Tryd.prog.cellsOf 25 = 2 := by kernel_rfl
section
variable {H : Type} {enc : TypeId × Value → H}
set_option maxRecDepth 100000 in
/-- An argument that is a struct of two ints: what it is, and that it reads so in every world. -/
theorem open_pair {t : TypeId} (hF : ∃ f0 f1 : Field, Tryd.prog.underlying t = some (.struct #[f0, f1]) ∧ f0.type = 3 ∧ f1.type = 3 ∧ oneCellFields Tryd.prog #[f0, f1] = true) (hC : Tryd.prog.cellsOf t = 2)
    {w : World} {r : Reach} {b0 base : Nat} {spare : Nat → Bool} {held : Bool} {v : Value} {d : DataW H} {p : List MemPlace} (hv : Value.okWide Tryd.prog w r b0 t v) (h : DataW.Trod enc Tryd.prog w base spare held t v d p) :
    ∃ x y : Int, v = kv x y ∧ Gp.I64 x ∧ Gp.I64 y ∧ p = [] ∧ ∀ (w' : World) (base' : Nat) (spare' : Nat → Bool) (held' : Bool), DataW.Trod enc Tryd.prog w' base' spare' held' t v d p := by
  obtain ⟨f0, f1, hs, t0, t1, hone⟩ := hF
  obtain ⟨v0, v1, y0, y1, n, rfl, rfl, rfl, h0, h1⟩ := open_agg2 hs hone hC hv h
  obtain ⟨x, e0, z0, k0⟩ := DataW.trod_int (by rw [t0]; exact Tryd.underlying3) h0
  obtain ⟨y, e1, z1, k1⟩ := DataW.trod_int (by rw [t1]; exact Tryd.underlying3) h1
  obtain rfl : v0 = .int .i64 x := by simpa using e0
  obtain rfl : v1 = .int .i64 y := by simpa using e1
  subst z0
  subst z1
  refine ⟨x, y, rfl, Gp.i64_of_wf k0, Gp.i64_of_wf k1, rfl, fun w' base' spare' held' => ?_⟩
  have h2 := shut_agg2 (enc := enc) (w := w') (base := base') (spare := spare') (held := held') hs hone hC
    ⟨1, trod_int_mk (enc := enc) (w := w') (base := base') (spare := spare') (held := held') 0 (by rw [t0]; exact Tryd.underlying3) k0⟩
    ⟨1, trod_int_mk (enc := enc) (w := w') (base := base') (spare := spare') (held := held') 0 (by rw [t1]; exact Tryd.underlying3) k1⟩
  exact h2
end
end Go.Proofs.YtfmjankmfddefaaDoor.Sg
