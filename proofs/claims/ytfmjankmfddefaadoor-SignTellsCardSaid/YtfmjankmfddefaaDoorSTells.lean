/- The statement SignTells: every function returns what the reference returns. Conditions: those of the card; the statement's own bounds. -/
import Derived.Test.YtfmjankmfddefaaDoorSCard
import Derived.Test.YtfmjankmfddefaaDoorSRef
namespace Go.Proofs.YtfmjankmfddefaaDoor.signTells
open Go.ChangeShapes Go.WideShapes Go.ChangeAt Go.RowKit
open Sg Gp Gp.Grp Wr.Wm
open Dg (sv)
set_option linter.unusedVariables false

theorem KS.drew {w W : World} {g1 g3 : Nat} {a b e f : Value} (x : KS w g1 g3 a b e f W) : KS w g1 g3 a b e f W.drew :=
  ⟨x.k, x.s, ⟨x.b.os, x.b.tape, x.b.output, x.b.size, x.b.block⟩, x.wd⟩
theorem KS.all {w W : World} {g1 g3 : Nat} {a b e f : Value} (x : KS w g1 g3 a b e f W) : W.cell? ⟨g1, 0, none⟩ = some a ∧ W.cell? ⟨g1, 1, none⟩ = some b ∧ W.cell? ⟨g3, 0, none⟩ = some e ∧ W.cell? ⟨g3, 1, none⟩ = some f ∧ KS w g1 g3 a b e f W :=
  ⟨x.k.cell 0, x.k.cell 1, x.s.cell 0, x.s.cell 1, x⟩
theorem KS.call {w : World} {g1 g3 : Nat} {a b e f : Value} {p : FuncId} {args : Array Value} {v : Value} (C : ∀ W, Wd W → Calls Tryd.prog p args W (Ret v W)) (W : World)
    (h : W.cell? ⟨g1, 0, none⟩ = some a ∧ W.cell? ⟨g1, 1, none⟩ = some b ∧ W.cell? ⟨g3, 0, none⟩ = some e ∧ W.cell? ⟨g3, 1, none⟩ = some f ∧ KS w g1 g3 a b e f W) :
    Calls Tryd.prog p args W fun x W' => x = .returned v ∧ (W'.cell? ⟨g1, 0, none⟩ = some a ∧ W'.cell? ⟨g1, 1, none⟩ = some b ∧ W'.cell? ⟨g3, 0, none⟩ = some e ∧ W'.cell? ⟨g3, 1, none⟩ = some f ∧ KS w g1 g3 a b e f W') :=
  (C W h.2.2.2.2.wd).mono fun x W' hr => ⟨hr.1, KS.all (h.2.2.2.2.next hr.2)⟩
theorem ks_two {w : World} {g : Nat} {a b e f : Value} (hg : w.heap.size = g) (hw : Wd w) : KS w g (g + 1) a b e f ((w.alloc (.cells #[a, b] 23)).alloc (.cells #[e, f] 25)) := by
  subst hg
  have h := ks_new (w := w) (a := a) (b := b) (c := e) (d := f) (Below.refl _ w) hw (Below.refl _ _)
  have e1 : (w.alloc (.cells #[a, b] 23)).heap.size = w.heap.size + 1 := by simp
  rw [e1] at h
  exact h
theorem long (S T U : ByteArray) (x y z e s0 : Int) (h : ¬ (S.size + T.size + U.size ≤ 2000)) (hS : S.size ≤ 140737488355328) (hT : T.size ≤ 140737488355328) (hU : U.size ≤ 140737488355328) (w : World) (hw : Wd w) :
    Calls Tryd.prog 3 #[.string S, .string T, .string U, kv x y, .int .i64 z, kv e s0] w (IsTrue w) := by
  have SM := Lib.hid (KS.call (w := w) (g1 := w.heap.size) (g3 := w.heap.size + 1) (a := .int .i64 x) (b := .int .i64 y) (e := .int .i64 e) (f := .int .i64 s0) (fun W hW => small_any W hW))
  have SH := Lib.hid (KS.call (w := w) (g1 := w.heap.size) (g3 := w.heap.size + 1) (a := .int .i64 x) (b := .int .i64 y) (e := .int .i64 e) (f := .int .i64 s0) (fun W hW => (fun W _ => short_f S T U h hS hT hU W) W hW))
  obtain ⟨g, hg⟩ : ∃ g, w.heap.size = g := ⟨_, rfl⟩
  have H0 := Lib.hid (KS.all (ks_two (a := .int .i64 x) (b := .int .i64 y) (e := .int .i64 e) (f := .int .i64 s0) hg hw))
  rw [hg] at SM SH
  unfold kv at *
  clear hw h hS hT hU
  go_enter Tryd.func3, Tryd.ntmps3
  go_wp2_with fail
  refine (SM.out _ H0.out).mono ?_
  rintro e' w1 ⟨rfl, hh⟩
  have H1 := Lib.hid hh
  clear H0 SM hh
  go_wp2_with fail
  refine (SH.out _ H1.out).mono ?_
  rintro e' w2 ⟨rfl, hh⟩
  have H2 := Lib.hid hh
  clear H1 SH hh
  go_wp2_with fail
  subst hg
  go_ret
  exact ⟨rfl, H2.out.2.2.2.2.b⟩
set_option maxHeartbeats 8000000 in
set_option maxRecDepth 100000 in
theorem main (s c m : Bs) (x y z e s0 : Int) (h : s.length + c.length + m.length ≤ 2000) (w : World) (hw : Wd w) :
    Calls Tryd.prog 3 #[.string (sv s), .string (sv c), .string (sv m), kv x y, .int .i64 z, kv e s0] w (IsTrue w) := by
  have SM := Lib.hid (KS.call (w := w) (g1 := w.heap.size) (g3 := w.heap.size + 1) (a := .int .i64 x) (b := .int .i64 y) (e := .int .i64 e) (f := .int .i64 s0) (fun W hW => small_any W hW))
  have SH := Lib.hid (KS.call (w := w) (g1 := w.heap.size) (g3 := w.heap.size + 1) (a := .int .i64 x) (b := .int .i64 y) (e := .int .i64 e) (f := .int .i64 s0) (fun W hW => (fun W _ => short_t (sv s) (sv c) (sv m) h W) W hW))
  have A1 := Lib.hid (KS.call (w := w) (g1 := w.heap.size) (g3 := w.heap.size + 1) (a := .int .i64 x) (b := .int .i64 y) (e := .int .i64 e) (f := .int .i64 s0) (fun W hW => key_any s (by omega) W hW))
  have A2 := Lib.hid (KS.call (w := w) (g1 := w.heap.size) (g3 := w.heap.size + 1) (a := .int .i64 x) (b := .int .i64 y) (e := .int .i64 e) (f := .int .i64 s0) (fun W hW => rkey_any s (by omega) W hW))
  have A3 := Lib.hid (KS.call (w := w) (g1 := w.heap.size) (g3 := w.heap.size + 1) (a := .int .i64 x) (b := .int .i64 y) (e := .int .i64 e) (f := .int .i64 s0) (fun W hW => (fun W _ => of_any x W) W hW))
  have A4 := Lib.hid (KS.call (w := w) (g1 := w.heap.size) (g3 := w.heap.size + 1) (a := .int .i64 x) (b := .int .i64 y) (e := .int .i64 e) (f := .int .i64 s0) (fun W hW => rof_any x W hW))
  have A5 := Lib.hid (KS.call (w := w) (g1 := w.heap.size) (g3 := w.heap.size + 1) (a := .int .i64 x) (b := .int .i64 y) (e := .int .i64 e) (f := .int .i64 s0) (fun W hW => right_any x y W hW))
  have A6 := Lib.hid (KS.call (w := w) (g1 := w.heap.size) (g3 := w.heap.size + 1) (a := .int .i64 x) (b := .int .i64 y) (e := .int .i64 e) (f := .int .i64 s0) (fun W hW => rright_any x y W hW))
  have D1 := Lib.hid (KS.call (w := w) (g1 := w.heap.size) (g3 := w.heap.size + 1) (a := .int .i64 x) (b := .int .i64 y) (e := .int .i64 e) (f := .int .i64 s0) (fun W hW => sign_any x y c m (by omega) W hW))
  have D2 := Lib.hid (KS.call (w := w) (g1 := w.heap.size) (g3 := w.heap.size + 1) (a := .int .i64 x) (b := .int .i64 y) (e := .int .i64 e) (f := .int .i64 s0) (fun W hW => rsign_any x y c m (by omega) W hW))
  have D3 := Lib.hid (KS.call (w := w) (g1 := w.heap.size) (g3 := w.heap.size + 1) (a := .int .i64 x) (b := .int .i64 y) (e := .int .i64 e) (f := .int .i64 s0) (fun W hW => verify_any z e s0 c m (by omega) W hW))
  have D4 := Lib.hid (KS.call (w := w) (g1 := w.heap.size) (g3 := w.heap.size + 1) (a := .int .i64 x) (b := .int .i64 y) (e := .int .i64 e) (f := .int .i64 s0) (fun W hW => rverify_any z e s0 c m (by omega) W hW))
  obtain ⟨g, hg⟩ : ∃ g, w.heap.size = g := ⟨_, rfl⟩
  have H0 := Lib.hid (KS.all (ks_two (a := .int .i64 x) (b := .int .i64 y) (e := .int .i64 e) (f := .int .i64 s0) hg hw))
  rw [hg] at SM SH A1 A2 A3 A4 A5 A6 D1 D2 D3 D4
  unfold kv at *
  clear hw h
  generalize xe 4 (keyS s) = Y at *
  generalize keyS s = X at *
  generalize ofX x = x' at *
  generalize ofY x = y' at *
  generalize rightB x y = b1 at *
  generalize siE x y c m = E at *
  generalize siS x y c m = S at *
  generalize verB z c m e s0 = b2 at *
  have k1 : (b1 == b1) = true := beq_self_eq_true b1
  have k1' : (b1 != b1) = false := by cases b1 <;> rfl
  have k2 : (b2 == b2) = true := beq_self_eq_true b2
  go_enter Tryd.func3, Tryd.ntmps3
  go_wp2_with fail
  refine (SM.out _ H0.out).mono ?_
  rintro e' w1 ⟨rfl, hh⟩
  have H1 := Lib.hid hh
  clear H0 SM hh
  go_wp2_with fail
  refine (SH.out _ H1.out).mono ?_
  rintro e' w2 ⟨rfl, hh⟩
  have H2 := Lib.hid hh
  clear H1 SH hh
  go_wp2_with fail
  obtain ⟨s1, s2, s3, s4, s5⟩ := H2.out
  clear H2
  --GG
  go_region_held3 (fun W => W.cell? ⟨g, 0, none⟩ = some (.int .i64 x) ∧ W.cell? ⟨g, 1, none⟩ = some (.int .i64 y) ∧ W.cell? ⟨g + 1, 0, none⟩ = some (.int .i64 e) ∧ W.cell? ⟨g + 1, 1, none⟩ = some (.int .i64 s0) ∧ KS w g (g + 1) (.int .i64 x) (.int .i64 y) (.int .i64 e) (.int .i64 s0) W)
    (((try dsimp only); (refine ⟨?_, ?_, ?_, ?_, ?_⟩ <;> (first | assumption | go_keep | exact KS.drew ‹_›))))
    ((first
      | (go_at_call 10; refine (A1.out _ ?_).mono ?_; assumption; rintro e' w3 ⟨rfl, h1, h2, h3, h4, h5⟩)
      | (go_at_call 11; refine (A2.out _ ?_).mono ?_; assumption; rintro e' w4 ⟨rfl, h1, h2, h3, h4, h5⟩)
      | (go_at_call 12; refine (A3.out _ ?_).mono ?_; assumption; rintro e' w5 ⟨rfl, h1, h2, h3, h4, h5⟩)
      | (go_at_call 13; refine (A4.out _ ?_).mono ?_; assumption; rintro e' w6 ⟨rfl, h1, h2, h3, h4, h5⟩)
      | (go_at_call 14; refine (A5.out _ ?_).mono ?_; assumption; rintro e' w7 ⟨rfl, h1, h2, h3, h4, h5⟩)
      | (go_at_call 15; refine (A6.out _ ?_).mono ?_; assumption; rintro e' w8 ⟨rfl, h1, h2, h3, h4, h5⟩)))
  clear s1 s2 s3 s4 s5 A1 A2 A3 A4 A5 A6
  have G1 := h1
  have G2 := h2
  have G3 := h3
  have G4 := h4
  have G5 := h5
  clear h1 h2 h3 h4 h5
  go_wp2_with fail
  go_region_held3 (fun W => W.cell? ⟨g, 0, none⟩ = some (.int .i64 x) ∧ W.cell? ⟨g, 1, none⟩ = some (.int .i64 y) ∧ W.cell? ⟨g + 1, 0, none⟩ = some (.int .i64 e) ∧ W.cell? ⟨g + 1, 1, none⟩ = some (.int .i64 s0) ∧ KS w g (g + 1) (.int .i64 x) (.int .i64 y) (.int .i64 e) (.int .i64 s0) W)
    (((try dsimp only); (refine ⟨?_, ?_, ?_, ?_, ?_⟩ <;> (first | assumption | go_keep | exact KS.drew ‹_›))))
    ((first
      | (go_at_call 16; refine (D1.out _ ?_).mono ?_; assumption; rintro e' w13 ⟨rfl, h1, h2, h3, h4, h5⟩)
      | (go_at_call 17; refine (D2.out _ ?_).mono ?_; assumption; rintro e' w14 ⟨rfl, h1, h2, h3, h4, h5⟩)
      | (go_at_call 18; refine (D3.out _ ?_).mono ?_; assumption; rintro e' w15 ⟨rfl, h1, h2, h3, h4, h5⟩)
      | (go_at_call 19; refine (D4.out _ ?_).mono ?_; assumption; rintro e' w16 ⟨rfl, h1, h2, h3, h4, h5⟩)))
  go_wp2_with fail
  subst hg
  go_ret
  exact ⟨rfl, h5.b⟩
theorem walk (S : ByteArray) (hS : S.size ≤ 140737488355328) (T : ByteArray) (hT : T.size ≤ 140737488355328) (U : ByteArray) (hU : U.size ≤ 140737488355328) (x y : Int) (hx : I64 x) (hy : I64 y) (z : Int) (hz : I64 z) (e s0 : Int) (he : I64 e) (hs : I64 s0) (w : World) (hw : Wd w) :
    Calls Tryd.prog 3 #[.string S, .string T, .string U, kv x y, .int .i64 z, kv e s0] w (IsTrue w) := by
  by_cases h : S.size + T.size + U.size ≤ 2000
  · have h2 : S.data.toList.length + T.data.toList.length + U.data.toList.length ≤ 2000 := by rw [← Lib.size_eq, ← Lib.size_eq, ← Lib.size_eq]; exact h
    have := main S.data.toList T.data.toList U.data.toList x y z e s0 h2 w hw
    rwa [Dg.sv_of, Dg.sv_of, Dg.sv_of] at this
  · exact long S T U x y z e s0 h hS hT hU w hw
set_option maxRecDepth 100000 in
theorem lifted (os : Os) (started : os.Started) (H : Type) (enc : TypeId × Value → H) :
    ReturnsInHanded {} Tryd.checked os 3 .any (fun w args => (Rows.signTellsSpec.pre enc Tryd.prog Tryd.f3 Rows.signTellsRow.domain false w args ∧ laidMetH Tryd.prog Rows.signTellsRow.laid w) ∧ sizedMet enc Tryd.prog Tryd.f3 (OpenSpec.ofChange Rows.signTellsSpec) false w args)
      (Rows.signTellsSpec.post enc Tryd.prog Tryd.f3 false true false false) := by
  refine returns_both (C := Tryd.checked) (X := fun w _ => laidMetH Tryd.prog Rows.signTellsRow.laid w) (fun _ _ _ hh h => h.of_heap hh.symm) own started (by kernel_rfl) Tryd.func3
    (ChangeSpec.witness_shaped (enc := enc) (C := Tryd.checked) (os := os) (X := fun w _ => laidMetH Tryd.prog Rows.signTellsRow.laid w) false (World.laidAll Tryd.prog os Rows.signTellsRow.laid) #[.string ⟨#[]⟩, .string ⟨#[]⟩, .string ⟨#[]⟩, .agg #[.int .i64 0, .int .i64 0], .int .i64 0, .agg #[.int .i64 0, .int .i64 0]] 8 (World.laidAll_os _ _ _)
      (World.shaped_of_ZipB (by kernel_rfl) (by kernel_rfl)) (by kernel_rfl) (by kernel_rfl) (by kernel_rfl)
      (by rw [MakeChecks.laidMetH_plain _ _ _ (by kernel_rfl)]; exact laidMet_laidAll _ (by kernel_rfl) (by kernel_rfl))) ?_
  intro W base args ds gs before hval0 hW hsh hX hsz0
  have hsz : (DataW.weightsEach Tryd.prog (Tryd.f3.params.toList ++ Rows.signTellsSpec.plain.varTypes Tryd.prog) (ds ++ gs)).all (· ≤ reachBytes) = true := hsz0
  clear hsz0
  have hWd : Wd W := ⟨tb_of_laid hX, mx_of_shape hsh⟩
  have hval : ∀ (j : Nat) t v, Tryd.f3.params[j]? = some t → args[j]? = some v → Value.okWide Tryd.prog W .any base t v := hval0
  have hW' := hW
  obtain ⟨p, q, hA0, hV, rfl, hfz, hnd⟩ := hW
  have hA : DataW.TrodAll enc Tryd.prog W 0 (fun _ => true) true Tryd.f3.params.toList args.toList ds p := hA0
  rw [Tryd.params3] at hA hval hsz
  obtain ⟨v0, vs0, d0, ds0, p0, q0, hargs, rfl, rfl, h0, r0⟩ := trodAll_cons hA
  obtain ⟨v1, vs1, d1, ds1, p1, q1, rfl, rfl, rfl, h1, r1⟩ := trodAll_cons r0
  obtain ⟨v2, vs2, d2, ds2, p2, q2, rfl, rfl, rfl, h2, r2⟩ := trodAll_cons r1
  obtain ⟨v3, vs3, d3, ds3, p3, q3, rfl, rfl, rfl, h3, r3⟩ := trodAll_cons r2
  obtain ⟨v4, vs4, d4, ds4, p4, q4, rfl, rfl, rfl, h4, r4⟩ := trodAll_cons r3
  obtain ⟨v5, vs5, d5, ds5, p5, q5, rfl, rfl, rfl, h5, r5⟩ := trodAll_cons r4
  obtain ⟨rfl, rfl, rfl⟩ := trodAll_nil r5
  obtain rfl : args = #[v0, v1, v2, v3, v4, v5] := by cases args; simp_all
  obtain ⟨rfl, rfl⟩ := trodVars_none hV
  obtain ⟨s0, rfl, rfl, rfl, ws0⟩ := Go.ChangeMaps.open_string Tryd.underlying9 (hval 0 9 v0 rfl rfl) h0
  have z0 : s0.size ≤ 140737488355328 := by rw [Lib.size_eq]; exact reach_le (sized_string hsz (j := 0) (t := 9) rfl rfl)
  obtain ⟨s1, rfl, rfl, rfl, ws1⟩ := Go.ChangeMaps.open_string Tryd.underlying9 (hval 1 9 v1 rfl rfl) h1
  have z1 : s1.size ≤ 140737488355328 := by rw [Lib.size_eq]; exact reach_le (sized_string hsz (j := 1) (t := 9) rfl rfl)
  obtain ⟨s2, rfl, rfl, rfl, ws2⟩ := Go.ChangeMaps.open_string Tryd.underlying9 (hval 2 9 v2 rfl rfl) h2
  have z2 : s2.size ≤ 140737488355328 := by rw [Lib.size_eq]; exact reach_le (sized_string hsz (j := 2) (t := 9) rfl rfl)
  obtain ⟨x3, y3, rfl, wx3, wy3, rfl, t3⟩ := open_pair keyFields cellsKey (hval 3 23 v3 rfl rfl) h3
  obtain ⟨a4, rfl, rfl, rfl, w4⟩ := open_int Tryd.underlying3 (hval 4 3 v4 rfl rfl) h4
  obtain ⟨x5, y5, rfl, wx5, wy5, rfl, t5⟩ := open_pair sigFields cellsSig (hval 5 25 v5 rfl rfl) h5
  clear hA0 hval0
  simp only [List.append_nil] at hW'
  refine (walk s0 z0 s1 z1 s2 z2 x3 y3 wx3 wy3 a4 (Gp.i64_of_wf w4) x5 y5 wx5 wy5 W hWd).mono fun e W' ⟨he, hb⟩ => ?_
  subst he
  exact ⟨_, rfl, _, _, _, [], _, [], hW', (trodAll_cons_mk (shut_bool Tryd.underlying4 _) trodAll_mk0), (trodAll_cons_mk (Go.ChangeMaps.shut_string Tryd.underlying9 ws0) (trodAll_cons_mk (Go.ChangeMaps.shut_string Tryd.underlying9 ws1) (trodAll_cons_mk (Go.ChangeMaps.shut_string Tryd.underlying9 ws2) (trodAll_cons_mk (t3 _ _ _ _) (trodAll_cons_mk (shut_int Tryd.underlying3 w4) (trodAll_cons_mk (t5 _ _ _ _) trodAll_mk0)))))), rfl, hb.frame _, fun h => by cases h⟩

theorem over : Rows.SignTellsSaid :=
  OpenClaim.holds_of_wide 3 Tryd.f3 rfl rfl rfl rfl rfl rfl rfl ⟨rfl, rfl, rfl, rfl, rfl⟩ rfl rfl rfl rfl rfl (by kernel_rfl) Tryd.func3 (by kernel_rfl)
    (of_decide_eq_true (by kernel_rfl)) (by unfold Func.isWrapper; first | (rw [if_pos (by decide +kernel)]; kernel_rfl) | (rw [if_neg (by decide +kernel)]; exact ⟨rfl, rfl⟩))
    (fun os started H enc _ => lifted os started H enc)
theorem proved : Rows.SignTellsCardSaid :=
  Claim7.holds_tied_plain_at .later [] [.data, .data, .data, .pinned] true Rows.signTellsCard.stood.harness false over (fun _ h => by cases h) (by kernel_rfl) (fun _ h => by cases h) signTells_row_tie rfl ⟨rfl, rfl⟩ (by kernel_rfl) rfl
    (fun f fn hf hfn => by
      obtain rfl : f = 3 := Option.some.inj ((show Tryd.prog.funcNamed "bourne/bournelaw05.SignTells" = some 3 by kernel_rfl).symm.trans hf) |>.symm
      obtain rfl : fn = Tryd.f3 := (Option.some.inj (Tryd.func3.symm.trans hfn)).symm
      exact ⟨by kernel_rfl, fun j t ht => by
        rw [Tryd.params3] at ht
        have hm : t ∈ [9, 9, 9, 23, 3, 25] := by simpa using Array.mem_of_getElem? ht
        have hall : ([9, 9, 9, 23, 3, 25].all fun u => !Tryd.prog.wantsStandIn u) = true := by kernel_rfl
        exact (show Tryd.prog.wantsStandIn t = false by simpa using List.all_eq_true.1 hall t hm)⟩)
    (by kernel_rfl)
end Go.Proofs.YtfmjankmfddefaaDoor.signTells
