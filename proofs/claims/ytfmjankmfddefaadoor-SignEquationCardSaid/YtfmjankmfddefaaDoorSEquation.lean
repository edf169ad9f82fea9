/- The statement SignEquation: what is accepted is in range and satisfies the equation of the document. Conditions: those of the card; the statement's own bounds. -/
import Derived.Test.YtfmjankmfddefaaDoorSCard
import Derived.Test.YtfmjankmfddefaaDoorSRef
namespace Go.Proofs.YtfmjankmfddefaaDoor.signEquation
open Go.ChangeShapes Go.WideShapes Go.ChangeAt Go.RowKit
open Sg Gp Gp.Grp Wr.Wm
open Dg (sv)
set_option linter.unusedVariables false

theorem inv_c (a : Int) (w : World) (hw : Wd w) : Calls Tryd.prog 23 #[.int .i64 a] w (Ret (.tuple #[.int .i64 (iv a), .bool (rp a != 0)]) w) := (inv_any a w).mono fun _ _ h => ret_drew h
theorem long (y : Int) (T U : ByteArray) (e s : Int) (h : ¬ (T.size + U.size ≤ 2000)) (hT : T.size ≤ 140737488355328) (hU : U.size ≤ 140737488355328) (w : World) (hw : Wd w) :
    Calls Tryd.prog 6 #[.int .i64 y, .string T, .string U, kv e s] w (IsTrue w) := by
  have SM := Lib.hid (held (w := w) (g := w.heap.size) (a := .int .i64 e) (b := .int .i64 s) (fun W hW => small_any W hW))
  have SH := Lib.hid (held (w := w) (g := w.heap.size) (a := .int .i64 e) (b := .int .i64 s) (fun W hW => (fun W _ => short_f ⟨#[]⟩ T U (by show ¬ (0 + T.size + U.size ≤ 2000); omega) (by decide) hT hU W) W hW))
  obtain ⟨g, hg⟩ : ∃ g, w.heap.size = g := ⟨_, rfl⟩
  have H0 := Lib.hid (s2_new (a := .int .i64 e) (b := .int .i64 s) (t := 25) hg hw)
  rw [hg] at SM SH
  unfold kv at *
  clear hw h hT hU
  go_enter Tryd.func6, Tryd.ntmps6
  go_wp2_with fail
  refine (SM.out _ H0.out).mono ?_
  rintro e' w1 ⟨rfl, hh⟩
  have H1 := Lib.hid hh
  clear H0 SM
  obtain ⟨c0, c1, _⟩ := hh
  go_wp2_with fail
  refine (SH.out _ H1.out).mono ?_
  rintro e' w2 ⟨rfl, hh⟩
  have H2 := Lib.hid hh
  clear H1 SH c0 c1
  obtain ⟨c0, c1, _⟩ := hh
  go_wp2_with fail
  subst hg
  go_ret
  exact ⟨rfl, H2.out.2.2.1⟩
set_option maxHeartbeats 4000000 in
set_option maxRecDepth 100000 in
theorem main_no (y : Int) (c m : Bs) (e s : Int) (h : c.length + m.length ≤ 2000) (hv : verB y c m e s = false) (w : World) (hw : Wd w) :
    Calls Tryd.prog 6 #[.int .i64 y, .string (sv c), .string (sv m), kv e s] w (IsTrue w) := by
  have SM := Lib.hid (held (w := w) (g := w.heap.size) (a := .int .i64 e) (b := .int .i64 s) (fun W hW => small_any W hW))
  have SH := Lib.hid (held (w := w) (g := w.heap.size) (a := .int .i64 e) (b := .int .i64 s) (fun W hW => (fun W _ => short_t ⟨#[]⟩ (sv c) (sv m) (by show 0 + c.length + m.length ≤ 2000; omega) W) W hW))
  have C1 := Lib.hid (held (w := w) (g := w.heap.size) (a := .int .i64 e) (b := .int .i64 s) (fun W hW => verify_any y e s c m h W hW))
  rw [hv] at C1
  obtain ⟨g, hg⟩ : ∃ g, w.heap.size = g := ⟨_, rfl⟩
  have H0 := Lib.hid (s2_new (a := .int .i64 e) (b := .int .i64 s) (t := 25) hg hw)
  rw [hg] at SM SH C1
  unfold kv at *
  clear hw h hv
  go_enter Tryd.func6, Tryd.ntmps6
  go_wp2_with fail
  refine (SM.out _ H0.out).mono ?_
  rintro e' w1 ⟨rfl, hh⟩
  have H1 := Lib.hid hh
  clear H0 SM
  obtain ⟨c0, c1, _⟩ := hh
  go_wp2_with fail
  refine (SH.out _ H1.out).mono ?_
  rintro e' w2 ⟨rfl, hh⟩
  have H2 := Lib.hid hh
  clear H1 SH c0 c1
  obtain ⟨c0, c1, _⟩ := hh
  go_wp2_with fail
  refine (C1.out _ H2.out).mono ?_
  rintro e' w3 ⟨rfl, hh⟩
  have H3 := Lib.hid hh
  clear H2 C1 c0 c1
  obtain ⟨c0, c1, _⟩ := hh
  go_wp2_with fail
  subst hg
  go_ret
  exact ⟨rfl, H3.out.2.2.1⟩
set_option maxHeartbeats 8000000 in
set_option maxRecDepth 100000 in
theorem main_yes (y : Int) (c m : Bs) (e s : Int) (h : c.length + m.length ≤ 2000) (hv : verB y c m e s = true) (w : World) (hw : Wd w) :
    Calls Tryd.prog 6 #[.int .i64 y, .string (sv c), .string (sv m), kv e s] w (IsTrue w) := by
  obtain ⟨h1, h2, h3, h4, h5, h6, h7, h8, h9, h10, h11⟩ := ver_eq hv
  have hy := of_inB h1
  have hr : 0 ≤ elt y e s ∧ elt y e s < 2305843009213691579 := mu_bd _ _
  have SM := Lib.hid (held (w := w) (g := w.heap.size) (a := .int .i64 e) (b := .int .i64 s) (fun W hW => small_any W hW))
  have SH := Lib.hid (held (w := w) (g := w.heap.size) (a := .int .i64 e) (b := .int .i64 s) (fun W hW => (fun W _ => short_t ⟨#[]⟩ (sv c) (sv m) (by show 0 + c.length + m.length ≤ 2000; omega) W) W hW))
  have C1 := Lib.hid (held (w := w) (g := w.heap.size) (a := .int .i64 e) (b := .int .i64 s) (fun W hW => verify_any y e s c m h W hW))
  rw [hv] at C1
  have C2 := Lib.hid (held (w := w) (g := w.heap.size) (a := .int .i64 e) (b := .int .i64 s) (fun W hW => in_c y W hW))
  rw [h1] at C2
  have C3 := Lib.hid (held (w := w) (g := w.heap.size) (a := .int .i64 e) (b := .int .i64 s) (fun W hW => (fun W _ => exp_c y e (by unfold I64; omega) W) W hW))
  have C4 := Lib.hid (held (w := w) (g := w.heap.size) (a := .int .i64 e) (b := .int .i64 s) (fun W hW => inv_c (xe y e) W hW))
  rw [bne_iff_ne.2 h7] at C4
  have C5 := Lib.hid (held (w := w) (g := w.heap.size) (a := .int .i64 e) (b := .int .i64 s) (fun W hW => (fun W _ => exp_c 4 s (by unfold I64; omega) W) W hW))
  have C6 := Lib.hid (held (w := w) (g := w.heap.size) (a := .int .i64 e) (b := .int .i64 s) (fun W hW => mul_c (xe 4 s) (iv (xe y e)) W hW))
  rw [h8] at C6
  have C7 := Lib.hid (held (w := w) (g := w.heap.size) (a := .int .i64 e) (b := .int .i64 s) (fun W hW => in_c (elt y e s) W hW))
  rw [h9] at C7
  have C8 := Lib.hid (held (w := w) (g := w.heap.size) (a := .int .i64 e) (b := .int .i64 s) (fun W hW => rchallenge_any (elt y e s) y c m hr.1 hr.2 (by omega) hy.2.1 h W hW))
  rw [h10] at C8
  have D3 := Lib.hid (held (w := w) (g := w.heap.size) (a := .int .i64 e) (b := .int .i64 s) (fun W hW => (fun W _ => exp_c y e (by unfold I64; omega) W) W hW))
  have D5 := Lib.hid (held (w := w) (g := w.heap.size) (a := .int .i64 e) (b := .int .i64 s) (fun W hW => (fun W _ => exp_c 4 s (by unfold I64; omega) W) W hW))
  have D6 := Lib.hid (held (w := w) (g := w.heap.size) (a := .int .i64 e) (b := .int .i64 s) (fun W hW => mul_c (elt y e s) (xe y e) W hW))
  rw [h11] at D6
  have d1 : decide (e < (0 : Int)) = false := decide_eq_false (by omega)
  have d2 : decide ((1152921504606845789 : Int) ≤ e) = false := decide_eq_false (by omega)
  have d3 : decide (s < (0 : Int)) = false := decide_eq_false (by omega)
  have d4 : decide ((1152921504606845789 : Int) ≤ s) = false := decide_eq_false (by omega)
  obtain ⟨g, hg⟩ : ∃ g, w.heap.size = g := ⟨_, rfl⟩
  have H0 := Lib.hid (s2_new (a := .int .i64 e) (b := .int .i64 s) (t := 25) hg hw)
  rw [hg] at SM SH C1 C2 C3 C4 C5 C6 C7 C8 D3 D5 D6
  unfold kv at *
  clear hw h hv h1 h3 h4 h5 h6 h7 h8 h9 h10 h11 hy hr
  generalize elt y e s = r at *
  generalize iv (xe y e) = i at *
  generalize xe y e = v at *
  generalize xe 4 s = u at *
  go_enter Tryd.func6, Tryd.ntmps6
  go_wp2_with fail
  refine (SM.out _ H0.out).mono ?_
  rintro e' w1 ⟨rfl, hh⟩
  have H1 := Lib.hid hh
  clear H0 SM
  obtain ⟨c0, c1, _⟩ := hh
  go_wp2_with fail
  refine (SH.out _ H1.out).mono ?_
  rintro e' w2 ⟨rfl, hh⟩
  have H2 := Lib.hid hh
  clear H1 SH c0 c1
  obtain ⟨c0, c1, _⟩ := hh
  go_wp2_with fail
  refine (C1.out _ H2.out).mono ?_
  rintro e' w3 ⟨rfl, hh⟩
  have H3 := Lib.hid hh
  clear H2 C1 c0 c1
  obtain ⟨c0, c1, _⟩ := hh
  go_wp2_with fail
  refine (C2.out _ H3.out).mono ?_
  rintro e' w4 ⟨rfl, hh⟩
  have H4 := Lib.hid hh
  clear H3 C2 c0 c1
  obtain ⟨c0, c1, _⟩ := hh
  go_wp2_with fail
  refine (C3.out _ H4.out).mono ?_
  rintro e' w5 ⟨rfl, hh⟩
  have H5 := Lib.hid hh
  clear H4 C3 c0 c1
  obtain ⟨c0, c1, _⟩ := hh
  go_wp2_with fail
  refine (C4.out _ H5.out).mono ?_
  rintro e' w6 ⟨rfl, hh⟩
  have H6 := Lib.hid hh
  clear H5 C4 c0 c1
  obtain ⟨c0, c1, _⟩ := hh
  go_wp2_with fail
  refine (C5.out _ H6.out).mono ?_
  rintro e' w7 ⟨rfl, hh⟩
  have H7 := Lib.hid hh
  clear H6 C5 c0 c1
  obtain ⟨c0, c1, _⟩ := hh
  go_wp2_with fail
  refine (C6.out _ H7.out).mono ?_
  rintro e' w8 ⟨rfl, hh⟩
  have H8 := Lib.hid hh
  clear H7 C6 c0 c1
  obtain ⟨c0, c1, _⟩ := hh
  go_wp2_with fail
  clear c0 c1
  obtain ⟨s1, s2, s3, s4, s5⟩ := H8.out
  clear H8
  --GG
  go_region_held3 (fun W => W.cell? ⟨g, 0, none⟩ = some (.int .i64 e) ∧ W.cell? ⟨g, 1, none⟩ = some (.int .i64 s) ∧ Below g w W ∧ g < W.heap.size ∧ Wd W)
    (((try dsimp only); (refine ⟨?_, ?_, ?_, ?_, ?_⟩ <;> (first | assumption | go_keep | exact ⟨s3.os, s3.tape, s3.output, s3.size, s3.block⟩))))
    ((first
      | (go_at_call 22; refine (C7.out _ ?_).mono ?_; assumption; rintro e' w10 ⟨rfl, h1, h2, h3, h4, h5⟩)
      | (go_at_call 21; refine (C8.out _ ?_).mono ?_; assumption; rintro e' w11 ⟨rfl, h1, h2, h3, h4, h5⟩)
      | (go_at_call 24; with_reducible refine (D5.out _ ?_).mono ?_; assumption; rintro e' w12 ⟨rfl, h1, h2, h3, h4, h5⟩)
      | (go_at_call 24; with_reducible refine (D3.out _ ?_).mono ?_; assumption; rintro e' w13 ⟨rfl, h1, h2, h3, h4, h5⟩)
      | (go_at_call 25; refine (D6.out _ ?_).mono ?_; assumption; rintro e' w14 ⟨rfl, h1, h2, h3, h4, h5⟩)))
  go_wp2_with fail
  subst hg
  go_ret
  exact ⟨rfl, h3⟩
theorem walk (y : Int) (hy : I64 y) (T : ByteArray) (hT : T.size ≤ 140737488355328) (U : ByteArray) (hU : U.size ≤ 140737488355328) (e s : Int) (he : I64 e) (hs : I64 s) (w : World) (hw : Wd w) :
    Calls Tryd.prog 6 #[.int .i64 y, .string T, .string U, kv e s] w (IsTrue w) := by
  by_cases h : T.size + U.size ≤ 2000
  · have h2 : T.data.toList.length + U.data.toList.length ≤ 2000 := by rw [← Lib.size_eq, ← Lib.size_eq]; exact h
    by_cases hv : verB y T.data.toList U.data.toList e s = true
    · have := main_yes y T.data.toList U.data.toList e s h2 hv w hw
      rwa [Dg.sv_of, Dg.sv_of] at this
    · have := main_no y T.data.toList U.data.toList e s h2 (Bool.eq_false_iff.2 hv) w hw
      rwa [Dg.sv_of, Dg.sv_of] at this
  · exact long y T U e s h hT hU w hw
set_option maxRecDepth 100000 in
theorem lifted (os : Os) (started : os.Started) (H : Type) (enc : TypeId × Value → H) :
    ReturnsInHanded {} Tryd.checked os 6 .any (fun w args => (Rows.signEquationSpec.pre enc Tryd.prog Tryd.f6 Rows.signEquationRow.domain false w args ∧ laidMetH Tryd.prog Rows.signEquationRow.laid w) ∧ sizedMet enc Tryd.prog Tryd.f6 (OpenSpec.ofChange Rows.signEquationSpec) false w args)
      (Rows.signEquationSpec.post enc Tryd.prog Tryd.f6 false true false false) := by
  refine returns_both (C := Tryd.checked) (X := fun w _ => laidMetH Tryd.prog Rows.signEquationRow.laid w) (fun _ _ _ hh h => h.of_heap hh.symm) own started (by kernel_rfl) Tryd.func6
    (ChangeSpec.witness_shaped (enc := enc) (C := Tryd.checked) (os := os) (X := fun w _ => laidMetH Tryd.prog Rows.signEquationRow.laid w) false (World.laidAll Tryd.prog os Rows.signEquationRow.laid) #[.int .i64 0, .string ⟨#[]⟩, .string ⟨#[]⟩, .agg #[.int .i64 0, .int .i64 0]] 8 (World.laidAll_os _ _ _)
      (World.shaped_of_ZipB (by kernel_rfl) (by kernel_rfl)) (by kernel_rfl) (by kernel_rfl) (by kernel_rfl)
      (by rw [MakeChecks.laidMetH_plain _ _ _ (by kernel_rfl)]; exact laidMet_laidAll _ (by kernel_rfl) (by kernel_rfl))) ?_
  intro W base args ds gs before hval0 hW hsh hX hsz0
  have hsz : (DataW.weightsEach Tryd.prog (Tryd.f6.params.toList ++ Rows.signEquationSpec.plain.varTypes Tryd.prog) (ds ++ gs)).all (· ≤ reachBytes) = true := hsz0
  clear hsz0
  have hWd : Wd W := ⟨tb_of_laid hX, mx_of_shape hsh⟩
  have hval : ∀ (j : Nat) t v, Tryd.f6.params[j]? = some t → args[j]? = some v → Value.okWide Tryd.prog W .any base t v := hval0
  have hW' := hW
  obtain ⟨p, q, hA0, hV, rfl, hfz, hnd⟩ := hW
  have hA : DataW.TrodAll enc Tryd.prog W 0 (fun _ => true) true Tryd.f6.params.toList args.toList ds p := hA0
  rw [Tryd.params6] at hA hval hsz
  obtain ⟨v0, vs0, d0, ds0, p0, q0, hargs, rfl, rfl, h0, r0⟩ := trodAll_cons hA
  obtain ⟨v1, vs1, d1, ds1, p1, q1, rfl, rfl, rfl, h1, r1⟩ := trodAll_cons r0
  obtain ⟨v2, vs2, d2, ds2, p2, q2, rfl, rfl, rfl, h2, r2⟩ := trodAll_cons r1
  obtain ⟨v3, vs3, d3, ds3, p3, q3, rfl, rfl, rfl, h3, r3⟩ := trodAll_cons r2
  obtain ⟨rfl, rfl, rfl⟩ := trodAll_nil r3
  obtain rfl : args = #[v0, v1, v2, v3] := by cases args; simp_all
  obtain ⟨rfl, rfl⟩ := trodVars_none hV
  obtain ⟨a0, rfl, rfl, rfl, w0⟩ := open_int Tryd.underlying3 (hval 0 3 v0 rfl rfl) h0
  obtain ⟨s1, rfl, rfl, rfl, ws1⟩ := Go.ChangeMaps.open_string Tryd.underlying9 (hval 1 9 v1 rfl rfl) h1
  have z1 : s1.size ≤ 140737488355328 := by rw [Lib.size_eq]; exact reach_le (sized_string hsz (j := 1) (t := 9) rfl rfl)
  obtain ⟨s2, rfl, rfl, rfl, ws2⟩ := Go.ChangeMaps.open_string Tryd.underlying9 (hval 2 9 v2 rfl rfl) h2
  have z2 : s2.size ≤ 140737488355328 := by rw [Lib.size_eq]; exact reach_le (sized_string hsz (j := 2) (t := 9) rfl rfl)
  obtain ⟨x3, y3, rfl, wx3, wy3, rfl, t3⟩ := open_pair sigFields cellsSig (hval 3 25 v3 rfl rfl) h3
  clear hA0 hval0
  simp only [List.append_nil] at hW'
  refine (walk a0 (Gp.i64_of_wf w0) s1 z1 s2 z2 x3 y3 wx3 wy3 W hWd).mono fun e W' ⟨he, hb⟩ => ?_
  subst he
  exact ⟨_, rfl, _, _, _, [], _, [], hW', (trodAll_cons_mk (shut_bool Tryd.underlying4 _) trodAll_mk0), (trodAll_cons_mk (shut_int Tryd.underlying3 w0) (trodAll_cons_mk (Go.ChangeMaps.shut_string Tryd.underlying9 ws1) (trodAll_cons_mk (Go.ChangeMaps.shut_string Tryd.underlying9 ws2) (trodAll_cons_mk (t3 _ _ _ _) trodAll_mk0)))), rfl, hb.frame _, fun h => by cases h⟩

theorem over : Rows.SignEquationSaid :=
  OpenClaim.holds_of_wide 6 Tryd.f6 rfl rfl rfl rfl rfl rfl rfl ⟨rfl, rfl, rfl, rfl, rfl⟩ rfl rfl rfl rfl rfl (by kernel_rfl) Tryd.func6 (by kernel_rfl)
    (of_decide_eq_true (by kernel_rfl)) (by unfold Func.isWrapper; first | (rw [if_pos (by decide +kernel)]; kernel_rfl) | (rw [if_neg (by decide +kernel)]; exact ⟨rfl, rfl⟩))
    (fun os started H enc _ => lifted os started H enc)
theorem proved : Rows.SignEquationCardSaid :=
  Claim7.holds_tied_plain_at .later [] [.data, .data, .data, .pinned] true Rows.signEquationCard.stood.harness false over (fun _ h => by cases h) (by kernel_rfl) (fun _ h => by cases h) signEquation_row_tie rfl ⟨rfl, rfl⟩ (by kernel_rfl) rfl
    (fun f fn hf hfn => by
      obtain rfl : f = 6 := Option.some.inj ((show Tryd.prog.funcNamed "bourne/bournelaw05.SignEquation" = some 6 by kernel_rfl).symm.trans hf) |>.symm
      obtain rfl : fn = Tryd.f6 := (Option.some.inj (Tryd.func6.symm.trans hfn)).symm
      exact ⟨by kernel_rfl, fun j t ht => by
        rw [Tryd.params6] at ht
        have hm : t ∈ [3, 9, 9, 25] := by simpa using Array.mem_of_getElem? ht
        have hall : ([3, 9, 9, 25].all fun u => !Tryd.prog.wantsStandIn u) = true := by kernel_rfl
        exact (show Tryd.prog.wantsStandIn t = false by simpa using List.all_eq_true.1 hall t hm)⟩)
    (by kernel_rfl)
end Go.Proofs.YtfmjankmfddefaaDoor.signEquation
