/- The statement SignBinds: a signature for one context and message is accepted for another exactly if the challenges are equal. Conditions: those of the card; the statement's own bounds. -/
import Derived.Test.YtfmjankmfddefaaDoorSCard
import Derived.Test.YtfmjankmfddefaaDoorSRef
namespace Go.Proofs.YtfmjankmfddefaaDoor.signBinds
open Go.ChangeShapes Go.WideShapes Go.ChangeAt Go.RowKit
open Sg Gp Gp.Grp Wr.Wm
open Dg (sv)
set_option linter.unusedVariables false

theorem long (S T U V X : ByteArray) (h : ¬ (S.size + T.size + U.size ≤ 2000)) (hS : S.size ≤ 140737488355328) (hT : T.size ≤ 140737488355328) (hU : U.size ≤ 140737488355328) (hV : V.size ≤ 140737488355328) (hX : X.size ≤ 140737488355328) (w : World) (hw : Wd w) :
    Calls Tryd.prog 5 #[.string S, .string T, .string U, .string V, .string X] w (IsTrue w) := by
  have SM := Lib.hid small_any
  have HW := Lib.hid hw
  have SH := Lib.hid (short_f S T U h hS hT hU)
  have SH2 := Lib.hid (short_any V X ⟨#[]⟩ hV hX (by decide))
  generalize decide (V.size + X.size + (⟨#[]⟩ : ByteArray).size ≤ 2000) = b at *
  clear hw h hS hT hU hV hX
  go_enter Tryd.func5, Tryd.ntmps5
  go_wp2_with fail
  refine (SM.out _ HW.out).mono ?_
  rintro e w1 ⟨rfl, hb⟩
  have B1 := Lib.hid hb
  clear hb SM
  go_wp2_with fail
  refine (SH.out _).mono ?_
  rintro e w2 ⟨rfl, hb⟩
  have B2 := Lib.hid (below_trans B1.out hb)
  clear hb SH B1
  go_wp2_with fail
  refine (SH2.out _).mono ?_
  rintro e w3 ⟨rfl, hb⟩
  have B3 := Lib.hid (below_trans B2.out hb)
  clear hb SH2 B2
  go_wp2_with fail
  go_ret
  exact ⟨rfl, B3.out⟩
theorem long2 (S T U V X : ByteArray) (h : S.size + T.size + U.size ≤ 2000) (h2 : ¬ (V.size + X.size ≤ 2000)) (hV : V.size ≤ 140737488355328) (hX : X.size ≤ 140737488355328) (w : World) (hw : Wd w) :
    Calls Tryd.prog 5 #[.string S, .string T, .string U, .string V, .string X] w (IsTrue w) := by
  have SM := Lib.hid small_any
  have HW := Lib.hid hw
  have SH := Lib.hid (short_t S T U h)
  have SH2 := Lib.hid (short_f V X ⟨#[]⟩ (by show ¬ (V.size + X.size + 0 ≤ 2000); omega) hV hX (by decide))
  clear hw h hV hX h2
  go_enter Tryd.func5, Tryd.ntmps5
  go_wp2_with fail
  refine (SM.out _ HW.out).mono ?_
  rintro e w1 ⟨rfl, hb⟩
  have B1 := Lib.hid hb
  clear hb SM
  go_wp2_with fail
  refine (SH.out _).mono ?_
  rintro e w2 ⟨rfl, hb⟩
  have B2 := Lib.hid (below_trans B1.out hb)
  clear hb SH B1
  go_wp2_with fail
  refine (SH2.out _).mono ?_
  rintro e w3 ⟨rfl, hb⟩
  have B3 := Lib.hid (below_trans B2.out hb)
  clear hb SH2 B2
  go_wp2_with fail
  go_ret
  exact ⟨rfl, B3.out⟩
/-- A key and a signature in memory, and what has been made since w. -/
theorem KS.drew {w W : World} {g1 g3 : Nat} {a b e f : Value} (x : KS w g1 g3 a b e f W) : KS w g1 g3 a b e f W.drew :=
  ⟨x.k, x.s, ⟨x.b.os, x.b.tape, x.b.output, x.b.size, x.b.block⟩, x.wd⟩
theorem KS.all {w W : World} {g1 g3 : Nat} {a b e f : Value} (x : KS w g1 g3 a b e f W) : W.cell? ⟨g1, 0, none⟩ = some a ∧ W.cell? ⟨g1, 1, none⟩ = some b ∧ W.cell? ⟨g3, 0, none⟩ = some e ∧ W.cell? ⟨g3, 1, none⟩ = some f ∧ KS w g1 g3 a b e f W :=
  ⟨x.k.cell 0, x.k.cell 1, x.s.cell 0, x.s.cell 1, x⟩
theorem KS.call {w : World} {g1 g3 : Nat} {a b e f : Value} {p : FuncId} {args : Array Value} {v : Value} (C : ∀ W, Wd W → Calls Tryd.prog p args W (Ret v W)) (W : World)
    (h : W.cell? ⟨g1, 0, none⟩ = some a ∧ W.cell? ⟨g1, 1, none⟩ = some b ∧ W.cell? ⟨g3, 0, none⟩ = some e ∧ W.cell? ⟨g3, 1, none⟩ = some f ∧ KS w g1 g3 a b e f W) :
    Calls Tryd.prog p args W fun x W' => x = .returned v ∧ (W'.cell? ⟨g1, 0, none⟩ = some a ∧ W'.cell? ⟨g1, 1, none⟩ = some b ∧ W'.cell? ⟨g3, 0, none⟩ = some e ∧ W'.cell? ⟨g3, 1, none⟩ = some f ∧ KS w g1 g3 a b e f W') :=
  (C W h.2.2.2.2.wd).mono fun x W' hr => ⟨hr.1, KS.all (h.2.2.2.2.next hr.2)⟩
set_option maxHeartbeats 4000000 in
set_option maxRecDepth 100000 in
theorem main (s c m c2 m2 : Bs) (h : s.length + c.length + m.length ≤ 2000) (h2 : c2.length + m2.length ≤ 2000) (w : World) (hw : Wd w) :
    Calls Tryd.prog 5 #[.string (sv s), .string (sv c), .string (sv m), .string (sv c2), .string (sv m2)] w (IsTrue w) := by
  have SM := Lib.hid small_any
  have HW := Lib.hid hw
  have SH := Lib.hid (short_t (sv s) (sv c) (sv m) h)
  have SH2 := Lib.hid (short_t (sv c2) (sv m2) ⟨#[]⟩ (by show c2.length + m2.length + 0 ≤ 2000; omega))
  have hk := okx_key s
  have C1 := Lib.hid (key_any s (by omega))
  have C2 := Lib.hid (sign_yes hk c m (by omega))
  have hE := chS_bd (xe 4 (nonS (keyS s) c m)) (xe 4 (keyS s)) c m
  have hE1 : sgE (keyS s) c m = chS (xe 4 (nonS (keyS s) c m)) (xe 4 (keyS s)) c m := rfl
  rw [← hE1] at hE
  have hS := rq_bd (nonS (keyS s) c m + rq (sgE (keyS s) c m * keyS s))
  have hS1 : sgS (keyS s) c m = rq (nonS (keyS s) c m + rq (sgE (keyS s) c m * keyS s)) := rfl
  rw [← hS1] at hS
  have hY := of_inB (pub_in (x := keyS s))
  have hel : 0 ≤ elt (xe 4 (keyS s)) (sgE (keyS s) c m) (sgS (keyS s) c m) ∧ elt (xe 4 (keyS s)) (sgE (keyS s) c m) (sgS (keyS s) c m) < 2305843009213691579 := mu_bd _ _
  have C3 := Lib.hid (relement_any (xe 4 (keyS s)) (sgE (keyS s) c m) (sgS (keyS s) c m) hE hS)
  have C4 := Lib.hid (rchallenge_any (elt (xe 4 (keyS s)) (sgE (keyS s) c m) (sgS (keyS s) c m)) (xe 4 (keyS s)) c2 m2 hel.1 hel.2 (by omega) hY.2.1 h2)
  have C5 := Lib.hid (verify_any (xe 4 (keyS s)) (sgE (keyS s) c m) (sgS (keyS s) c m) c2 m2 h2)
  rw [ver_other hk] at C5
  clear hE hE1 hS hS1 hY hel hk hw h h2
  generalize chS (elt (xe 4 (keyS s)) (sgE (keyS s) c m) (sgS (keyS s) c m)) (xe 4 (keyS s)) c2 m2 = D at *
  generalize elt (xe 4 (keyS s)) (sgE (keyS s) c m) (sgS (keyS s) c m) = r at *
  generalize sgE (keyS s) c m = E at *
  generalize sgS (keyS s) c m = S at *
  generalize xe 4 (keyS s) = Y at *
  generalize keyS s = X at *
  obtain ⟨b, hb0⟩ : ∃ b, (D == E) = b := ⟨_, rfl⟩
  rw [hb0] at C5
  have hbb : (b == b) = true := beq_self_eq_true b
  unfold kv at *
  go_enter Tryd.func5, Tryd.ntmps5
  go_wp2_with fail
  refine (SM.out _ HW.out).mono ?_
  rintro e w1 ⟨rfl, hb⟩
  have B1 := Lib.hid hb
  clear hb SM
  go_wp2_with fail
  refine (SH.out _).mono ?_
  rintro e w2 ⟨rfl, hb⟩
  have B2 := Lib.hid (below_trans B1.out hb)
  clear hb SH B1
  go_wp2_with fail
  refine (SH2.out _).mono ?_
  rintro e w3 ⟨rfl, hb⟩
  have B3 := Lib.hid (below_trans B2.out hb)
  clear hb SH2 B2
  go_wp2_with fail
  refine (C1.out _ (HW.out.below B3.out)).mono ?_
  rintro e w4 ⟨rfl, hb⟩
  have B4 := Lib.hid (below_trans B3.out hb)
  clear hb C1 B3
  go_wp2_with fail
  refine (C2.out _ (HW.out.below (below_trans B4.out (below_alloc _ _)))).mono ?_
  rintro e w5 ⟨rfl, hb⟩
  have H5 := Lib.hid (ks_new (c := .int .i64 E) (d := .int .i64 S) B4.out HW.out hb)
  clear hb C2 B4
  have c0 := H5.out.k.cell 0
  have c1 := H5.out.k.cell 1
  have c2' := H5.out.s.cell 0
  have c3 := H5.out.s.cell 1
  go_wp2_with fail
  refine (C3.out _ H5.out.wd).mono ?_
  rintro e w6 ⟨rfl, hb⟩
  clear c0 c1 c2' c3
  have C4' := Lib.hid (fun W => KS.call (w := w) (g1 := w4.heap.size) (g3 := w5.heap.size) (a := .int .i64 X) (b := .int .i64 Y) (e := .int .i64 E) (f := .int .i64 S) C4.out W)
  obtain ⟨s1, s2, s3, s4, s5⟩ := KS.all (H5.out.next hb)
  clear hb H5 C3 C4
  go_wp2_with fail
  --GG
  go_region_held3 (fun W => W.cell? ⟨w4.heap.size, 0, none⟩ = some (.int .i64 X) ∧ W.cell? ⟨w4.heap.size, 1, none⟩ = some (.int .i64 Y) ∧ W.cell? ⟨w5.heap.size, 0, none⟩ = some (.int .i64 E) ∧ W.cell? ⟨w5.heap.size, 1, none⟩ = some (.int .i64 S) ∧ KS w w4.heap.size w5.heap.size (.int .i64 X) (.int .i64 Y) (.int .i64 E) (.int .i64 S) W)
    (((try dsimp only); (refine ⟨?_, ?_, ?_, ?_, ?_⟩ <;> (first | assumption | go_keep | exact KS.drew ‹_›))))
    ((first
      | (go_at_call 21; refine (C4'.out _ ?_).mono ?_; assumption; rintro e' w20 ⟨rfl, h1, h2, h3, h4, h5⟩)))
  have H20 := Lib.hid h5
  clear s1 s2 s3 s4 s5 h5 C4'
  go_wp2_with fail
  refine (C5.out _ H20.out.wd).mono ?_
  rintro e w21 ⟨rfl, hb⟩
  have H21 := Lib.hid (H20.out.next hb)
  clear hb H20 C5 h1 h2 h3 h4
  go_wp2_with fail
  go_ret
  exact ⟨rfl, H21.out.b⟩
theorem walk (S : ByteArray) (hS : S.size ≤ 140737488355328) (T : ByteArray) (hT : T.size ≤ 140737488355328) (U : ByteArray) (hU : U.size ≤ 140737488355328) (V : ByteArray) (hV : V.size ≤ 140737488355328) (X : ByteArray) (hX : X.size ≤ 140737488355328) (w : World) (hw : Wd w) :
    Calls Tryd.prog 5 #[.string S, .string T, .string U, .string V, .string X] w (IsTrue w) := by
  by_cases h : S.size + T.size + U.size ≤ 2000
  · by_cases h1 : V.size + X.size ≤ 2000
    · have h2 : S.data.toList.length + T.data.toList.length + U.data.toList.length ≤ 2000 := by rw [← Lib.size_eq, ← Lib.size_eq, ← Lib.size_eq]; exact h
      have h3 : V.data.toList.length + X.data.toList.length ≤ 2000 := by rw [← Lib.size_eq, ← Lib.size_eq]; exact h1
      have := main S.data.toList T.data.toList U.data.toList V.data.toList X.data.toList h2 h3 w hw
      rwa [Dg.sv_of, Dg.sv_of, Dg.sv_of, Dg.sv_of, Dg.sv_of] at this
    · exact long2 S T U V X h h1 hV hX w hw
  · exact long S T U V X h hS hT hU hV hX w hw
set_option maxRecDepth 100000 in
theorem lifted (os : Os) (started : os.Started) (H : Type) (enc : TypeId × Value → H) :
    ReturnsInHanded {} Tryd.checked os 5 .any (fun w args => (Rows.signBindsSpec.pre enc Tryd.prog Tryd.f5 Rows.signBindsRow.domain false w args ∧ laidMetH Tryd.prog Rows.signBindsRow.laid w) ∧ sizedMet enc Tryd.prog Tryd.f5 (OpenSpec.ofChange Rows.signBindsSpec) false w args)
      (Rows.signBindsSpec.post enc Tryd.prog Tryd.f5 false true false false) := by
  refine returns_both (C := Tryd.checked) (X := fun w _ => laidMetH Tryd.prog Rows.signBindsRow.laid w) (fun _ _ _ hh h => h.of_heap hh.symm) own started (by kernel_rfl) Tryd.func5
    (ChangeSpec.witness_shaped (enc := enc) (C := Tryd.checked) (os := os) (X := fun w _ => laidMetH Tryd.prog Rows.signBindsRow.laid w) false (World.laidAll Tryd.prog os Rows.signBindsRow.laid) #[.string ⟨#[]⟩, .string ⟨#[]⟩, .string ⟨#[]⟩, .string ⟨#[]⟩, .string ⟨#[]⟩] 8 (World.laidAll_os _ _ _)
      (World.shaped_of_ZipB (by kernel_rfl) (by kernel_rfl)) (by kernel_rfl) (by kernel_rfl) (by kernel_rfl)
      (by rw [MakeChecks.laidMetH_plain _ _ _ (by kernel_rfl)]; exact laidMet_laidAll _ (by kernel_rfl) (by kernel_rfl))) ?_
  intro W base args ds gs before hval0 hW hsh hX hsz0
  have hsz : (DataW.weightsEach Tryd.prog (Tryd.f5.params.toList ++ Rows.signBindsSpec.plain.varTypes Tryd.prog) (ds ++ gs)).all (· ≤ reachBytes) = true := hsz0
  clear hsz0
  have hWd : Wd W := ⟨tb_of_laid hX, mx_of_shape hsh⟩
  have hval : ∀ (j : Nat) t v, Tryd.f5.params[j]? = some t → args[j]? = some v → Value.okWide Tryd.prog W .any base t v := hval0
  have hW' := hW
  obtain ⟨p, q, hA0, hV, rfl, hfz, hnd⟩ := hW
  have hA : DataW.TrodAll enc Tryd.prog W 0 (fun _ => true) true Tryd.f5.params.toList args.toList ds p := hA0
  rw [Tryd.params5] at hA hval hsz
  obtain ⟨v0, vs0, d0, ds0, p0, q0, hargs, rfl, rfl, h0, r0⟩ := trodAll_cons hA
  obtain ⟨v1, vs1, d1, ds1, p1, q1, rfl, rfl, rfl, h1, r1⟩ := trodAll_cons r0
  obtain ⟨v2, vs2, d2, ds2, p2, q2, rfl, rfl, rfl, h2, r2⟩ := trodAll_cons r1
  obtain ⟨v3, vs3, d3, ds3, p3, q3, rfl, rfl, rfl, h3, r3⟩ := trodAll_cons r2
  obtain ⟨v4, vs4, d4, ds4, p4, q4, rfl, rfl, rfl, h4, r4⟩ := trodAll_cons r3
  obtain ⟨rfl, rfl, rfl⟩ := trodAll_nil r4
  obtain rfl : args = #[v0, v1, v2, v3, v4] := by cases args; simp_all
  obtain ⟨rfl, rfl⟩ := trodVars_none hV
  obtain ⟨s0, rfl, rfl, rfl, ws0⟩ := Go.ChangeMaps.open_string Tryd.underlying9 (hval 0 9 v0 rfl rfl) h0
  have z0 : s0.size ≤ 140737488355328 := by rw [Lib.size_eq]; exact reach_le (sized_string hsz (j := 0) (t := 9) rfl rfl)
  obtain ⟨s1, rfl, rfl, rfl, ws1⟩ := Go.ChangeMaps.open_string Tryd.underlying9 (hval 1 9 v1 rfl rfl) h1
  have z1 : s1.size ≤ 140737488355328 := by rw [Lib.size_eq]; exact reach_le (sized_string hsz (j := 1) (t := 9) rfl rfl)
  obtain ⟨s2, rfl, rfl, rfl, ws2⟩ := Go.ChangeMaps.open_string Tryd.underlying9 (hval 2 9 v2 rfl rfl) h2
  have z2 : s2.size ≤ 140737488355328 := by rw [Lib.size_eq]; exact reach_le (sized_string hsz (j := 2) (t := 9) rfl rfl)
  obtain ⟨s3, rfl, rfl, rfl, ws3⟩ := Go.ChangeMaps.open_string Tryd.underlying9 (hval 3 9 v3 rfl rfl) h3
  have z3 : s3.size ≤ 140737488355328 := by rw [Lib.size_eq]; exact reach_le (sized_string hsz (j := 3) (t := 9) rfl rfl)
  obtain ⟨s4, rfl, rfl, rfl, ws4⟩ := Go.ChangeMaps.open_string Tryd.underlying9 (hval 4 9 v4 rfl rfl) h4
  have z4 : s4.size ≤ 140737488355328 := by rw [Lib.size_eq]; exact reach_le (sized_string hsz (j := 4) (t := 9) rfl rfl)
  clear hA0 hval0
  simp only [List.append_nil] at hW'
  refine (walk s0 z0 s1 z1 s2 z2 s3 z3 s4 z4 W hWd).mono fun e W' ⟨he, hb⟩ => ?_
  subst he
  exact ⟨_, rfl, _, _, _, [], _, [], hW', (trodAll_cons_mk (shut_bool Tryd.underlying4 _) trodAll_mk0), (trodAll_cons_mk (Go.ChangeMaps.shut_string Tryd.underlying9 ws0) (trodAll_cons_mk (Go.ChangeMaps.shut_string Tryd.underlying9 ws1) (trodAll_cons_mk (Go.ChangeMaps.shut_string Tryd.underlying9 ws2) (trodAll_cons_mk (Go.ChangeMaps.shut_string Tryd.underlying9 ws3) (trodAll_cons_mk (Go.ChangeMaps.shut_string Tryd.underlying9 ws4) trodAll_mk0))))), rfl, hb.frame _, fun h => by cases h⟩

theorem over : Rows.SignBindsSaid :=
  OpenClaim.holds_of_wide 5 Tryd.f5 rfl rfl rfl rfl rfl rfl rfl ⟨rfl, rfl, rfl, rfl, rfl⟩ rfl rfl rfl rfl rfl (by kernel_rfl) Tryd.func5 (by kernel_rfl)
    (of_decide_eq_true (by kernel_rfl)) (by unfold Func.isWrapper; first | (rw [if_pos (by decide +kernel)]; kernel_rfl) | (rw [if_neg (by decide +kernel)]; exact ⟨rfl, rfl⟩))
    (fun os started H enc _ => lifted os started H enc)
theorem proved : Rows.SignBindsCardSaid :=
  Claim7.holds_tied_plain_at .later [] [.data, .data, .data, .pinned] true Rows.signBindsCard.stood.harness false over (fun _ h => by cases h) (by kernel_rfl) (fun _ h => by cases h) signBinds_row_tie rfl ⟨rfl, rfl⟩ (by kernel_rfl) rfl
    (fun f fn hf hfn => by
      obtain rfl : f = 5 := Option.some.inj ((show Tryd.prog.funcNamed "bourne/bournelaw05.SignBinds" = some 5 by kernel_rfl).symm.trans hf) |>.symm
      obtain rfl : fn = Tryd.f5 := (Option.some.inj (Tryd.func5.symm.trans hfn)).symm
      exact ⟨by kernel_rfl, fun j t ht => by
        rw [Tryd.params5] at ht
        have hm : t ∈ [9, 9, 9, 9, 9] := by simpa using Array.mem_of_getElem? ht
        have hall : ([9, 9, 9, 9, 9].all fun u => !Tryd.prog.wantsStandIn u) = true := by kernel_rfl
        exact (show Tryd.prog.wantsStandIn t = false by simpa using List.all_eq_true.1 hall t hm)⟩)
    (by kernel_rfl)
end Go.Proofs.YtfmjankmfddefaaDoor.signBinds
