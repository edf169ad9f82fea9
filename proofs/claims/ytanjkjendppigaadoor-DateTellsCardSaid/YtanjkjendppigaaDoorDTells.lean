/- The statement DateTells: Of, Hour and Day return what the reference returns. Conditions: those of its row. -/
import Derived.Test.YtanjkjendppigaaDoorDCard
namespace Go.Proofs.YtanjkjendppigaaDoor.dateTells
open Go.ChangeShapes Go.WideShapes Go.ChangeAt Go.RowKit Go.Joins Cal Dy
set_option linter.unusedVariables false
set_option maxRecDepth 100000

theorem ofV_shape (h : Int) : ∃ (a b c d : Int) (o : Bool), ofV h = .tuple #[dv a b c d, .bool o] := by
  unfold ofV
  split
  · exact ⟨_, _, _, _, _, rfl⟩
  · exact ⟨_, _, _, _, _, rfl⟩
set_option maxHeartbeats 2000000 in
theorem walk (a : Int) (wa : I64 a) (y m d h : Int) (wy : I64 y) (wm : I64 m) (wd : I64 d) (wh : I64 h) (w : World) (hW : Wd w) : Calls Tryd.prog 3 #[.int .i64 a, dv y m d h] w (IsTrue w) := by
  have HSM := Lib.hid (fun W hW => small_any W hW)
  have HO := Lib.hid (fun W hW => of_any a W hW)
  have HR := Lib.hid (fun W => rof_any a W)
  have HH := Lib.hid (fun W hW => hour_any y m d h W hW)
  have HI := Lib.hid (fun W => rhour_any y m d h W)
  have HD := Lib.hid (fun W => (day_any a W).mono fun e w' hh => (⟨hh.1, hh.2 ▸ below_self _⟩ : e = _ ∧ Below W.heap.size W w'))
  have HE := Lib.hid (fun W => (refday_any a W).mono fun e w' hh => (⟨hh.1, hh.2 ▸ below_self _⟩ : e = _ ∧ Below W.heap.size W w'))
  obtain ⟨q0, q1, q2, q3, o, hq⟩ := ofV_shape a
  rw [hq] at HO HR
  unfold hourV at HH HI
  generalize hourN y m d h = n at *
  generalize decide (okI y m d h) = ok at *
  generalize dayI a = da at *
  unfold dv at *
  have HS0 := Lib.hid (show Below w.heap.size w w ∧ Wd w from ⟨below_self w, hW⟩)
  have HS1 := Lib.hid (⟨below_trans HS0.out.1 (below_alloc _ (.cells #[.int .i64 y, .int .i64 m, .int .i64 d, .int .i64 h] 23)), HS0.out.2.below (below_alloc _ (.cells #[.int .i64 y, .int .i64 m, .int .i64 d, .int .i64 h] 23))⟩ : _ ∧ _)
  have BD_1 := Lib.hid (Blk.new w 23 #[.int .i64 y, .int .i64 m, .int .i64 d, .int .i64 h])
  clear HS0 
  clear hW wa wy wm wd wh hq
  go_enter Tryd.func3, Tryd.ntmps3
  go_wp2_with fail
  refine (HSM.out _ HS1.out.2).mono ?_
  rintro e w2 ⟨rfl, hb⟩
  have HS2 := Lib.hid (⟨below_trans HS1.out.1 hb, HS1.out.2.below hb⟩ : _ ∧ _)
  have BD_2 := Lib.hid (BD_1.out.below hb (Nat.le_refl _))
  clear hb HS1 BD_1
  have cBD0 := BD_2.out.cell 0
  have cBD1 := BD_2.out.cell 1
  have cBD2 := BD_2.out.cell 2
  have cBD3 := BD_2.out.cell 3
  go_wp2_with fail
  clear cBD0 cBD1 cBD2 cBD3
  refine (HO.out _ HS2.out.2).mono ?_
  rintro e w3 ⟨rfl, hb⟩
  have HS3 := Lib.hid (⟨below_trans HS2.out.1 hb, HS2.out.2.below hb⟩ : _ ∧ _)
  have BD_3 := Lib.hid (BD_2.out.below hb (Nat.le_refl _))
  clear hb HS2 BD_2
  have HS4 := Lib.hid (⟨below_trans HS3.out.1 (below_alloc _ (.cells #[.int .i64 q0, .int .i64 q1, .int .i64 q2, .int .i64 q3] 23)), HS3.out.2.below (below_alloc _ (.cells #[.int .i64 q0, .int .i64 q1, .int .i64 q2, .int .i64 q3] 23))⟩ : _ ∧ _)
  have BD_4 := Lib.hid (BD_3.out.below (below_alloc w3 (.cells #[.int .i64 q0, .int .i64 q1, .int .i64 q2, .int .i64 q3] 23)) (Nat.le_refl _))
  have BA_4 := Lib.hid (Blk.new w3 23 #[.int .i64 q0, .int .i64 q1, .int .i64 q2, .int .i64 q3])
  clear HS3 BD_3
  have cBD0 := BD_4.out.cell 0
  have cBD1 := BD_4.out.cell 1
  have cBD2 := BD_4.out.cell 2
  have cBD3 := BD_4.out.cell 3
  have cBA0 := BA_4.out.cell 0
  have cBA1 := BA_4.out.cell 1
  have cBA2 := BA_4.out.cell 2
  have cBA3 := BA_4.out.cell 3
  go_wp2_with fail
  clear cBD0 cBD1 cBD2 cBD3 cBA0 cBA1 cBA2 cBA3
  refine (HR.out _).mono ?_
  rintro e w5 ⟨rfl, hb⟩
  have HS5 := Lib.hid (⟨below_trans HS4.out.1 hb, HS4.out.2.below hb⟩ : _ ∧ _)
  have BD_5 := Lib.hid (BD_4.out.below hb (Nat.le_refl _))
  have BA_5 := Lib.hid (BA_4.out.below hb (Nat.le_refl _))
  clear hb HS4 BD_4 BA_4
  have HS6 := Lib.hid (⟨below_trans HS5.out.1 (below_alloc _ (.cells #[.int .i64 q0, .int .i64 q1, .int .i64 q2, .int .i64 q3] 23)), HS5.out.2.below (below_alloc _ (.cells #[.int .i64 q0, .int .i64 q1, .int .i64 q2, .int .i64 q3] 23))⟩ : _ ∧ _)
  have BD_6 := Lib.hid (BD_5.out.below (below_alloc w5 (.cells #[.int .i64 q0, .int .i64 q1, .int .i64 q2, .int .i64 q3] 23)) (Nat.le_refl _))
  have BA_6 := Lib.hid (BA_5.out.below (below_alloc w5 (.cells #[.int .i64 q0, .int .i64 q1, .int .i64 q2, .int .i64 q3] 23)) (Nat.le_refl _))
  have BB_6 := Lib.hid (Blk.new w5 23 #[.int .i64 q0, .int .i64 q1, .int .i64 q2, .int .i64 q3])
  clear HS5 BD_5 BA_5
  have cBD0 := BD_6.out.cell 0
  have cBD1 := BD_6.out.cell 1
  have cBD2 := BD_6.out.cell 2
  have cBD3 := BD_6.out.cell 3
  have cBA0 := BA_6.out.cell 0
  have cBA1 := BA_6.out.cell 1
  have cBA2 := BA_6.out.cell 2
  have cBA3 := BA_6.out.cell 3
  have cBB0 := BB_6.out.cell 0
  have cBB1 := BB_6.out.cell 1
  have cBB2 := BB_6.out.cell 2
  have cBB3 := BB_6.out.cell 3
  go_wp2_with fail
  clear cBD0 cBD1 cBD2 cBD3 cBA0 cBA1 cBA2 cBA3 cBB0 cBB1 cBB2 cBB3
  refine (HH.out _ HS6.out.2).mono ?_
  rintro e w7 ⟨rfl, hb⟩
  have HS7 := Lib.hid (⟨below_trans HS6.out.1 hb, HS6.out.2.below hb⟩ : _ ∧ _)
  have BD_7 := Lib.hid (BD_6.out.below hb (Nat.le_refl _))
  have BA_7 := Lib.hid (BA_6.out.below hb (Nat.le_refl _))
  have BB_7 := Lib.hid (BB_6.out.below hb (Nat.le_refl _))
  clear hb HS6 BD_6 BA_6 BB_6
  have cBD0 := BD_7.out.cell 0
  have cBD1 := BD_7.out.cell 1
  have cBD2 := BD_7.out.cell 2
  have cBD3 := BD_7.out.cell 3
  have cBA0 := BA_7.out.cell 0
  have cBA1 := BA_7.out.cell 1
  have cBA2 := BA_7.out.cell 2
  have cBA3 := BA_7.out.cell 3
  have cBB0 := BB_7.out.cell 0
  have cBB1 := BB_7.out.cell 1
  have cBB2 := BB_7.out.cell 2
  have cBB3 := BB_7.out.cell 3
  go_wp2_with fail
  clear cBD0 cBD1 cBD2 cBD3 cBA0 cBA1 cBA2 cBA3 cBB0 cBB1 cBB2 cBB3
  refine (HI.out _).mono ?_
  rintro e w8 ⟨rfl, hb⟩
  have HS8 := Lib.hid (⟨below_trans HS7.out.1 hb, HS7.out.2.below hb⟩ : _ ∧ _)
  have BD_8 := Lib.hid (BD_7.out.below hb (Nat.le_refl _))
  have BA_8 := Lib.hid (BA_7.out.below hb (Nat.le_refl _))
  have BB_8 := Lib.hid (BB_7.out.below hb (Nat.le_refl _))
  clear hb HS7 BD_7 BA_7 BB_7
  have cBD0 := BD_8.out.cell 0
  have cBD1 := BD_8.out.cell 1
  have cBD2 := BD_8.out.cell 2
  have cBD3 := BD_8.out.cell 3
  have cBA0 := BA_8.out.cell 0
  have cBA1 := BA_8.out.cell 1
  have cBA2 := BA_8.out.cell 2
  have cBA3 := BA_8.out.cell 3
  have cBB0 := BB_8.out.cell 0
  have cBB1 := BB_8.out.cell 1
  have cBB2 := BB_8.out.cell 2
  have cBB3 := BB_8.out.cell 3
  go_wp2_with fail
  clear cBD0 cBD1 cBD2 cBD3 cBA0 cBA1 cBA2 cBA3 cBB0 cBB1 cBB2 cBB3
  refine (HD.out _).mono ?_
  rintro e w9 ⟨rfl, hb⟩
  have HS9 := Lib.hid (⟨below_trans HS8.out.1 hb, HS8.out.2.below hb⟩ : _ ∧ _)
  have BD_9 := Lib.hid (BD_8.out.below hb (Nat.le_refl _))
  have BA_9 := Lib.hid (BA_8.out.below hb (Nat.le_refl _))
  have BB_9 := Lib.hid (BB_8.out.below hb (Nat.le_refl _))
  clear hb HS8 BD_8 BA_8 BB_8
  have cBD0 := BD_9.out.cell 0
  have cBD1 := BD_9.out.cell 1
  have cBD2 := BD_9.out.cell 2
  have cBD3 := BD_9.out.cell 3
  have cBA0 := BA_9.out.cell 0
  have cBA1 := BA_9.out.cell 1
  have cBA2 := BA_9.out.cell 2
  have cBA3 := BA_9.out.cell 3
  have cBB0 := BB_9.out.cell 0
  have cBB1 := BB_9.out.cell 1
  have cBB2 := BB_9.out.cell 2
  have cBB3 := BB_9.out.cell 3
  go_wp2_with fail
  clear cBD0 cBD1 cBD2 cBD3 cBA0 cBA1 cBA2 cBA3 cBB0 cBB1 cBB2 cBB3
  refine (HE.out _).mono ?_
  rintro e w10 ⟨rfl, hb⟩
  have HS10 := Lib.hid (⟨below_trans HS9.out.1 hb, HS9.out.2.below hb⟩ : _ ∧ _)
  have BD_10 := Lib.hid (BD_9.out.below hb (Nat.le_refl _))
  have BA_10 := Lib.hid (BA_9.out.below hb (Nat.le_refl _))
  have BB_10 := Lib.hid (BB_9.out.below hb (Nat.le_refl _))
  clear hb HS9 BD_9 BA_9 BB_9
  have cBD0 := BD_10.out.cell 0
  have cBD1 := BD_10.out.cell 1
  have cBD2 := BD_10.out.cell 2
  have cBD3 := BD_10.out.cell 3
  have cBA0 := BA_10.out.cell 0
  have cBA1 := BA_10.out.cell 1
  have cBA2 := BA_10.out.cell 2
  have cBA3 := BA_10.out.cell 3
  have cBB0 := BB_10.out.cell 0
  have cBB1 := BB_10.out.cell 1
  have cBB2 := BB_10.out.cell 2
  have cBB3 := BB_10.out.cell 3
  go_wp2_with fail
  clear cBD0 cBD1 cBD2 cBD3 cBA0 cBA1 cBA2 cBA3 cBB0 cBB1 cBB2 cBB3
  go_ret
  exact ⟨rfl, HS10.out.1⟩
set_option maxRecDepth 100000 in
theorem lifted (os : Os) (started : os.Started) (H : Type) (enc : TypeId × Value → H) :
    ReturnsInHanded {} Tryd.checked os 3 .any (fun w args => (Rows.dateTellsSpec.pre enc Tryd.prog Tryd.f3 Rows.dateTellsRow.domain false w args ∧ laidMetH Tryd.prog Rows.dateTellsRow.laid w) ∧ sizedMet enc Tryd.prog Tryd.f3 (OpenSpec.ofChange Rows.dateTellsSpec) false w args)
      (Rows.dateTellsSpec.post enc Tryd.prog Tryd.f3 false true false false) := by
  refine returns_both (C := Tryd.checked) (X := fun w _ => laidMetH Tryd.prog Rows.dateTellsRow.laid w) (fun _ _ _ hh h => h.of_heap hh.symm) own started (by kernel_rfl) Tryd.func3
    (ChangeSpec.witness_shaped (enc := enc) (C := Tryd.checked) (os := os) (X := fun w _ => laidMetH Tryd.prog Rows.dateTellsRow.laid w) false (World.laidAll Tryd.prog os Rows.dateTellsRow.laid) #[.int .i64 0, .agg #[.int .i64 0, .int .i64 0, .int .i64 0, .int .i64 0]] 8 (World.laidAll_os _ _ _)
      (World.shaped_of_ZipB (by kernel_rfl) (by kernel_rfl)) (by kernel_rfl) (by kernel_rfl) (by kernel_rfl)
      (by rw [MakeChecks.laidMetH_plain _ _ _ (by kernel_rfl)]; exact laidMet_laidAll _ (by kernel_rfl) (by kernel_rfl))) ?_
  intro W base args ds gs before hval0 hW hsh hX hsz0
  have hsz : (DataW.weightsEach Tryd.prog (Tryd.f3.params.toList ++ Rows.dateTellsSpec.plain.varTypes Tryd.prog) (ds ++ gs)).all (· ≤ reachBytes) = true := hsz0
  clear hsz0
  have hWd : Wd W := wd_of_laid hX
  have hval : ∀ (j : Nat) t v, Tryd.f3.params[j]? = some t → args[j]? = some v → Value.okWide Tryd.prog W .any base t v := hval0
  have hW' := hW
  obtain ⟨p, q, hA0, hV, rfl, hfz, hnd⟩ := hW
  have hA : DataW.TrodAll enc Tryd.prog W 0 (fun _ => true) true Tryd.f3.params.toList args.toList ds p := hA0
  rw [Tryd.params3] at hA hval hsz
  obtain ⟨v0, vs0, d0, ds0, p0, q0, hargs, rfl, rfl, h0, r0⟩ := trodAll_cons hA
  obtain ⟨v1, vs1, d1, ds1, p1, q1, rfl, rfl, rfl, h1, r1⟩ := trodAll_cons r0
  obtain ⟨rfl, rfl, rfl⟩ := trodAll_nil r1
  obtain rfl : args = #[v0, v1] := by cases args; simp_all
  obtain ⟨rfl, rfl⟩ := trodVars_none hV
  obtain ⟨a0, rfl, rfl, rfl, w0⟩ := open_int Tryd.underlying3 (hval 0 3 v0 rfl rfl) h0
  obtain ⟨y1, m1, k1, x1, rfl, wy1, wm1, wk1, wx1, rfl, t1⟩ := open_date (hval 1 23 v1 rfl rfl) h1
  clear hA0 hval0
  simp only [List.append_nil] at hW'
  refine (walk a0 (i64_of_wf w0) y1 m1 k1 x1 wy1 wm1 wk1 wx1 W hWd).mono fun e W' ⟨he, hb⟩ => ?_
  subst he
  exact ⟨_, rfl, _, _, _, [], _, [], hW', (trodAll_cons_mk (shut_bool Tryd.underlying4 _) trodAll_mk0), (trodAll_cons_mk (shut_int Tryd.underlying3 w0) (trodAll_cons_mk (t1 _ _ _ _) trodAll_mk0)), rfl, hb.frame _, fun h => by cases h⟩

theorem over : Rows.DateTellsSaid :=
  OpenClaim.holds_of_wide 3 Tryd.f3 rfl rfl rfl rfl rfl rfl rfl ⟨rfl, rfl, rfl, rfl, rfl⟩ rfl rfl rfl rfl rfl (by kernel_rfl) Tryd.func3 (by kernel_rfl)
    (of_decide_eq_true (by kernel_rfl)) (by unfold Func.isWrapper; first | (rw [if_pos (by decide +kernel)]; kernel_rfl) | (rw [if_neg (by decide +kernel)]; exact ⟨rfl, rfl⟩))
    (fun os started H enc _ => lifted os started H enc)
theorem proved : Rows.DateTellsCardSaid :=
  Claim7.holds_tied_plain_at .later [] [.data, .data, .data, .sentinel, .sentinel, .data] true Rows.dateTellsCard.stood.harness true over (fun _ h => by cases h) (by kernel_rfl) (fun _ h => by cases h) dateTells_row_tie rfl ⟨rfl, rfl⟩ (by kernel_rfl) rfl
    (fun f fn hf hfn => by
      obtain rfl : f = 3 := Option.some.inj ((show Tryd.prog.funcNamed "bourne/bournelaw08.DateTells" = some 3 by kernel_rfl).symm.trans hf) |>.symm
      obtain rfl : fn = Tryd.f3 := (Option.some.inj (Tryd.func3.symm.trans hfn)).symm
      exact ⟨by kernel_rfl, fun j t ht => by
        rw [Tryd.params3] at ht
        have hm : t ∈ [3, 23] := by simpa using Array.mem_of_getElem? ht
        have hall : ([3, 23].all fun u => !Tryd.prog.wantsStandIn u) = true := by kernel_rfl
        exact (show Tryd.prog.wantsStandIn t = false by simpa using List.all_eq_true.1 hall t hm)⟩)
    (by kernel_rfl)
end Go.Proofs.YtanjkjendppigaaDoor.dateTells
