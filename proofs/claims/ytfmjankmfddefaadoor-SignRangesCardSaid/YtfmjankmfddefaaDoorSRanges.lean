/- The statement SignRanges: numbers out of range in place of E, S or the public key, and public keys outside the subgroup, are not accepted. Conditions: those of the card; the statement's own bounds. -/
import Derived.Test.YtfmjankmfddefaaDoorSCard
namespace Go.Proofs.YtfmjankmfddefaaDoor.signRanges
open Go.ChangeShapes Go.WideShapes Go.ChangeAt Go.RowKit
open Sg Gp Gp.Grp Wr.Wm
open Dg (sv)
set_option linter.unusedVariables false

theorem long (S T U : ByteArray) (n : Int) (h : ¬ (S.size + T.size + U.size ≤ 2000)) (hS : S.size ≤ 140737488355328) (hT : T.size ≤ 140737488355328) (hU : U.size ≤ 140737488355328) (w : World) (hw : Wd w) :
    Calls Tryd.prog 7 #[.string S, .string T, .string U, .int .i64 n] w (IsTrue w) := by
  have SM := Lib.hid small_any
  have HW := Lib.hid hw
  have SH := Lib.hid (short_f S T U h hS hT hU)
  clear hw h hS hT hU
  go_enter Tryd.func7, Tryd.ntmps7
  go_wp2_with fail
  refine (SM.out _ HW.out).mono ?_
  rintro e w1 ⟨rfl, hb⟩
  have B1 := Lib.hid hb
  clear hb SM
  go_wp2_with fail
  refine (SH.out _).mono ?_
  rintro e w2 ⟨rfl, hb⟩
  have B2 := Lib.hid (below_trans B1.out hb)
  clear hb SH B1
  go_wp2_with fail
  go_ret
  exact ⟨rfl, B2.out⟩
theorem idle (S T U : ByteArray) (n : Int) (h : S.size + T.size + U.size ≤ 2000) (hn : n = 0 ∨ n < -3 ∨ 3 < n) (w : World) (hw : Wd w) :
    Calls Tryd.prog 7 #[.string S, .string T, .string U, .int .i64 n] w (IsTrue w) := by
  have SM := Lib.hid small_any
  have HW := Lib.hid hw
  have SH := Lib.hid (short_t S T U h)
  clear hw h
  by_cases h0 : n = 0
  · have b0 : (n == 0) = true := beq_iff_eq.2 h0
    clear hn h0
    go_enter Tryd.func7, Tryd.ntmps7
    go_wp2_with fail
    refine (SM.out _ HW.out).mono ?_
    rintro e w1 ⟨rfl, hb⟩
    have B1 := Lib.hid hb
    clear hb SM
    go_wp2_with fail
    refine (SH.out _).mono ?_
    rintro e w2 ⟨rfl, hb⟩
    have B2 := Lib.hid (below_trans B1.out hb)
    clear hb SH B1
    go_wp2_with fail
    go_ret
    exact ⟨rfl, B2.out⟩
  · have b0 : (n == 0) = false := beq_eq_false_iff_ne.2 h0
    by_cases h1 : n < -3
    · have b1 : decide (n < (-3 : Int)) = true := decide_eq_true h1
      clear hn h0 h1
      go_enter Tryd.func7, Tryd.ntmps7
      go_wp2_with fail
      refine (SM.out _ HW.out).mono ?_
      rintro e w1 ⟨rfl, hb⟩
      have B1 := Lib.hid hb
      clear hb SM
      go_wp2_with fail
      refine (SH.out _).mono ?_
      rintro e w2 ⟨rfl, hb⟩
      have B2 := Lib.hid (below_trans B1.out hb)
      clear hb SH B1
      go_wp2_with fail
      go_ret
      exact ⟨rfl, B2.out⟩
    · have b1 : decide (n < (-3 : Int)) = false := decide_eq_false h1
      have b2 : decide ((3 : Int) < n) = true := decide_eq_true (by omega)
      clear hn h0 h1
      go_enter Tryd.func7, Tryd.ntmps7
      go_wp2_with fail
      refine (SM.out _ HW.out).mono ?_
      rintro e w1 ⟨rfl, hb⟩
      have B1 := Lib.hid hb
      clear hb SM
      go_wp2_with fail
      refine (SH.out _).mono ?_
      rintro e w2 ⟨rfl, hb⟩
      have B2 := Lib.hid (below_trans B1.out hb)
      clear hb SH B1
      go_wp2_with fail
      go_ret
      exact ⟨rfl, B2.out⟩
set_option maxHeartbeats 4000000 in
set_option maxRecDepth 100000 in
theorem main_neg (s c m : Bs) (n : Int) (h : s.length + c.length + m.length ≤ 2000) (h0 : n < 0) (h3 : -3 ≤ n ∧ n ≤ 3) (w : World) (hw : Wd w) :
    Calls Tryd.prog 7 #[.string (sv s), .string (sv c), .string (sv m), .int .i64 n] w (IsTrue w) := by
  have SM := Lib.hid small_any
  have HW := Lib.hid hw
  have SH := Lib.hid (short_t (sv s) (sv c) (sv m) h)
  have hk := okx_key s
  have C1 := Lib.hid (key_any s (by omega))
  have C2 := Lib.hid (sign_yes hk c m (by omega))
  have hE := chS_bd (xe 4 (nonS (keyS s) c m)) (xe 4 (keyS s)) c m
  have hE1 : sgE (keyS s) c m = chS (xe 4 (nonS (keyS s) c m)) (xe 4 (keyS s)) c m := rfl
  rw [← hE1] at hE
  have hS := rq_bd (nonS (keyS s) c m + rq (sgE (keyS s) c m * keyS s))
  have hS1 : sgS (keyS s) c m = rq (nonS (keyS s) c m + rq (sgE (keyS s) c m * keyS s)) := rfl
  rw [← hS1] at hS
  have hY := of_inB (pub_in (x := keyS s))
  have b0 : (n == 0) = false := beq_eq_false_iff_ne.2 (by omega)
  have b1 : decide (n < (-3 : Int)) = false := decide_eq_false (by omega)
  have b2 : decide ((3 : Int) < n) = false := decide_eq_false (by omega)
  have b3 : decide (n < (0 : Int)) = true := decide_eq_true (by omega)
  have V1 := Lib.hid (verify_any (xe 4 (keyS s)) (sgE (keyS s) c m + n * 1152921504606845789) (sgS (keyS s) c m) c m (by omega))
  rw [ver_false_e (inR_out (by omega))] at V1
  have V2 := Lib.hid (verify_any (xe 4 (keyS s)) (sgE (keyS s) c m) (sgS (keyS s) c m + n * 1152921504606845789) c m (by omega))
  rw [ver_false_s (inR_out (by omega))] at V2
  have V3 := Lib.hid (verify_any (xe 4 (keyS s) + n * 2305843009213691579) (sgE (keyS s) c m) (sgS (keyS s) c m) c m (by omega))
  rw [ver_false_y (inB_out (by omega))] at V3
  have V4 := Lib.hid (verify_any (2305843009213691579 - xe 4 (keyS s)) (sgE (keyS s) c m) (sgS (keyS s) c m) c m (by omega))
  rw [ver_false_y (by rw [in_minus _ hY.1 hY.2.1, pub_in]; rfl)] at V4
  obtain ⟨Q, hQ⟩ : ∃ Q, n * 1152921504606845789 = Q := ⟨_, rfl⟩
  have m1 : wrap64 (n * 1152921504606845789) = Q := by rw [← hQ]; unfold wrap64; omega
  rw [hQ] at V1 V2
  have m2 : wrap64 (sgE (keyS s) c m + Q) = sgE (keyS s) c m + Q := by unfold wrap64; omega
  have m3 : wrap64 (sgS (keyS s) c m + Q) = sgS (keyS s) c m + Q := by unfold wrap64; omega
  have m4 : wrap64 (2305843009213691579 - xe 4 (keyS s)) = 2305843009213691579 - xe 4 (keyS s) := by unfold wrap64; omega
  have k1 : wrap64 (n * 2305843009213691579) = n * 2305843009213691579 := by unfold wrap64; omega
  have k2 : wrap64 (xe 4 (keyS s) + n * 2305843009213691579) = xe 4 (keyS s) + n * 2305843009213691579 := by unfold wrap64; omega
  obtain ⟨R, hR⟩ : ∃ R, n * 2305843009213691579 = R := ⟨_, rfl⟩
  rw [hR] at V3 k2 k1
  rw [← hR] at k1
  have k3 : wrap64 (n * 2305843009213691579) = R := k1.trans hR
  obtain ⟨e3, he3⟩ : ∃ x, xe 4 (keyS s) + R = x := ⟨_, rfl⟩
  have k4 : wrap64 (xe 4 (keyS s) + R) = e3 := k2.trans he3
  rw [he3] at V3
  clear k1 k2 hR he3
  clear hE hE1 hS hS1 hY hw h h3 h0 hk hQ
  generalize sgE (keyS s) c m = E at *
  generalize sgS (keyS s) c m = S at *
  generalize xe 4 (keyS s) = Y at *
  generalize keyS s = X at *
  obtain ⟨e1, he1⟩ : ∃ x, E + Q = x := ⟨_, rfl⟩
  obtain ⟨e2, he2⟩ : ∃ x, S + Q = x := ⟨_, rfl⟩
  obtain ⟨e4, he4⟩ : ∃ x, 2305843009213691579 - Y = x := ⟨_, rfl⟩
  rw [he1] at V1
  rw [he2] at V2
  rw [he4] at V4
  have n2 : wrap64 (E + Q) = e1 := m2.trans he1
  have n3 : wrap64 (S + Q) = e2 := m3.trans he2
  have n4 : wrap64 (2305843009213691579 - Y) = e4 := m4.trans he4
  clear m2 m3 m4 he1 he2 he4
  unfold kv at *
  go_enter Tryd.func7, Tryd.ntmps7
  go_wp2_with fail
  refine (SM.out _ HW.out).mono ?_
  rintro e w1 ⟨rfl, hb⟩
  have B1 := Lib.hid hb
  clear hb SM
  go_wp2_with fail
  refine (SH.out _).mono ?_
  rintro e w2 ⟨rfl, hb⟩
  have B2 := Lib.hid (below_trans B1.out hb)
  clear hb SH B1
  go_wp2_with fail
  refine (C1.out _ (HW.out.below B2.out)).mono ?_
  rintro e w3 ⟨rfl, hb⟩
  have B3 := Lib.hid (below_trans B2.out hb)
  clear hb C1 B2
  go_wp2_with fail
  refine (C2.out _ (HW.out.below (below_trans B3.out (below_alloc _ _)))).mono ?_
  rintro e w4 ⟨rfl, hb⟩
  have H4 := Lib.hid (ks_new (c := .int .i64 E) (d := .int .i64 S) B3.out HW.out hb)
  clear hb C2 B3
  have c0 := H4.out.k.cell 0
  have c1 := H4.out.k.cell 1
  have c2 := H4.out.s.cell 0
  have c3 := H4.out.s.cell 1
  go_wp2_with fail
  --GG
  refine (V1.out _ H4.out.wd).mono ?_
  rintro e w5 ⟨rfl, hb⟩
  have H5 := Lib.hid (H4.out.next hb)
  clear hb H4 V1 c0 c1 c2 c3
  have c0 := H5.out.k.cell 0
  have c1 := H5.out.k.cell 1
  have c2 := H5.out.s.cell 0
  have c3 := H5.out.s.cell 1
  go_wp2_with fail
  refine (V2.out _ H5.out.wd).mono ?_
  rintro e w6 ⟨rfl, hb⟩
  have H6 := Lib.hid (H5.out.next hb)
  clear hb H5 V2 c0 c1 c2 c3
  have c0 := H6.out.k.cell 0
  have c1 := H6.out.k.cell 1
  have c2 := H6.out.s.cell 0
  have c3 := H6.out.s.cell 1
  go_wp2_with fail
  refine (V3.out _ H6.out.wd).mono ?_
  rintro e w7 ⟨rfl, hb⟩
  have H7 := Lib.hid (H6.out.next hb)
  clear hb H6 V3 c0 c1 c2 c3
  have c0 := H7.out.k.cell 0
  have c1 := H7.out.k.cell 1
  have c2 := H7.out.s.cell 0
  have c3 := H7.out.s.cell 1
  go_wp2_with fail
  refine (V4.out _ H7.out.wd).mono ?_
  rintro e w8 ⟨rfl, hb⟩
  have H8 := Lib.hid (H7.out.next hb)
  clear hb H7 V4 c0 c1 c2 c3
  have c0 := H8.out.k.cell 0
  have c1 := H8.out.k.cell 1
  have c2 := H8.out.s.cell 0
  have c3 := H8.out.s.cell 1
  go_wp2_with fail
  go_ret
  exact ⟨rfl, H8.out.b⟩
set_option maxHeartbeats 4000000 in
set_option maxRecDepth 100000 in
theorem main_pos (s c m : Bs) (n : Int) (h : s.length + c.length + m.length ≤ 2000) (h0 : 0 < n) (h3 : -3 ≤ n ∧ n ≤ 3) (w : World) (hw : Wd w) :
    Calls Tryd.prog 7 #[.string (sv s), .string (sv c), .string (sv m), .int .i64 n] w (IsTrue w) := by
  have SM := Lib.hid small_any
  have HW := Lib.hid hw
  have SH := Lib.hid (short_t (sv s) (sv c) (sv m) h)
  have hk := okx_key s
  have C1 := Lib.hid (key_any s (by omega))
  have C2 := Lib.hid (sign_yes hk c m (by omega))
  have hE := chS_bd (xe 4 (nonS (keyS s) c m)) (xe 4 (keyS s)) c m
  have hE1 : sgE (keyS s) c m = chS (xe 4 (nonS (keyS s) c m)) (xe 4 (keyS s)) c m := rfl
  rw [← hE1] at hE
  have hS := rq_bd (nonS (keyS s) c m + rq (sgE (keyS s) c m * keyS s))
  have hS1 : sgS (keyS s) c m = rq (nonS (keyS s) c m + rq (sgE (keyS s) c m * keyS s)) := rfl
  rw [← hS1] at hS
  have hY := of_inB (pub_in (x := keyS s))
  have b0 : (n == 0) = false := beq_eq_false_iff_ne.2 (by omega)
  have b1 : decide (n < (-3 : Int)) = false := decide_eq_false (by omega)
  have b2 : decide ((3 : Int) < n) = false := decide_eq_false (by omega)
  have b3 : decide (n < (0 : Int)) = false := decide_eq_false (by omega)
  have V1 := Lib.hid (verify_any (xe 4 (keyS s)) (sgE (keyS s) c m + n * 1152921504606845789) (sgS (keyS s) c m) c m (by omega))
  rw [ver_false_e (inR_out (by omega))] at V1
  have V2 := Lib.hid (verify_any (xe 4 (keyS s)) (sgE (keyS s) c m) (sgS (keyS s) c m + n * 1152921504606845789) c m (by omega))
  rw [ver_false_s (inR_out (by omega))] at V2
  have V4 := Lib.hid (verify_any (2305843009213691579 - xe 4 (keyS s)) (sgE (keyS s) c m) (sgS (keyS s) c m) c m (by omega))
  rw [ver_false_y (by rw [in_minus _ hY.1 hY.2.1, pub_in]; rfl)] at V4
  obtain ⟨Q, hQ⟩ : ∃ Q, n * 1152921504606845789 = Q := ⟨_, rfl⟩
  have m1 : wrap64 (n * 1152921504606845789) = Q := by rw [← hQ]; unfold wrap64; omega
  rw [hQ] at V1 V2
  have m2 : wrap64 (sgE (keyS s) c m + Q) = sgE (keyS s) c m + Q := by unfold wrap64; omega
  have m3 : wrap64 (sgS (keyS s) c m + Q) = sgS (keyS s) c m + Q := by unfold wrap64; omega
  have m4 : wrap64 (2305843009213691579 - xe 4 (keyS s)) = 2305843009213691579 - xe 4 (keyS s) := by unfold wrap64; omega
  clear hE hE1 hS hS1 hY hw h h3 h0 hk hQ
  generalize sgE (keyS s) c m = E at *
  generalize sgS (keyS s) c m = S at *
  generalize xe 4 (keyS s) = Y at *
  generalize keyS s = X at *
  obtain ⟨e1, he1⟩ : ∃ x, E + Q = x := ⟨_, rfl⟩
  obtain ⟨e2, he2⟩ : ∃ x, S + Q = x := ⟨_, rfl⟩
  obtain ⟨e4, he4⟩ : ∃ x, 2305843009213691579 - Y = x := ⟨_, rfl⟩
  rw [he1] at V1
  rw [he2] at V2
  rw [he4] at V4
  have n2 : wrap64 (E + Q) = e1 := m2.trans he1
  have n3 : wrap64 (S + Q) = e2 := m3.trans he2
  have n4 : wrap64 (2305843009213691579 - Y) = e4 := m4.trans he4
  clear m2 m3 m4 he1 he2 he4
  unfold kv at *
  go_enter Tryd.func7, Tryd.ntmps7
  go_wp2_with fail
  refine (SM.out _ HW.out).mono ?_
  rintro e w1 ⟨rfl, hb⟩
  have B1 := Lib.hid hb
  clear hb SM
  go_wp2_with fail
  refine (SH.out _).mono ?_
  rintro e w2 ⟨rfl, hb⟩
  have B2 := Lib.hid (below_trans B1.out hb)
  clear hb SH B1
  go_wp2_with fail
  refine (C1.out _ (HW.out.below B2.out)).mono ?_
  rintro e w3 ⟨rfl, hb⟩
  have B3 := Lib.hid (below_trans B2.out hb)
  clear hb C1 B2
  go_wp2_with fail
  refine (C2.out _ (HW.out.below (below_trans B3.out (below_alloc _ _)))).mono ?_
  rintro e w4 ⟨rfl, hb⟩
  have H4 := Lib.hid (ks_new (c := .int .i64 E) (d := .int .i64 S) B3.out HW.out hb)
  clear hb C2 B3
  have c0 := H4.out.k.cell 0
  have c1 := H4.out.k.cell 1
  have c2 := H4.out.s.cell 0
  have c3 := H4.out.s.cell 1
  go_wp2_with fail
  --GG
  refine (V1.out _ H4.out.wd).mono ?_
  rintro e w5 ⟨rfl, hb⟩
  have H5 := Lib.hid (H4.out.next hb)
  clear hb H4 V1 c0 c1 c2 c3
  have c0 := H5.out.k.cell 0
  have c1 := H5.out.k.cell 1
  have c2 := H5.out.s.cell 0
  have c3 := H5.out.s.cell 1
  go_wp2_with fail
  refine (V2.out _ H5.out.wd).mono ?_
  rintro e w6 ⟨rfl, hb⟩
  have H6 := Lib.hid (H5.out.next hb)
  clear hb H5 V2 c0 c1 c2 c3
  have c0 := H6.out.k.cell 0
  have c1 := H6.out.k.cell 1
  have c2 := H6.out.s.cell 0
  have c3 := H6.out.s.cell 1
  go_wp2_with fail
  refine (V4.out _ H6.out.wd).mono ?_
  rintro e w7 ⟨rfl, hb⟩
  have H7 := Lib.hid (H6.out.next hb)
  clear hb H6 V4 c0 c1 c2 c3
  have c0 := H7.out.k.cell 0
  have c1 := H7.out.k.cell 1
  have c2 := H7.out.s.cell 0
  have c3 := H7.out.s.cell 1
  go_wp2_with fail
  go_ret
  exact ⟨rfl, H7.out.b⟩
theorem walk (S : ByteArray) (hS : S.size ≤ 140737488355328) (T : ByteArray) (hT : T.size ≤ 140737488355328) (U : ByteArray) (hU : U.size ≤ 140737488355328) (n : Int) (hn : I64 n) (w : World) (hw : Wd w) :
    Calls Tryd.prog 7 #[.string S, .string T, .string U, .int .i64 n] w (IsTrue w) := by
  by_cases h : S.size + T.size + U.size ≤ 2000
  · by_cases h1 : n = 0 ∨ n < -3 ∨ 3 < n
    · exact idle S T U n h h1 w hw
    · have h2 : S.data.toList.length + T.data.toList.length + U.data.toList.length ≤ 2000 := by rw [← Lib.size_eq, ← Lib.size_eq, ← Lib.size_eq]; exact h
      by_cases h3 : n < 0
      · have := main_neg S.data.toList T.data.toList U.data.toList n h2 h3 (by omega) w hw
        rwa [Dg.sv_of, Dg.sv_of, Dg.sv_of] at this
      · have := main_pos S.data.toList T.data.toList U.data.toList n h2 (by omega) (by omega) w hw
        rwa [Dg.sv_of, Dg.sv_of, Dg.sv_of] at this
  · exact long S T U n h hS hT hU w hw
set_option maxRecDepth 100000 in
theorem lifted (os : Os) (started : os.Started) (H : Type) (enc : TypeId × Value → H) :
    ReturnsInHanded {} Tryd.checked os 7 .any (fun w args => (Rows.signRangesSpec.pre enc Tryd.prog Tryd.f7 Rows.signRangesRow.domain false w args ∧ laidMetH Tryd.prog Rows.signRangesRow.laid w) ∧ sizedMet enc Tryd.prog Tryd.f7 (OpenSpec.ofChange Rows.signRangesSpec) false w args)
      (Rows.signRangesSpec.post enc Tryd.prog Tryd.f7 false true false false) := by
  refine returns_both (C := Tryd.checked) (X := fun w _ => laidMetH Tryd.prog Rows.signRangesRow.laid w) (fun _ _ _ hh h => h.of_heap hh.symm) own started (by kernel_rfl) Tryd.func7
    (ChangeSpec.witness_shaped (enc := enc) (C := Tryd.checked) (os := os) (X := fun w _ => laidMetH Tryd.prog Rows.signRangesRow.laid w) false (World.laidAll Tryd.prog os Rows.signRangesRow.laid) #[.string ⟨#[]⟩, .string ⟨#[]⟩, .string ⟨#[]⟩, .int .i64 0] 8 (World.laidAll_os _ _ _)
      (World.shaped_of_ZipB (by kernel_rfl) (by kernel_rfl)) (by kernel_rfl) (by kernel_rfl) (by kernel_rfl)
      (by rw [MakeChecks.laidMetH_plain _ _ _ (by kernel_rfl)]; exact laidMet_laidAll _ (by kernel_rfl) (by kernel_rfl))) ?_
  intro W base args ds gs before hval0 hW hsh hX hsz0
  have hsz : (DataW.weightsEach Tryd.prog (Tryd.f7.params.toList ++ Rows.signRangesSpec.plain.varTypes Tryd.prog) (ds ++ gs)).all (· ≤ reachBytes) = true := hsz0
  clear hsz0
  have hWd : Wd W := ⟨tb_of_laid hX, mx_of_shape hsh⟩
  have hval : ∀ (j : Nat) t v, Tryd.f7.params[j]? = some t → args[j]? = some v → Value.okWide Tryd.prog W .any base t v := hval0
  have hW' := hW
  obtain ⟨p, q, hA0, hV, rfl, hfz, hnd⟩ := hW
  have hA : DataW.TrodAll enc Tryd.prog W 0 (fun _ => true) true Tryd.f7.params.toList args.toList ds p := hA0
  rw [Tryd.params7] at hA hval hsz
  obtain ⟨v0, vs0, d0, ds0, p0, q0, hargs, rfl, rfl, h0, r0⟩ := trodAll_cons hA
  obtain ⟨v1, vs1, d1, ds1, p1, q1, rfl, rfl, rfl, h1, r1⟩ := trodAll_cons r0
  obtain ⟨v2, vs2, d2, ds2, p2, q2, rfl, rfl, rfl, h2, r2⟩ := trodAll_cons r1
  obtain ⟨v3, vs3, d3, ds3, p3, q3, rfl, rfl, rfl, h3, r3⟩ := trodAll_cons r2
  obtain ⟨rfl, rfl, rfl⟩ := trodAll_nil r3
  obtain rfl : args = #[v0, v1, v2, v3] := by cases args; simp_all
  obtain ⟨rfl, rfl⟩ := trodVars_none hV
  obtain ⟨s0, rfl, rfl, rfl, ws0⟩ := Go.ChangeMaps.open_string Tryd.underlying9 (hval 0 9 v0 rfl rfl) h0
  have z0 : s0.size ≤ 140737488355328 := by rw [Lib.size_eq]; exact reach_le (sized_string hsz (j := 0) (t := 9) rfl rfl)
  obtain ⟨s1, rfl, rfl, rfl, ws1⟩ := Go.ChangeMaps.open_string Tryd.underlying9 (hval 1 9 v1 rfl rfl) h1
  have z1 : s1.size ≤ 140737488355328 := by rw [Lib.size_eq]; exact reach_le (sized_string hsz (j := 1) (t := 9) rfl rfl)
  obtain ⟨s2, rfl, rfl, rfl, ws2⟩ := Go.ChangeMaps.open_string Tryd.underlying9 (hval 2 9 v2 rfl rfl) h2
  have z2 : s2.size ≤ 140737488355328 := by rw [Lib.size_eq]; exact reach_le (sized_string hsz (j := 2) (t := 9) rfl rfl)
  obtain ⟨a3, rfl, rfl, rfl, w3⟩ := open_int Tryd.underlying3 (hval 3 3 v3 rfl rfl) h3
  clear hA0 hval0
  simp only [List.append_nil] at hW'
  refine (walk s0 z0 s1 z1 s2 z2 a3 (Gp.i64_of_wf w3) W hWd).mono fun e W' ⟨he, hb⟩ => ?_
  subst he
  exact ⟨_, rfl, _, _, _, [], _, [], hW', (trodAll_cons_mk (shut_bool Tryd.underlying4 _) trodAll_mk0), (trodAll_cons_mk (Go.ChangeMaps.shut_string Tryd.underlying9 ws0) (trodAll_cons_mk (Go.ChangeMaps.shut_string Tryd.underlying9 ws1) (trodAll_cons_mk (Go.ChangeMaps.shut_string Tryd.underlying9 ws2) (trodAll_cons_mk (shut_int Tryd.underlying3 w3) trodAll_mk0)))), rfl, hb.frame _, fun h => by cases h⟩

theorem over : Rows.SignRangesSaid :=
  OpenClaim.holds_of_wide 7 Tryd.f7 rfl rfl rfl rfl rfl rfl rfl ⟨rfl, rfl, rfl, rfl, rfl⟩ rfl rfl rfl rfl rfl (by kernel_rfl) Tryd.func7 (by kernel_rfl)
    (of_decide_eq_true (by kernel_rfl)) (by unfold Func.isWrapper; first | (rw [if_pos (by decide +kernel)]; kernel_rfl) | (rw [if_neg (by decide +kernel)]; exact ⟨rfl, rfl⟩))
    (fun os started H enc _ => lifted os started H enc)
theorem proved : Rows.SignRangesCardSaid :=
  Claim7.holds_tied_plain_at .later [] [.data, .data, .data, .pinned] true Rows.signRangesCard.stood.harness false over (fun _ h => by cases h) (by kernel_rfl) (fun _ h => by cases h) signRanges_row_tie rfl ⟨rfl, rfl⟩ (by kernel_rfl) rfl
    (fun f fn hf hfn => by
      obtain rfl : f = 7 := Option.some.inj ((show Tryd.prog.funcNamed "bourne/bournelaw05.SignRanges" = some 7 by kernel_rfl).symm.trans hf) |>.symm
      obtain rfl : fn = Tryd.f7 := (Option.some.inj (Tryd.func7.symm.trans hfn)).symm
      exact ⟨by kernel_rfl, fun j t ht => by
        rw [Tryd.params7] at ht
        have hm : t ∈ [9, 3] := by simpa using Array.mem_of_getElem? ht
        have hall : ([9, 3].all fun u => !Tryd.prog.wantsStandIn u) = true := by kernel_rfl
        exact (show Tryd.prog.wantsStandIn t = false by simpa using List.all_eq_true.1 hall t hm)⟩)
    (by kernel_rfl)
end Go.Proofs.YtfmjankmfddefaaDoor.signRanges
