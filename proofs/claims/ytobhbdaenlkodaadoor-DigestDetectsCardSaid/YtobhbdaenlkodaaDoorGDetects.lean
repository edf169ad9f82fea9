/- The statement DigestDetects: a text that differs only within 16 consecutive bits has a different checksum. Conditions: those of the card; the statement's own bounds. -/
import Derived.Test.YtobhbdaenlkodaaDoorGFlip
namespace Go.Proofs.YtobhbdaenlkodaaDoor.digestDetects
open Go.ChangeShapes Go.WideShapes Go.ChangeAt Go.RowKit Gm
open Go.Proofs.YtobhbdaenlkodaaDoor
set_option linter.unusedVariables false

set_option maxHeartbeats 2000000 in
set_option maxRecDepth 100000 in
theorem long (S : ByteArray) (hS : S.size ≤ maxLen) (bit P : Int) (h : 2000 < S.size ∨ bit < 0 ∨ 8 * (S.size : Int) ≤ bit) (w : World) (hT : Tb w) :
    Calls Tryd.prog 5 #[.string S, .int .i64 bit, .int .i64 P] w (IsTrue w) := by
  have SM := Lib.hid (small_any w hT)
  obtain ⟨n, hn⟩ : ∃ n, S.size = n := ⟨_, rfl⟩
  rw [hn] at h
  clear hT
  by_cases h1 : 2000 < n
  · have d1 : decide ((2000 : Int) < (n : Int)) = true := decide_eq_true (by omega)
    clear h h1 hS
    go_enter Tryd.func5, Tryd.ntmps5
    go_wp2_with fail
    refine SM.out.mono ?_
    rintro e w1 ⟨rfl, hb1⟩
    have HB1 := Lib.hid hb1
    clear hb1
    go_wp2_with fail
    go_ret
    exact ⟨rfl, HB1.out⟩
  · have d1 : decide ((2000 : Int) < (n : Int)) = false := decide_eq_false (by omega)
    by_cases h2 : bit < 0
    · have d2 : decide (bit < 0) = true := decide_eq_true h2
      clear h h1 hS
      go_enter Tryd.func5, Tryd.ntmps5
      go_wp2_with fail
      refine SM.out.mono ?_
      rintro e w1 ⟨rfl, hb1⟩
      have HB1 := Lib.hid hb1
      clear hb1
      go_wp2_with fail
      go_ret
      exact ⟨rfl, HB1.out⟩
    · have d2 : decide (bit < 0) = false := decide_eq_false h2
      have h3 : 8 * (n : Int) ≤ bit := by omega
      have d3 : decide (8 * (n : Int) ≤ bit) = true := decide_eq_true h3
      have hn2 : n ≤ 2000 := by omega
      clear h h1 hS
      go_enter Tryd.func5, Tryd.ntmps5
      go_wp2_with fail
      refine SM.out.mono ?_
      rintro e w1 ⟨rfl, hb1⟩
      have HB1 := Lib.hid hb1
      clear hb1
      go_wp2_with fail
      go_ret
      exact ⟨rfl, HB1.out⟩
set_option maxHeartbeats 2000000 in
set_option maxRecDepth 100000 in
theorem short (s : Bs) (hs : s.length ≤ 2000) (bit : Nat) (hbit : bit < 8 * s.length) (P : Int) (w : World) (hT : Tb w) :
    Calls Tryd.prog 5 #[.string (sv s), .int .i64 bit, .int .i64 P] w (IsTrue w) := by
  have SM := Lib.hid (small_any w hT)
  have FL := Lib.hid (fun W => flipped_any s hs bit hbit P W)
  have CS := Lib.hid (fun W => crc_any s (by omega) W)
  have HH := Lib.hid (And.intro hs hbit)
  obtain ⟨n, hn⟩ : ∃ n, s.length = n := ⟨_, rfl⟩
  have hsz : (sv s).size = n := hn
  have d1 : decide ((2000 : Int) < (n : Int)) = false := decide_eq_false (by omega)
  have d2 : decide ((bit : Int) < 0) = false := decide_eq_false (by omega)
  have d3 : decide (8 * (n : Int) ≤ (bit : Int)) = false := decide_eq_false (by omega)
  have hn2 : n ≤ 2000 := by omega
  clear hT hs hbit hn
  go_enter Tryd.func5, Tryd.ntmps5
  go_wp2_with fail
  refine SM.out.mono ?_
  rintro e w1 ⟨rfl, hb1⟩
  have B1 := Lib.hid hb1
  clear hb1
  go_wp2_with fail
  refine (FL.out _).mono ?_
  rintro e w2 ⟨⟨t, p, rfl, ht1, ht2, ht3⟩, hb2⟩
  have B2 := Lib.hid (below_trans B1.out hb2)
  have CT := Lib.hid (fun W => crc_any t (by rw [ht1]; have := HH.out.1; omega) W)
  have HE := Lib.hid (crc_burst ht1.symm ht2 (Nat.le_of_lt HH.out.2) ht3)
  clear hb2 B1 ht1 ht2 ht3
  by_cases he : s = t
  · subst he
    have b1 : ((sv s).toList == (sv s).toList) = true := beq_self_eq_true _
    have b2 : (((crc s : Nat) : Int) == ((crc s : Nat) : Int)) = true := beq_self_eq_true _
    go_wp2_with fail
    refine (CS.out _).mono ?_
    rintro e w3 ⟨rfl, rfl⟩
    go_wp2_with fail
    refine (CT.out _).mono ?_
    rintro e w3 ⟨rfl, rfl⟩
    go_wp2_with fail
    go_ret
    exact ⟨rfl, B2.out⟩
  · have hne : crc s ≠ crc t := fun h => he (HE.out.2 h)
    have b1 : ((sv s).toList == (sv t).toList) = false := by rw [sv_toList, sv_toList]; simpa using he
    obtain ⟨c1, h1⟩ : ∃ c, crc s = c := ⟨_, rfl⟩
    obtain ⟨c2, h2⟩ : ∃ c, crc t = c := ⟨_, rfl⟩
    rw [h1] at CS hne
    rw [h2] at CT hne
    have b2 : ((c1 : Int) == (c2 : Int)) = false := by simp; omega
    clear h1 h2 hne he HE
    go_wp2_with fail
    refine (CS.out _).mono ?_
    rintro e w3 ⟨rfl, rfl⟩
    go_wp2_with fail
    refine (CT.out _).mono ?_
    rintro e w3 ⟨rfl, rfl⟩
    go_wp2_with fail
    go_ret
    exact ⟨rfl, B2.out⟩
theorem walk (S : ByteArray) (bit P : Int) (hS : S.size ≤ maxLen) (w : World) (hT : Tb w) : Calls Tryd.prog 5 #[.string S, .int .i64 bit, .int .i64 P] w (IsTrue w) := by
  by_cases h : 2000 < S.size ∨ bit < 0 ∨ 8 * (S.size : Int) ≤ bit
  · exact long S hS bit P h w hT
  · have hl : S.data.toList.length = S.size := by rw [← Lib.size_eq]
    have := short S.data.toList (by omega) bit.toNat (by omega) P w hT
    rw [sv_of, Int.toNat_of_nonneg (by omega)] at this
    exact this
set_option maxRecDepth 100000 in
theorem lifted (os : Os) (started : os.Started) (H : Type) (enc : TypeId × Value → H) :
    ReturnsInHanded {} Tryd.checked os 5 .any (fun w args => (Rows.digestDetectsSpec.pre enc Tryd.prog Tryd.f5 Rows.digestDetectsRow.domain false w args ∧ laidMetH Tryd.prog Rows.digestDetectsRow.laid w) ∧ sizedMet enc Tryd.prog Tryd.f5 (OpenSpec.ofChange Rows.digestDetectsSpec) false w args)
      (Rows.digestDetectsSpec.post enc Tryd.prog Tryd.f5 false true false false) := by
  refine returns_both (C := Tryd.checked) (X := fun w _ => laidMetH Tryd.prog Rows.digestDetectsRow.laid w) (fun _ _ _ hh h => h.of_heap hh.symm) own started (by kernel_rfl) Tryd.func5
    (ChangeSpec.witness_shaped (enc := enc) (C := Tryd.checked) (os := os) (X := fun w _ => laidMetH Tryd.prog Rows.digestDetectsRow.laid w) false (World.laidAll Tryd.prog os Rows.digestDetectsRow.laid) #[.string ⟨#[]⟩, .int .i64 0, .int .i64 0] 8 (World.laidAll_os _ _ _)
      (World.shaped_of_ZipB (by kernel_rfl) (by kernel_rfl)) (by kernel_rfl) (by kernel_rfl) (by kernel_rfl)
      (by rw [MakeChecks.laidMetH_plain _ _ _ (by kernel_rfl)]; exact laidMet_laidAll _ (by kernel_rfl) (by kernel_rfl))) ?_
  intro W base args ds gs before hval0 hW hsh hX
  have hT : Tb W := tb_of_laid hX
  have hval : ∀ (j : Nat) t v, Tryd.f5.params[j]? = some t → args[j]? = some v → Value.okWide Tryd.prog W .any base t v := hval0
  have hW' := hW
  obtain ⟨p, q, hA0, hV, rfl, hfz, hnd⟩ := hW
  have hA : DataW.TrodAll enc Tryd.prog W 0 (fun _ => true) true Tryd.f5.params.toList args.toList ds p := hA0
  rw [Tryd.params5] at hA hval
  obtain ⟨v0, vs0, d0, ds0, p0, q0, hargs, rfl, rfl, h0, r0⟩ := trodAll_cons hA
  obtain ⟨v1, vs1, d1, ds1, p1, q1, rfl, rfl, rfl, h1, r1⟩ := trodAll_cons r0
  obtain ⟨v2, vs2, d2, ds2, p2, q2, rfl, rfl, rfl, h2, r2⟩ := trodAll_cons r1
  obtain ⟨rfl, rfl, rfl⟩ := trodAll_nil r2
  obtain rfl : args = #[v0, v1, v2] := by cases args; simp_all
  obtain ⟨rfl, rfl⟩ := trodVars_none hV
  obtain ⟨s0, rfl, rfl, rfl, ws0⟩ := Go.ChangeMaps.open_string Tryd.underlying9 (hval 0 9 v0 rfl rfl) h0
  obtain ⟨a1, rfl, rfl, rfl, w1⟩ := open_int Tryd.underlying3 (hval 1 3 v1 rfl rfl) h1
  obtain ⟨a2, rfl, rfl, rfl, w2⟩ := open_int Tryd.underlying3 (hval 2 3 v2 rfl rfl) h2
  clear hA0 hval0
  simp only [List.append_nil] at hW'
  refine (walk s0 a1 a2 ws0 W hT).mono fun e W' ⟨he, hb⟩ => ?_
  subst he
  exact ⟨_, rfl, _, _, _, [], _, [], hW', (trodAll_cons_mk (shut_bool Tryd.underlying4 _) trodAll_mk0), (trodAll_cons_mk (Go.ChangeMaps.shut_string Tryd.underlying9 ws0) (trodAll_cons_mk (shut_int Tryd.underlying3 w1) (trodAll_cons_mk (shut_int Tryd.underlying3 w2) trodAll_mk0))), rfl, hb.frame _, fun h => by cases h⟩

theorem over : Rows.DigestDetectsSaid :=
  OpenClaim.holds_of_wide 5 Tryd.f5 rfl rfl rfl rfl rfl rfl rfl ⟨rfl, rfl, rfl, rfl, rfl⟩ rfl rfl rfl rfl rfl (by kernel_rfl) Tryd.func5 (by kernel_rfl)
    (of_decide_eq_true (by kernel_rfl)) (by unfold Func.isWrapper; first | (rw [if_pos (by decide +kernel)]; kernel_rfl) | (rw [if_neg (by decide +kernel)]; exact ⟨rfl, rfl⟩))
    (fun os started H enc _ => lifted os started H enc)
theorem proved : Rows.DigestDetectsCardSaid :=
  Claim7.holds_tied_plain_at .later [] [.data, .data] true Rows.digestDetectsCard.stood.harness false over (fun _ h => by cases h) (by kernel_rfl) (fun _ h => by cases h) digestDetects_row_tie rfl ⟨rfl, rfl⟩ (by kernel_rfl) rfl
    (fun f fn hf hfn => by
      obtain rfl : f = 5 := Option.some.inj ((show Tryd.prog.funcNamed "bourne/bournelaw03.DigestDetects" = some 5 by kernel_rfl).symm.trans hf) |>.symm
      obtain rfl : fn = Tryd.f5 := (Option.some.inj (Tryd.func5.symm.trans hfn)).symm
      exact ⟨by kernel_rfl, fun j t ht => by
        rw [Tryd.params5] at ht
        have hm : t ∈ [9, 3] := by simpa using Array.mem_of_getElem? ht
        have hall : ([9, 3].all fun u => !Tryd.prog.wantsStandIn u) = true := by kernel_rfl
        exact (show Tryd.prog.wantsStandIn t = false by simpa using List.all_eq_true.1 hall t hm)⟩)
    (by kernel_rfl)
end Go.Proofs.YtobhbdaenlkodaaDoor.digestDetects
