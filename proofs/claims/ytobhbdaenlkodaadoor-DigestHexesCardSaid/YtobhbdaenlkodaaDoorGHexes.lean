/- The statement DigestHexes: Unhex inverts Hex, Hex doubles the length, and what Unhex accepts is the Hex of its result. Conditions: those of the card; the statement's own bounds. -/
import Derived.Test.YtobhbdaenlkodaaDoorGCard
namespace Go.Proofs.YtobhbdaenlkodaaDoor.digestHexes
open Go.ChangeShapes Go.WideShapes Go.ChangeAt Go.RowKit Gm
open Go.Proofs.YtobhbdaenlkodaaDoor
set_option linter.unusedVariables false

set_option maxHeartbeats 2000000 in
set_option maxRecDepth 100000 in
theorem long (S T : ByteArray) (hS : S.size ≤ maxLen) (hT' : T.size ≤ maxLen) (h : 2000 < S.size ∨ 2000 < T.size) (w : World) (hT : Tb w) :
    Calls Tryd.prog 4 #[.string S, .string T] w (IsTrue w) := by
  have SM := Lib.hid (small_any w hT)
  clear hT
  by_cases h1 : 2000 < S.size
  · have d1 : decide ((2000 : Int) < (S.size : Int)) = true := decide_eq_true (by omega)
    clear h h1
    go_enter Tryd.func4, Tryd.ntmps4
    go_wp2_with fail
    refine SM.out.mono ?_
    rintro e w1 ⟨rfl, hb1⟩
    have HB1 := Lib.hid hb1
    clear hb1
    go_wp2_with fail
    go_ret
    exact ⟨rfl, HB1.out⟩
  · have d1 : decide ((2000 : Int) < (S.size : Int)) = false := decide_eq_false (by omega)
    have d2 : decide ((2000 : Int) < (T.size : Int)) = true := decide_eq_true (by omega)
    clear h h1
    go_enter Tryd.func4, Tryd.ntmps4
    go_wp2_with fail
    refine SM.out.mono ?_
    rintro e w1 ⟨rfl, hb1⟩
    have HB1 := Lib.hid hb1
    clear hb1
    go_wp2_with fail
    go_ret
    exact ⟨rfl, HB1.out⟩
set_option maxHeartbeats 2000000 in
set_option maxRecDepth 100000 in
theorem short (s t : Bs) (hs : s.length ≤ 2000) (ht : t.length ≤ 2000) (w : World) (hT : Tb w) :
    Calls Tryd.prog 4 #[.string (sv s), .string (sv t)] w (IsTrue w) := by
  have SM := Lib.hid (small_any w hT)
  have HX := Lib.hid (fun W => hex_any s (by omega) W)
  have U1 := Lib.hid (fun W => unhex_any (hexs s) (by rw [hexs_length]; omega) W)
  have U2 := Lib.hid (fun W => unhex_any t (by omega) W)
  rw [unhexs_hexs] at U1
  obtain ⟨n, hn⟩ : ∃ n, s.length = n := ⟨_, rfl⟩
  have hsz : (sv s).size = n := hn
  have hxz : (sv (hexs s)).size = 2 * n := by show (hexs s).length = _; rw [hexs_length, hn]
  obtain ⟨m, hm⟩ : ∃ n, t.length = n := ⟨_, rfl⟩
  have htz : (sv t).size = m := hm
  have d1 : decide ((2000 : Int) < (n : Int)) = false := decide_eq_false (by omega)
  have d2 : decide ((2000 : Int) < (m : Int)) = false := decide_eq_false (by omega)
  have hmul : wrap64 (2 * (n : Int)) = ((2 * n : Nat) : Int) := by unfold wrap64; omega
  have heq : (((2 * n : Nat) : Int) == ((2 * n : Nat) : Int)) = true := by simp
  have b1 : ((sv s).toList == (sv s).toList) = true := beq_self_eq_true _
  obtain ⟨X, hX⟩ : ∃ X, hexs s = X := ⟨_, rfl⟩
  rw [hX] at HX U1 hxz
  have HTL : Hid (t.length ≤ 2000) := Lib.hid ht
  clear hX hT hs ht hn hm
  have HU2 := Lib.hid (hexs_unhexs t)
  cases hu : unhexs t with
  | none =>
    rw [hu] at U2
    have b2 : ((sv []).toList == []) = true := by rw [sv_toList]; rfl
    clear hu HU2
    go_enter Tryd.func4, Tryd.ntmps4
    go_wp2_with fail
    refine SM.out.mono ?_
    rintro e w1 ⟨rfl, hb1⟩
    have B1 := Lib.hid hb1
    clear hb1
    go_wp2_with fail
    refine (HX.out _).mono ?_
    rintro e w2 ⟨rfl, hb2⟩
    have B2 := Lib.hid (below_trans B1.out hb2)
    clear hb2 B1
    go_wp2_with fail
    refine (U1.out _).mono ?_
    rintro e w3 ⟨rfl, hb3⟩
    have B3 := Lib.hid (below_trans B2.out hb3)
    clear hb3 B2
    unfold unres
    go_wp2_with fail
    refine (U2.out _).mono ?_
    rintro e w4 ⟨rfl, hb4⟩
    have B4 := Lib.hid (below_trans B3.out hb4)
    clear hb4 B3
    unfold unres
    go_wp2_with fail
    go_ret
    exact ⟨rfl, B4.out⟩
  | some b =>
    rw [hu] at U2
    have hb := HU2.out b hu
    have HX2 := Lib.hid (fun W => hex_any b (by have := hexs_length b; rw [hb] at this; have := HTL.out; omega) W)
    rw [hb] at HX2
    have b2 : ((sv t).toList == (sv t).toList) = true := beq_self_eq_true _
    clear hu HU2 hb
    go_enter Tryd.func4, Tryd.ntmps4
    go_wp2_with fail
    refine SM.out.mono ?_
    rintro e w1 ⟨rfl, hb1⟩
    have B1 := Lib.hid hb1
    clear hb1
    go_wp2_with fail
    refine (HX.out _).mono ?_
    rintro e w2 ⟨rfl, hb2⟩
    have B2 := Lib.hid (below_trans B1.out hb2)
    clear hb2 B1
    go_wp2_with fail
    refine (U1.out _).mono ?_
    rintro e w3 ⟨rfl, hb3⟩
    have B3 := Lib.hid (below_trans B2.out hb3)
    clear hb3 B2
    unfold unres
    go_wp2_with fail
    refine (U2.out _).mono ?_
    rintro e w4 ⟨rfl, hb4⟩
    have B4 := Lib.hid (below_trans B3.out hb4)
    clear hb4 B3
    unfold unres
    go_wp2_with fail
    refine (HX2.out _).mono ?_
    rintro e w5 ⟨rfl, hb5⟩
    have B5 := Lib.hid (below_trans B4.out hb5)
    clear hb5 B4
    go_wp2_with fail
    go_ret
    exact ⟨rfl, B5.out⟩
theorem walk (S T : ByteArray) (hS : S.size ≤ maxLen) (hT' : T.size ≤ maxLen) (w : World) (hT : Tb w) : Calls Tryd.prog 4 #[.string S, .string T] w (IsTrue w) := by
  by_cases h : 2000 < S.size ∨ 2000 < T.size
  · exact long S T hS hT' h w hT
  · have := short S.data.toList T.data.toList (by rw [← Lib.size_eq]; omega) (by rw [← Lib.size_eq]; omega) w hT
    rwa [sv_of, sv_of] at this
set_option maxRecDepth 100000 in
theorem lifted (os : Os) (started : os.Started) (H : Type) (enc : TypeId × Value → H) :
    ReturnsInHanded {} Tryd.checked os 4 .any (fun w args => (Rows.digestHexesSpec.pre enc Tryd.prog Tryd.f4 Rows.digestHexesRow.domain false w args ∧ laidMetH Tryd.prog Rows.digestHexesRow.laid w) ∧ sizedMet enc Tryd.prog Tryd.f4 (OpenSpec.ofChange Rows.digestHexesSpec) false w args)
      (Rows.digestHexesSpec.post enc Tryd.prog Tryd.f4 false true false false) := by
  refine returns_both (C := Tryd.checked) (X := fun w _ => laidMetH Tryd.prog Rows.digestHexesRow.laid w) (fun _ _ _ hh h => h.of_heap hh.symm) own started (by kernel_rfl) Tryd.func4
    (ChangeSpec.witness_shaped (enc := enc) (C := Tryd.checked) (os := os) (X := fun w _ => laidMetH Tryd.prog Rows.digestHexesRow.laid w) false (World.laidAll Tryd.prog os Rows.digestHexesRow.laid) #[.string ⟨#[]⟩, .string ⟨#[]⟩] 8 (World.laidAll_os _ _ _)
      (World.shaped_of_ZipB (by kernel_rfl) (by kernel_rfl)) (by kernel_rfl) (by kernel_rfl) (by kernel_rfl)
      (by rw [MakeChecks.laidMetH_plain _ _ _ (by kernel_rfl)]; exact laidMet_laidAll _ (by kernel_rfl) (by kernel_rfl))) ?_
  intro W base args ds gs before hval0 hW hsh hX
  have hT : Tb W := tb_of_laid hX
  have hval : ∀ (j : Nat) t v, Tryd.f4.params[j]? = some t → args[j]? = some v → Value.okWide Tryd.prog W .any base t v := hval0
  have hW' := hW
  obtain ⟨p, q, hA0, hV, rfl, hfz, hnd⟩ := hW
  have hA : DataW.TrodAll enc Tryd.prog W 0 (fun _ => true) true Tryd.f4.params.toList args.toList ds p := hA0
  rw [Tryd.params4] at hA hval
  obtain ⟨v0, vs0, d0, ds0, p0, q0, hargs, rfl, rfl, h0, r0⟩ := trodAll_cons hA
  obtain ⟨v1, vs1, d1, ds1, p1, q1, rfl, rfl, rfl, h1, r1⟩ := trodAll_cons r0
  obtain ⟨rfl, rfl, rfl⟩ := trodAll_nil r1
  obtain rfl : args = #[v0, v1] := by cases args; simp_all
  obtain ⟨rfl, rfl⟩ := trodVars_none hV
  obtain ⟨s0, rfl, rfl, rfl, ws0⟩ := Go.ChangeMaps.open_string Tryd.underlying9 (hval 0 9 v0 rfl rfl) h0
  obtain ⟨s1, rfl, rfl, rfl, ws1⟩ := Go.ChangeMaps.open_string Tryd.underlying9 (hval 1 9 v1 rfl rfl) h1
  clear hA0 hval0
  simp only [List.append_nil] at hW'
  refine (walk s0 s1 ws0 ws1 W hT).mono fun e W' ⟨he, hb⟩ => ?_
  subst he
  exact ⟨_, rfl, _, _, _, [], _, [], hW', (trodAll_cons_mk (shut_bool Tryd.underlying4 _) trodAll_mk0), (trodAll_cons_mk (Go.ChangeMaps.shut_string Tryd.underlying9 ws0) (trodAll_cons_mk (Go.ChangeMaps.shut_string Tryd.underlying9 ws1) trodAll_mk0)), rfl, hb.frame _, fun h => by cases h⟩

theorem over : Rows.DigestHexesSaid :=
  OpenClaim.holds_of_wide 4 Tryd.f4 rfl rfl rfl rfl rfl rfl rfl ⟨rfl, rfl, rfl, rfl, rfl⟩ rfl rfl rfl rfl rfl (by kernel_rfl) Tryd.func4 (by kernel_rfl)
    (of_decide_eq_true (by kernel_rfl)) (by unfold Func.isWrapper; first | (rw [if_pos (by decide +kernel)]; kernel_rfl) | (rw [if_neg (by decide +kernel)]; exact ⟨rfl, rfl⟩))
    (fun os started H enc _ => lifted os started H enc)
theorem proved : Rows.DigestHexesCardSaid :=
  Claim7.holds_tied_plain_at .later [] [.data, .data] true Rows.digestHexesCard.stood.harness false over (fun _ h => by cases h) (by kernel_rfl) (fun _ h => by cases h) digestHexes_row_tie rfl ⟨rfl, rfl⟩ (by kernel_rfl) rfl
    (fun f fn hf hfn => by
      obtain rfl : f = 4 := Option.some.inj ((show Tryd.prog.funcNamed "bourne/bournelaw03.DigestHexes" = some 4 by kernel_rfl).symm.trans hf) |>.symm
      obtain rfl : fn = Tryd.f4 := (Option.some.inj (Tryd.func4.symm.trans hfn)).symm
      exact ⟨by kernel_rfl, fun j t ht => by
        rw [Tryd.params4] at ht
        have hm : t ∈ [9] := by simpa using Array.mem_of_getElem? ht
        have hall : ([9].all fun u => !Tryd.prog.wantsStandIn u) = true := by kernel_rfl
        exact (show Tryd.prog.wantsStandIn t = false by simpa using List.all_eq_true.1 hall t hm)⟩)
    (by kernel_rfl)
end Go.Proofs.YtobhbdaenlkodaaDoor.digestHexes
