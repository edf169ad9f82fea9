/- The statement DigestTells: every function returns what the reference returns. Conditions: those of the card; the statement's own bounds. -/
import Derived.Test.YtobhbdaenlkodaaDoorGCard
import Derived.Test.YtobhbdaenlkodaaDoorGRefCrc
import Derived.Test.YtobhbdaenlkodaaDoorGRefUn
import Derived.Test.YtobhbdaenlkodaaDoorGRefSh
import Derived.Test.YtobhbdaenlkodaaDoorGRefC
namespace Go.Proofs.YtobhbdaenlkodaaDoor.digestTells
open Go.ChangeShapes Go.WideShapes Go.ChangeAt Go.RowKit Gm
open Go.Proofs.YtobhbdaenlkodaaDoor
set_option linter.unusedVariables false

set_option maxHeartbeats 2000000 in
set_option maxRecDepth 100000 in
theorem long (S T : ByteArray) (hS : S.size ≤ maxLen) (hT' : T.size ≤ maxLen) (h : 2000 < S.size ∨ 2000 < T.size) (w : World) (hT : Tb w) :
    Calls Tryd.prog 3 #[.string S, .string T] w (IsTrue w) := by
  have SM := Lib.hid (small_any w hT)
  clear hT
  by_cases h1 : 2000 < S.size
  · have d1 : decide ((2000 : Int) < (S.size : Int)) = true := decide_eq_true (by omega)
    clear h h1
    go_enter Tryd.func3, Tryd.ntmps3
    go_wp2_with fail
    refine SM.out.mono ?_
    rintro e w1 ⟨rfl, hb1⟩
    have HB1 := Lib.hid hb1
    clear hb1
    go_wp2_with fail
    go_ret
    exact ⟨rfl, HB1.out⟩
  · have d1 : decide ((2000 : Int) < (S.size : Int)) = false := decide_eq_false (by omega)
    have d2 : decide ((2000 : Int) < (T.size : Int)) = true := decide_eq_true (by omega)
    clear h h1
    go_enter Tryd.func3, Tryd.ntmps3
    go_wp2_with fail
    refine SM.out.mono ?_
    rintro e w1 ⟨rfl, hb1⟩
    have HB1 := Lib.hid hb1
    clear hb1
    go_wp2_with fail
    go_ret
    exact ⟨rfl, HB1.out⟩
set_option maxHeartbeats 4000000 in
set_option maxRecDepth 100000 in
theorem short (HRC : Hid RComp) (s t : Bs) (hs : s.length ≤ 2000) (ht : t.length ≤ 2000) (w : World) (hT : Tb w) :
    Calls Tryd.prog 3 #[.string (sv s), .string (sv t)] w (IsTrue w) := by
  have SM := Lib.hid (small_any w hT)
  have HT : Hid (Tb w) := Lib.hid hT
  have U1 := Lib.hid (fun W => unhex_any t (by omega) W)
  have U2 := Lib.hid (fun W => runhex_any t ht W)
  have S1 := Lib.hid (fun W (h : Tb W) => sum_any s (by omega) W h)
  have S2 := Lib.hid (fun W => rsum_any HRC s hs W)
  have N1 := Lib.hid (fun W (h : Tb W) => short_any s (by omega) W h)
  have N2 := Lib.hid (fun W => rshort_any HRC s hs W)
  have C1 := Lib.hid (fun W => crc_any s (by omega) W)
  have C2 := Lib.hid (fun W => rcrc_any s hs W)
  have X1 := Lib.hid (fun W => hex_any s (by omega) W)
  have X2 := Lib.hid (fun W => rhex_any s hs W)
  obtain ⟨n, hn⟩ : ∃ n, s.length = n := ⟨_, rfl⟩
  have hsz : (sv s).size = n := hn
  obtain ⟨m, hm⟩ : ∃ n, t.length = n := ⟨_, rfl⟩
  have htz : (sv t).size = m := hm
  have d1 : decide ((2000 : Int) < (n : Int)) = false := decide_eq_false (by omega)
  have d2 : decide ((2000 : Int) < (m : Int)) = false := decide_eq_false (by omega)
  obtain ⟨D, hD⟩ : ∃ D, sums s = D := ⟨_, rfl⟩
  obtain ⟨N, hN⟩ : ∃ N, shortN s = N := ⟨_, rfl⟩
  obtain ⟨C, hC⟩ : ∃ C, crc s = C := ⟨_, rfl⟩
  obtain ⟨X, hX⟩ : ∃ X, hexs s = X := ⟨_, rfl⟩
  rw [hD] at S1 S2
  rw [hN] at N1 N2
  rw [hC] at C1 C2
  rw [hX] at X1 X2
  have b1 : ((sv D).toList == (sv D).toList) = true := beq_self_eq_true _
  have b2 : ((sv X).toList == (sv X).toList) = true := beq_self_eq_true _
  have b3 : ((N : Int) == (N : Int)) = true := beq_self_eq_true _
  have b4 : ((C : Int) == (C : Int)) = true := beq_self_eq_true _
  clear hD hN hC hX hT hs ht hn hm
  have HR : ∃ (A : Bs) (o : Bool), unres (unhexs t) = .returned (.tuple #[.string (sv A), .bool o]) := by
    cases unhexs t with
    | none => exact ⟨[], false, rfl⟩
    | some l => exact ⟨l, true, rfl⟩
  obtain ⟨A, o, hR⟩ := HR
  rw [hR] at U1 U2
  have b5 : ((sv A).toList == (sv A).toList) = true := beq_self_eq_true _
  have b6 : (o == o) = true := beq_self_eq_true _
  clear hR
  go_enter Tryd.func3, Tryd.ntmps3
  go_wp2_with fail
  refine SM.out.mono ?_
  rintro e w1 ⟨rfl, hb1⟩
  have B1 := Lib.hid hb1
  clear hb1 SM
  go_wp2_with fail
  refine (U1.out _).mono ?_
  rintro e w2 ⟨rfl, hb⟩
  have B2 := Lib.hid (below_trans B1.out hb)
  clear hb B1 U1
  go_wp2_with fail
  refine (U2.out _).mono ?_
  rintro e w3 ⟨rfl, hb⟩
  have B3 := Lib.hid (below_trans B2.out hb)
  clear hb B2 U2
  go_wp2_with fail
  refine (S1.out _ (HT.out.below B3.out (Nat.le_refl _))).mono ?_
  rintro e w4 ⟨rfl, hb⟩
  have B4 := Lib.hid (below_trans B3.out hb)
  clear hb B3 S1
  go_wp2_with fail
  refine (S2.out _).mono ?_
  rintro e w5 ⟨rfl, hb⟩
  have B5 := Lib.hid (below_trans B4.out hb)
  clear hb B4 S2
  go_wp2_with fail
  refine (N1.out _ (HT.out.below B5.out (Nat.le_refl _))).mono ?_
  rintro e w6 ⟨rfl, hb⟩
  have B6 := Lib.hid (below_trans B5.out hb)
  clear hb B5 N1
  go_wp2_with fail
  refine (N2.out _).mono ?_
  rintro e w7 ⟨rfl, hb⟩
  have B7 := Lib.hid (below_trans B6.out hb)
  clear hb B6 N2
  go_wp2_with fail
  refine (C1.out _).mono ?_
  rintro e w8 ⟨rfl, rfl⟩
  clear C1
  go_wp2_with fail
  refine (C2.out _).mono ?_
  rintro e w8 ⟨rfl, rfl⟩
  clear C2
  go_wp2_with fail
  refine (X1.out _).mono ?_
  rintro e w8 ⟨rfl, hb⟩
  have B8 := Lib.hid (below_trans B7.out hb)
  clear hb B7 X1
  go_wp2_with fail
  refine (X2.out _).mono ?_
  rintro e w9 ⟨rfl, hb⟩
  have B9 := Lib.hid (below_trans B8.out hb)
  clear hb B8 X2
  go_wp2_with fail
  go_ret
  exact ⟨rfl, B9.out⟩
theorem rc : Hid RComp := Lib.hid (fun s hs a ha H hcap h hh w hH => rcomp_any s hs a ha H hcap h hh w hH)
theorem walk (S T : ByteArray) (hS : S.size ≤ maxLen) (hT' : T.size ≤ maxLen) (w : World) (hT : Tb w) : Calls Tryd.prog 3 #[.string S, .string T] w (IsTrue w) := by
  by_cases h : 2000 < S.size ∨ 2000 < T.size
  · exact long S T hS hT' h w hT
  · have := short rc S.data.toList T.data.toList (by rw [← Lib.size_eq]; omega) (by rw [← Lib.size_eq]; omega) w hT
    rwa [sv_of, sv_of] at this
set_option maxRecDepth 100000 in
theorem lifted (os : Os) (started : os.Started) (H : Type) (enc : TypeId × Value → H) :
    ReturnsInHanded {} Tryd.checked os 3 .any (fun w args => (Rows.digestTellsSpec.pre enc Tryd.prog Tryd.f3 Rows.digestTellsRow.domain false w args ∧ laidMetH Tryd.prog Rows.digestTellsRow.laid w) ∧ sizedMet enc Tryd.prog Tryd.f3 (OpenSpec.ofChange Rows.digestTellsSpec) false w args)
      (Rows.digestTellsSpec.post enc Tryd.prog Tryd.f3 false true false false) := by
  refine returns_both (C := Tryd.checked) (X := fun w _ => laidMetH Tryd.prog Rows.digestTellsRow.laid w) (fun _ _ _ hh h => h.of_heap hh.symm) own started (by kernel_rfl) Tryd.func3
    (ChangeSpec.witness_shaped (enc := enc) (C := Tryd.checked) (os := os) (X := fun w _ => laidMetH Tryd.prog Rows.digestTellsRow.laid w) false (World.laidAll Tryd.prog os Rows.digestTellsRow.laid) #[.string ⟨#[]⟩, .string ⟨#[]⟩] 8 (World.laidAll_os _ _ _)
      (World.shaped_of_ZipB (by kernel_rfl) (by kernel_rfl)) (by kernel_rfl) (by kernel_rfl) (by kernel_rfl)
      (by rw [MakeChecks.laidMetH_plain _ _ _ (by kernel_rfl)]; exact laidMet_laidAll _ (by kernel_rfl) (by kernel_rfl))) ?_
  intro W base args ds gs before hval0 hW hsh hX
  have hT : Tb W := tb_of_laid hX
  have hval : ∀ (j : Nat) t v, Tryd.f3.params[j]? = some t → args[j]? = some v → Value.okWide Tryd.prog W .any base t v := hval0
  have hW' := hW
  obtain ⟨p, q, hA0, hV, rfl, hfz, hnd⟩ := hW
  have hA : DataW.TrodAll enc Tryd.prog W 0 (fun _ => true) true Tryd.f3.params.toList args.toList ds p := hA0
  rw [Tryd.params3] at hA hval
  obtain ⟨v0, vs0, d0, ds0, p0, q0, hargs, rfl, rfl, h0, r0⟩ := trodAll_cons hA
  obtain ⟨v1, vs1, d1, ds1, p1, q1, rfl, rfl, rfl, h1, r1⟩ := trodAll_cons r0
  obtain ⟨rfl, rfl, rfl⟩ := trodAll_nil r1
  obtain rfl : args = #[v0, v1] := by cases args; simp_all
  obtain ⟨rfl, rfl⟩ := trodVars_none hV
  obtain ⟨s0, rfl, rfl, rfl, ws0⟩ := Go.ChangeMaps.open_string Tryd.underlying9 (hval 0 9 v0 rfl rfl) h0
  obtain ⟨s1, rfl, rfl, rfl, ws1⟩ := Go.ChangeMaps.open_string Tryd.underlying9 (hval 1 9 v1 rfl rfl) h1
  clear hA0 hval0
  simp only [List.append_nil] at hW'
  refine (walk s0 s1 ws0 ws1 W hT).mono fun e W' ⟨he, hb⟩ => ?_
  subst he
  exact ⟨_, rfl, _, _, _, [], _, [], hW', (trodAll_cons_mk (shut_bool Tryd.underlying4 _) trodAll_mk0), (trodAll_cons_mk (Go.ChangeMaps.shut_string Tryd.underlying9 ws0) (trodAll_cons_mk (Go.ChangeMaps.shut_string Tryd.underlying9 ws1) trodAll_mk0)), rfl, hb.frame _, fun h => by cases h⟩

theorem over : Rows.DigestTellsSaid :=
  OpenClaim.holds_of_wide 3 Tryd.f3 rfl rfl rfl rfl rfl rfl rfl ⟨rfl, rfl, rfl, rfl, rfl⟩ rfl rfl rfl rfl rfl (by kernel_rfl) Tryd.func3 (by kernel_rfl)
    (of_decide_eq_true (by kernel_rfl)) (by unfold Func.isWrapper; first | (rw [if_pos (by decide +kernel)]; kernel_rfl) | (rw [if_neg (by decide +kernel)]; exact ⟨rfl, rfl⟩))
    (fun os started H enc _ => lifted os started H enc)
theorem proved : Rows.DigestTellsCardSaid :=
  Claim7.holds_tied_plain_at .later [] [.data, .data] true Rows.digestTellsCard.stood.harness false over (fun _ h => by cases h) (by kernel_rfl) (fun _ h => by cases h) digestTells_row_tie rfl ⟨rfl, rfl⟩ (by kernel_rfl) rfl
    (fun f fn hf hfn => by
      obtain rfl : f = 3 := Option.some.inj ((show Tryd.prog.funcNamed "bourne/bournelaw03.DigestTells" = some 3 by kernel_rfl).symm.trans hf) |>.symm
      obtain rfl : fn = Tryd.f3 := (Option.some.inj (Tryd.func3.symm.trans hfn)).symm
      exact ⟨by kernel_rfl, fun j t ht => by
        rw [Tryd.params3] at ht
        have hm : t ∈ [9] := by simpa using Array.mem_of_getElem? ht
        have hall : ([9].all fun u => !Tryd.prog.wantsStandIn u) = true := by kernel_rfl
        exact (show Tryd.prog.wantsStandIn t = false by simpa using List.all_eq_true.1 hall t hm)⟩)
    (by kernel_rfl)
end Go.Proofs.YtobhbdaenlkodaaDoor.digestTells
