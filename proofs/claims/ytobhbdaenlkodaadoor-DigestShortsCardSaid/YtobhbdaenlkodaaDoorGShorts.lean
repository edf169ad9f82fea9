/- The statement DigestShorts: Sum has 32 bytes, and Short is determined by its first 8 bytes and is below 2^60. Conditions: those of the card; the statement's own bounds. -/
import Derived.Test.YtobhbdaenlkodaaDoorGCard
namespace Go.Proofs.YtobhbdaenlkodaaDoor.digestShorts
open Go.ChangeShapes Go.WideShapes Go.ChangeAt Go.RowKit Gm
open Go.Proofs.YtobhbdaenlkodaaDoor
set_option linter.unusedVariables false

set_option maxHeartbeats 2000000 in
set_option maxRecDepth 100000 in
theorem long (S : ByteArray) (hS : S.size ≤ maxLen) (h : 2000 < S.size) (w : World) (hT : Tb w) :
    Calls Tryd.prog 8 #[.string S] w (IsTrue w) := by
  have SM := Lib.hid (small_any w hT)
  have d1 : decide ((2000 : Int) < (S.size : Int)) = true := decide_eq_true (by omega)
  clear hT h
  go_enter Tryd.func8, Tryd.ntmps8
  go_wp2_with fail
  refine SM.out.mono ?_
  rintro e w1 ⟨rfl, hb1⟩
  have HB1 := Lib.hid hb1
  clear hb1
  go_wp2_with fail
  go_ret
  exact ⟨rfl, HB1.out⟩
theorem wrap_nat {y : Nat} (h : y < 9223372036854775808) : wrap64 (y : Int) = (y : Int) := by unfold wrap64; omega
/-- What is left of the number when the bytes from number i on are taken off. -/
def lf (D : Bs) (i : Nat) : Nat := if 8 ≤ i then beN (D.take 8) / 16 else beN (D.take i)
theorem lf_top (D : Bs) (h : D.length = 32) : lf D 8 % 16 = (D.getD 7 0).toNat / 16 ∧ lf D 8 / 16 = lf D 7 := by
  have e := beN_take D 7 (by omega)
  have hb := byte_lt (D.getD 7 0)
  unfold lf
  rw [if_pos (by decide), if_neg (by decide), e]
  omega
theorem lf_step (D : Bs) (h : D.length = 32) (i : Nat) (hi : i < 7) : lf D (i + 1) % 256 = (D.getD i 0).toNat ∧ lf D (i + 1) / 256 = lf D i := by
  have e := beN_take D i (by omega)
  have hb := byte_lt (D.getD i 0)
  unfold lf
  rw [if_neg (by omega), if_neg (by omega), e]
  omega
set_option maxHeartbeats 2000000 in
set_option maxRecDepth 100000 in
theorem short (s : Bs) (hs : s.length ≤ 2000) (w : World) (hT : Tb w) :
    Calls Tryd.prog 8 #[.string (sv s)] w (IsTrue w) := by
  have SM := Lib.hid (small_any w hT)
  obtain ⟨n, hn⟩ : ∃ n, s.length = n := ⟨_, rfl⟩
  have hsz : (sv s).size = n := hn
  have d1 : decide ((2000 : Int) < (n : Int)) = false := decide_eq_false (by omega)
  have S1 := Lib.hid (fun W (h : Tb W) => sum_any s (by omega) W h)
  have S2 := Lib.hid (fun W (h : Tb W) => short_any s (by omega) W h)
  have HSH : Hid (shortN s = lf (sums s) 8) := Lib.hid rfl
  obtain ⟨D, hD⟩ : ∃ D, sums s = D := ⟨_, rfl⟩
  have hDl : D.length = 32 := by rw [← hD]; exact sums_length s
  have HDL := Lib.hid hDl
  have hDz : (sv D).size = 32 := hDl
  rw [hD] at S1 HSH
  rw [HSH.out] at S2
  have HT := Lib.hid hT
  have HG := Lib.hid (fun k (h : k < (sv D).size) => sv_get D k h)
  have HLT : Hid (∀ i, i ≤ 8 → lf D i < 1152921504606846976) := Lib.hid (fun i hi => by
    unfold lf
    have h1 : (256 : Nat) ^ 8 = 18446744073709551616 := by decide
    have h2 : (256 : Nat) ^ 7 = 72057594037927936 := by decide
    split
    · have := beN_lt D 8 (by omega); omega
    · have := beN_lt D i (by omega)
      have h3 : 256 ^ i ≤ 256 ^ 7 := Nat.pow_le_pow_right (by decide) (by omega)
      omega)
  clear hT hs hn hD hDl HSH
  go_enter Tryd.func8, Tryd.ntmps8
  go_wp2_with fail
  refine SM.out.mono ?_
  rintro e w1 ⟨rfl, hb1⟩
  have B1 := Lib.hid hb1
  have T1 := Lib.hid (HT.out.below hb1 (Nat.le_refl _))
  clear hb1
  go_wp2_with fail
  refine (S1.out _ T1.out).mono ?_
  rintro e w2 ⟨rfl, hb2⟩
  have B2 := Lib.hid (below_trans B1.out hb2)
  have T2 := Lib.hid (T1.out.below hb2 (Nat.le_refl _))
  clear hb2 B1 T1
  go_wp2_with fail
  refine (S2.out _ T2.out).mono ?_
  rintro e w3 ⟨rfl, hb3⟩
  have B3 := Lib.hid (below_trans B2.out hb3)
  clear hb3 B2 T2
  go_wp2_with fail
  go_loop [5, 6] (fun x i => ∃ k : Nat, k ≤ 8 ∧ i = .int .i64 ((k : Int) - 1) ∧ x = .int .i64 (lf D k : Nat)) (fun _ i => (intOf i + 1).toNat)
  case atStart => exact ⟨8, Nat.le_refl _, rfl, rfl⟩
  case round =>
    obtain ⟨k, hk, rfl, rfl⟩ := hrel
    cases k with
    | zero =>
      have hz : lf D 0 = 0 := by unfold lf; rw [if_neg (by decide)]; rfl
      have dl : decide ((0 : Int) ≤ ((0 : Nat) : Int) - 1) = false := by decide
      rw [hz]
      go_wp2_with fail
      go_ret
      exact ⟨rfl, B3.out⟩
    | succ k =>
      have e0 : ((k + 1 : Nat) : Int) - 1 = (k : Int) := by omega
      rw [e0]
      have dl : decide ((0 : Int) ≤ (k : Int)) = true := decide_eq_true (by omega)
      have hks : k < (sv D).size := by omega
      obtain ⟨b, hb⟩ : ∃ b, (D.getD k 0) = b := ⟨_, rfl⟩
      have hget : (sv D)[k]'hks = b := (HG.out k hks).trans hb
      obtain ⟨x, hx⟩ : ∃ x, lf D (k + 1) = x := ⟨_, rfl⟩
      have hxlt := HLT.out (k + 1) hk
      have hbb := byte_lt b
      have hk32 : (k : Int) < 32 := by omega
      by_cases h7 : k = 7
      · subst h7
        have ht := lf_top D HDL.out
        rw [hx, hb] at ht
        rw [hx] at hxlt ⊢
        obtain ⟨y, hy⟩ : ∃ y, lf D 7 = y := ⟨_, rfl⟩
        obtain ⟨c, hc⟩ : ∃ c : Nat, b.toNat / 16 = c := ⟨_, rfl⟩
        obtain ⟨m, hm⟩ : ∃ m : Nat, b.toNat = m := ⟨_, rfl⟩
        rw [hm] at hc hbb ht
        have hxd : (x : Int) / 16 = (y : Int) := by omega
        have hxm : (x : Int) % 16 = (c : Int) := by omega
        have hmd : (m : Int) / 16 = (c : Int) := by omega
        have hcc : ((c : Int) == (c : Int)) = true := by simp
        have hY : Hid (lf D 7 = y) := Lib.hid hy
        clear hx hb hxlt hbb ht hy hc
        go_wp2_with fail
        refine ⟨⟨7, by decide, rfl, ?_⟩, by decide⟩
        rw [wrap_nat (y := y) (by have := HLT.out 7 (by decide); rw [hY.out] at this; exact Nat.lt_trans this (by decide)), hY.out]
      · have hk7 : k < 7 := by omega
        have ht := lf_step D HDL.out k hk7
        rw [hx, hb] at ht
        rw [hx] at hxlt ⊢
        obtain ⟨y, hy⟩ : ∃ y, lf D k = y := ⟨_, rfl⟩
        obtain ⟨m, hm⟩ : ∃ m : Nat, b.toNat = m := ⟨_, rfl⟩
        rw [hm] at hbb ht
        have hxd : (x : Int) / 256 = (y : Int) := by omega
        have hxm : (x : Int) % 256 = (m : Int) := by omega
        have hmm : ((m : Int) == (m : Int)) = true := by simp
        have hk7' : ((k : Int) == 7) = false := by simp; omega
        have hY : Hid (lf D k = y) := Lib.hid hy
        have HK := Lib.hid hk
        clear hx hb hxlt hbb ht hy h7 hk7
        go_wp2_with fail
        refine ⟨⟨k, by have := HK.out; omega, rfl, ?_⟩, by simp [intOf]⟩
        rw [wrap_nat (y := y) (by have := HLT.out k (by have := HK.out; omega); rw [hY.out] at this; exact Nat.lt_trans this (by decide)), hY.out]
theorem walk (S : ByteArray) (hS : S.size ≤ maxLen) (w : World) (hT : Tb w) : Calls Tryd.prog 8 #[.string S] w (IsTrue w) := by
  by_cases h : 2000 < S.size
  · exact long S hS h w hT
  · have := short S.data.toList (by rw [← Lib.size_eq]; omega) w hT
    rwa [sv_of] at this
set_option maxRecDepth 100000 in
theorem lifted (os : Os) (started : os.Started) (H : Type) (enc : TypeId × Value → H) :
    ReturnsInHanded {} Tryd.checked os 8 .any (fun w args => (Rows.digestShortsSpec.pre enc Tryd.prog Tryd.f8 Rows.digestShortsRow.domain false w args ∧ laidMetH Tryd.prog Rows.digestShortsRow.laid w) ∧ sizedMet enc Tryd.prog Tryd.f8 (OpenSpec.ofChange Rows.digestShortsSpec) false w args)
      (Rows.digestShortsSpec.post enc Tryd.prog Tryd.f8 false true false false) := by
  refine returns_both (C := Tryd.checked) (X := fun w _ => laidMetH Tryd.prog Rows.digestShortsRow.laid w) (fun _ _ _ hh h => h.of_heap hh.symm) own started (by kernel_rfl) Tryd.func8
    (ChangeSpec.witness_shaped (enc := enc) (C := Tryd.checked) (os := os) (X := fun w _ => laidMetH Tryd.prog Rows.digestShortsRow.laid w) false (World.laidAll Tryd.prog os Rows.digestShortsRow.laid) #[.string ⟨#[]⟩] 8 (World.laidAll_os _ _ _)
      (World.shaped_of_ZipB (by kernel_rfl) (by kernel_rfl)) (by kernel_rfl) (by kernel_rfl) (by kernel_rfl)
      (by rw [MakeChecks.laidMetH_plain _ _ _ (by kernel_rfl)]; exact laidMet_laidAll _ (by kernel_rfl) (by kernel_rfl))) ?_
  intro W base args ds gs before hval0 hW hsh hX
  have hT : Tb W := tb_of_laid hX
  have hval : ∀ (j : Nat) t v, Tryd.f8.params[j]? = some t → args[j]? = some v → Value.okWide Tryd.prog W .any base t v := hval0
  have hW' := hW
  obtain ⟨p, q, hA0, hV, rfl, hfz, hnd⟩ := hW
  have hA : DataW.TrodAll enc Tryd.prog W 0 (fun _ => true) true Tryd.f8.params.toList args.toList ds p := hA0
  rw [Tryd.params8] at hA hval
  obtain ⟨v0, vs0, d0, ds0, p0, q0, hargs, rfl, rfl, h0, r0⟩ := trodAll_cons hA
  obtain ⟨rfl, rfl, rfl⟩ := trodAll_nil r0
  obtain rfl : args = #[v0] := by cases args; simp_all
  obtain ⟨rfl, rfl⟩ := trodVars_none hV
  obtain ⟨s0, rfl, rfl, rfl, ws0⟩ := Go.ChangeMaps.open_string Tryd.underlying9 (hval 0 9 v0 rfl rfl) h0
  clear hA0 hval0
  simp only [List.append_nil] at hW'
  refine (walk s0 ws0 W hT).mono fun e W' ⟨he, hb⟩ => ?_
  subst he
  exact ⟨_, rfl, _, _, _, [], _, [], hW', (trodAll_cons_mk (shut_bool Tryd.underlying4 _) trodAll_mk0), (trodAll_cons_mk (Go.ChangeMaps.shut_string Tryd.underlying9 ws0) trodAll_mk0), rfl, hb.frame _, fun h => by cases h⟩

theorem over : Rows.DigestShortsSaid :=
  OpenClaim.holds_of_wide 8 Tryd.f8 rfl rfl rfl rfl rfl rfl rfl ⟨rfl, rfl, rfl, rfl, rfl⟩ rfl rfl rfl rfl rfl (by kernel_rfl) Tryd.func8 (by kernel_rfl)
    (of_decide_eq_true (by kernel_rfl)) (by unfold Func.isWrapper; first | (rw [if_pos (by decide +kernel)]; kernel_rfl) | (rw [if_neg (by decide +kernel)]; exact ⟨rfl, rfl⟩))
    (fun os started H enc _ => lifted os started H enc)
theorem proved : Rows.DigestShortsCardSaid :=
  Claim7.holds_tied_plain_at .later [] [.data, .data] true Rows.digestShortsCard.stood.harness false over (fun _ h => by cases h) (by kernel_rfl) (fun _ h => by cases h) digestShorts_row_tie rfl ⟨rfl, rfl⟩ (by kernel_rfl) rfl
    (fun f fn hf hfn => by
      obtain rfl : f = 8 := Option.some.inj ((show Tryd.prog.funcNamed "bourne/bournelaw03.DigestShorts" = some 8 by kernel_rfl).symm.trans hf) |>.symm
      obtain rfl : fn = Tryd.f8 := (Option.some.inj (Tryd.func8.symm.trans hfn)).symm
      exact ⟨by kernel_rfl, fun j t ht => by
        rw [Tryd.params8] at ht
        have hm : t ∈ [9] := by simpa using Array.mem_of_getElem? ht
        have hall : ([9].all fun u => !Tryd.prog.wantsStandIn u) = true := by kernel_rfl
        exact (show Tryd.prog.wantsStandIn t = false by simpa using List.all_eq_true.1 hall t hm)⟩)
    (by kernel_rfl)
end Go.Proofs.YtobhbdaenlkodaaDoor.digestShorts
