/- The statement DigestResidue: the checksum of a text that is followed by its checksum is 3911. Conditions: those of the card; the statement's own bounds. -/
import Derived.Test.YtobhbdaenlkodaaDoorGCard
namespace Go.Proofs.YtobhbdaenlkodaaDoor.digestResidue
open Go.ChangeShapes Go.WideShapes Go.ChangeAt Go.RowKit Gm
open Go.Proofs.YtobhbdaenlkodaaDoor
set_option linter.unusedVariables false

set_option maxHeartbeats 2000000 in
set_option maxRecDepth 100000 in
theorem long (S : ByteArray) (hS : S.size ≤ maxLen) (h : 2000 < S.size) (w : World) (hT : Tb w) :
    Calls Tryd.prog 6 #[.string S] w (IsTrue w) := by
  have SM := Lib.hid (small_any w hT)
  have d1 : decide ((2000 : Int) < (S.size : Int)) = true := decide_eq_true (by omega)
  clear hT h
  go_enter Tryd.func6, Tryd.ntmps6
  go_wp2_with fail
  refine SM.out.mono ?_
  rintro e w1 ⟨rfl, hb1⟩
  have HB1 := Lib.hid hb1
  clear hb1
  go_wp2_with fail
  go_ret
  exact ⟨rfl, HB1.out⟩
theorem two_back (a b : UInt8) (W : World) : (convert 30 9 (.slice (some ⟨W.heap.size, 0, none⟩) 2 2)).run Tryd.prog (W.alloc (.cells #[.int .u8 (a.toNat : Int), .int .u8 (b.toNat : Int)] 5)) = .ok (.string (sv [a, b])) (W.alloc (.cells #[.int .u8 (a.toNat : Int), .int .u8 (b.toNat : Int)] 5)) :=
  back_bytes (l := [a, b]) (Blk.new W 5 (bcs [a, b])) 2
set_option maxHeartbeats 2000000 in
set_option maxRecDepth 100000 in
theorem short (s : Bs) (hs : s.length ≤ 2000) (w : World) (hT : Tb w) :
    Calls Tryd.prog 6 #[.string (sv s)] w (IsTrue w) := by
  have SM := Lib.hid (small_any w hT)
  obtain ⟨n, hn⟩ : ∃ n, s.length = n := ⟨_, rfl⟩
  have hsz : (sv s).size = n := hn
  have d1 : decide ((2000 : Int) < (n : Int)) = false := decide_eq_false (by omega)
  have C1 := Lib.hid (fun W => crc_any s (by omega) W)
  have hc := crc_lt s
  have hres := crc_residue s
  obtain ⟨c, hcc⟩ : ∃ c, crc s = c := ⟨_, rfl⟩
  rw [hcc] at C1 hc hres
  obtain ⟨a, ha⟩ : ∃ a, UInt8.ofNat (c % 256) = a := ⟨_, rfl⟩
  obtain ⟨b, hb⟩ : ∃ a, UInt8.ofNat (c / 256) = a := ⟨_, rfl⟩
  rw [ha, hb] at hres
  have C2 := Lib.hid (fun W => crc_any (s ++ [a, b]) (by rw [List.length_append, List.length_cons, List.length_cons, List.length_nil]; omega) W)
  rw [hres] at C2
  have happ : sv s ++ sv [a, b] = sv (s ++ [a, b]) := sv_append _ _
  obtain ⟨X, hX⟩ : ∃ X, sv (s ++ [a, b]) = X := ⟨_, rfl⟩
  rw [hX] at happ C2
  have d2 : decide ((c : Int) < 0) = false := decide_eq_false (by omega)
  have d3 : decide ((65535 : Int) < (c : Int)) = false := decide_eq_false (by omega)
  have e1 : (c : Int) % 256 = (a.toNat : Int) := by rw [← ha, UInt8.toNat_ofNat']; omega
  have e2 : (c : Int) / 256 = (b.toNat : Int) := by rw [← hb, UInt8.toNat_ofNat']; omega
  have e3 : Int.tmod (c : Int) 256 = (a.toNat : Int) := by rw [Int.tmod_eq_emod_of_nonneg (by omega)]; exact e1
  have e4 : Int.tdiv (c : Int) 256 = (b.toNat : Int) := by rw [Int.tdiv_eq_ediv_of_nonneg (by omega)]; exact e2
  have e5 : IntKind.u8.wrap (a.toNat : Int) = (a.toNat : Int) := by have := byte_lt a; rw [IntKind.wrap_u8]; omega
  have e6 : IntKind.u8.wrap (b.toNat : Int) = (b.toNat : Int) := by have := byte_lt b; rw [IntKind.wrap_u8]; omega
  have e7 : (a.toNat : Int) % 256 = (a.toNat : Int) := by have := byte_lt a; omega
  have e8 : (b.toNat : Int) % 256 = (b.toNat : Int) := by have := byte_lt b; omega
  have hcv := two_back a b
  have h2z : (sv [a, b]).size = 2 := rfl
  have hn2 : n ≤ 2000 := by omega
  clear hT hs hn hc hres hcc ha hb hX
  go_enter Tryd.func6, Tryd.ntmps6
  go_wp2_with fail
  refine SM.out.mono ?_
  rintro e w1 ⟨rfl, hb1⟩
  have B1 := Lib.hid hb1
  clear hb1
  go_wp2_with fail
  refine (C1.out _).mono ?_
  rintro e w2 ⟨rfl, rfl⟩
  go_wp2_with fail
  refine (C2.out _).mono ?_
  rintro e w2 ⟨rfl, rfl⟩
  go_wp2_with fail
  go_ret
  exact ⟨rfl, B1.out.alloc B1.out.size _⟩
theorem walk (S : ByteArray) (hS : S.size ≤ maxLen) (w : World) (hT : Tb w) : Calls Tryd.prog 6 #[.string S] w (IsTrue w) := by
  by_cases h : 2000 < S.size
  · exact long S hS h w hT
  · have := short S.data.toList (by rw [← Lib.size_eq]; omega) w hT
    rwa [sv_of] at this
set_option maxRecDepth 100000 in
theorem lifted (os : Os) (started : os.Started) (H : Type) (enc : TypeId × Value → H) :
    ReturnsInHanded {} Tryd.checked os 6 .any (fun w args => (Rows.digestResidueSpec.pre enc Tryd.prog Tryd.f6 Rows.digestResidueRow.domain false w args ∧ laidMetH Tryd.prog Rows.digestResidueRow.laid w) ∧ sizedMet enc Tryd.prog Tryd.f6 (OpenSpec.ofChange Rows.digestResidueSpec) false w args)
      (Rows.digestResidueSpec.post enc Tryd.prog Tryd.f6 false true false false) := by
  refine returns_both (C := Tryd.checked) (X := fun w _ => laidMetH Tryd.prog Rows.digestResidueRow.laid w) (fun _ _ _ hh h => h.of_heap hh.symm) own started (by kernel_rfl) Tryd.func6
    (ChangeSpec.witness_shaped (enc := enc) (C := Tryd.checked) (os := os) (X := fun w _ => laidMetH Tryd.prog Rows.digestResidueRow.laid w) false (World.laidAll Tryd.prog os Rows.digestResidueRow.laid) #[.string ⟨#[]⟩] 8 (World.laidAll_os _ _ _)
      (World.shaped_of_ZipB (by kernel_rfl) (by kernel_rfl)) (by kernel_rfl) (by kernel_rfl) (by kernel_rfl)
      (by rw [MakeChecks.laidMetH_plain _ _ _ (by kernel_rfl)]; exact laidMet_laidAll _ (by kernel_rfl) (by kernel_rfl))) ?_
  intro W base args ds gs before hval0 hW hsh hX
  have hT : Tb W := tb_of_laid hX
  have hval : ∀ (j : Nat) t v, Tryd.f6.params[j]? = some t → args[j]? = some v → Value.okWide Tryd.prog W .any base t v := hval0
  have hW' := hW
  obtain ⟨p, q, hA0, hV, rfl, hfz, hnd⟩ := hW
  have hA : DataW.TrodAll enc Tryd.prog W 0 (fun _ => true) true Tryd.f6.params.toList args.toList ds p := hA0
  rw [Tryd.params6] at hA hval
  obtain ⟨v0, vs0, d0, ds0, p0, q0, hargs, rfl, rfl, h0, r0⟩ := trodAll_cons hA
  obtain ⟨rfl, rfl, rfl⟩ := trodAll_nil r0
  obtain rfl : args = #[v0] := by cases args; simp_all
  obtain ⟨rfl, rfl⟩ := trodVars_none hV
  obtain ⟨s0, rfl, rfl, rfl, ws0⟩ := Go.ChangeMaps.open_string Tryd.underlying9 (hval 0 9 v0 rfl rfl) h0
  clear hA0 hval0
  simp only [List.append_nil] at hW'
  refine (walk s0 ws0 W hT).mono fun e W' ⟨he, hb⟩ => ?_
  subst he
  exact ⟨_, rfl, _, _, _, [], _, [], hW', (trodAll_cons_mk (shut_bool Tryd.underlying4 _) trodAll_mk0), (trodAll_cons_mk (Go.ChangeMaps.shut_string Tryd.underlying9 ws0) trodAll_mk0), rfl, hb.frame _, fun h => by cases h⟩

theorem over : Rows.DigestResidueSaid :=
  OpenClaim.holds_of_wide 6 Tryd.f6 rfl rfl rfl rfl rfl rfl rfl ⟨rfl, rfl, rfl, rfl, rfl⟩ rfl rfl rfl rfl rfl (by kernel_rfl) Tryd.func6 (by kernel_rfl)
    (of_decide_eq_true (by kernel_rfl)) (by unfold Func.isWrapper; first | (rw [if_pos (by decide +kernel)]; kernel_rfl) | (rw [if_neg (by decide +kernel)]; exact ⟨rfl, rfl⟩))
    (fun os started H enc _ => lifted os started H enc)
theorem proved : Rows.DigestResidueCardSaid :=
  Claim7.holds_tied_plain_at .later [] [.data, .data] true Rows.digestResidueCard.stood.harness false over (fun _ h => by cases h) (by kernel_rfl) (fun _ h => by cases h) digestResidue_row_tie rfl ⟨rfl, rfl⟩ (by kernel_rfl) rfl
    (fun f fn hf hfn => by
      obtain rfl : f = 6 := Option.some.inj ((show Tryd.prog.funcNamed "bourne/bournelaw03.DigestResidue" = some 6 by kernel_rfl).symm.trans hf) |>.symm
      obtain rfl : fn = Tryd.f6 := (Option.some.inj (Tryd.func6.symm.trans hfn)).symm
      exact ⟨by kernel_rfl, fun j t ht => by
        rw [Tryd.params6] at ht
        have hm : t ∈ [9] := by simpa using Array.mem_of_getElem? ht
        have hall : ([9].all fun u => !Tryd.prog.wantsStandIn u) = true := by kernel_rfl
        exact (show Tryd.prog.wantsStandIn t = false by simpa using List.all_eq_true.1 hall t hm)⟩)
    (by kernel_rfl)
end Go.Proofs.YtobhbdaenlkodaaDoor.digestResidue
