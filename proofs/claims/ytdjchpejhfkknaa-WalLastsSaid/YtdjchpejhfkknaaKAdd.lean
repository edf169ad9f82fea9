/- Append: a pending append more, or an error; the crash may come behind it. Conditions: the disk lies in memory of its own; the text has at most 2^40 bytes. -/
import Derived.Test.YtdjchpejhfkknaaKApp
namespace Go.Proofs.Ytdjchpejhfkknaa.Dk
open Go.RowKit Km
set_option linter.unusedVariables false
set_option maxRecDepth 100000

theorem infoPend : (Try.prog.info? 98).map (fun i => (i.zero, i.size, i.bytes)) = some (some (.agg #[.int .i64 0, .int .i64 0]), 2, 16) := by kernel_rfl
section
variable {A : Nat → Prop} {r : Nat} {s : St} {K : Nat → Value} {w w' : World}
theorem one_int (w : World) (f : Int) : Ints (w.alloc (.cells #[.int .i64 f] 3)) (.slice (some ⟨w.heap.size, 0, none⟩) 1 1) [f] :=
  ⟨_, _, rfl, fun _ => ⟨_, _, rfl, by simp, fun j z hz => by
    rw [(Blk.new w 3 #[.int .i64 f]).cell]
    match j, hz with
    | 0, hz => simp at hz; subst hz; simp⟩⟩
theorem add_pend (s : St) (k : Nat) (b : Bs) : ({ ({ s with F := upd s.F k (s.F k ++ b) } : St) with L := s.L ++ [(k, b.length)] } : St) = { s with F := upd s.F k (s.F k ++ b), L := s.L ++ [(k, b.length)] } := rfl
theorem add_wrap (a b : Nat) (ha : a ≤ 16777216) (hb : b ≤ 1099511627776) : wrap64 (((a : Nat) : Int) + ((b : Nat) : Int)) = ((a : Nat) : Int) + ((b : Nat) : Int) := by unfold wrap64; omega
set_option maxHeartbeats 4000000 in
theorem add_dsk (h : Dsk A r s w) (f : Int) (b : Bs) (hbl : b.length ≤ 1099511627776) : Calls Try.prog 40 #[.pointer (some ⟨r, 0, none⟩), .int .i64 f, .string (sv b)] w fun e w' => e = .returned (.int .i64 (addE s f b)) ∧ Dsk A r (addS s f b) w' ∧ Fr A w w' := by
  have hwa := wf_add h.1 f b
  obtain ⟨hwf, K, hl⟩ := h
  have hl1 := hl.alloc (.cells #[.int .i64 f] 3)
  have hck := check_any hl1 (l := [f]) (by simp) (one_int w f)
  have hall : [f].all okF = okF f := by simp
  rw [hall] at hck
  have hls := hwf.list
  have hfr0 : Fr A w (w.alloc (.cells #[.int .i64 f] 3)) := (Fr.refl A w).alloc _
  have HWA := Lib.hid hwa
  by_cases hz : chk s (okF f) = 0
  · obtain ⟨h0, h8, hfn⟩ := okF_lt (chk_zero hz).2
    rw [hz] at hck
    have hE : addE s f b = if 16777216 < (s.F f.toNat).length + b.length then 8 else 0 := by unfold addE; rw [if_pos hz]
    have hS : addS s f b = if addE s f b = 0 ∧ b ≠ [] then { s with F := upd s.F f.toNat (s.F f.toNat ++ b), L := s.L ++ [(f.toNat, b.length)] } else s := rfl
    have hlk := hwf.len f.toNat h8
    generalize f.toNat = k at *
    subst hfn
    have ho := hl.cont.fil k h8
    obtain ⟨fa, fc, hv⟩ := owns_slice ho
    have cf := hl1.cell (i := k * 2) (by omega)
    rw [hv] at cf
    have HCK := Lib.hid hck
    have HL1 := Lib.hid hl1
    have HL := Lib.hid hl
    have HV := Lib.hid hv
    have HF0 := Lib.hid hfr0
    have HE := Lib.hid hE
    have HSS := Lib.hid hS
    have h8i : ((k : Nat) : Int) < 8 := by omega
    have hsz : (sv b).size = b.length := rfl
    have HSZ := Lib.hid hsz
    have hS' : sv b = sv b := rfl
    have hsrc := Src.ofString (P := Try.prog) (w.alloc (.cells #[.int .i64 (k : Nat)] 3)) (tx := 9) Try.underlying9 (sv b)
    rw [byteCells_sv] at hsrc
    have HSRC := Lib.hid hsrc
    have hemp : ((sv b).toList == []) = decide (b = []) := by rw [sv_toList]; cases b <;> simp
    have HEMP := Lib.hid hemp
    have HWF := Lib.hid hwf
    clear hck hl1 hl ho hv hfr0 hE hS hz h0 hall hwf hwa hsrc hemp HSZ
    generalize hfl : (s.F k).length = fl at *
    have HFL := Lib.hid hfl
    have HBL := Lib.hid hsz
    generalize sv b = S at *
    rw [← hsz] at hbl HE
    clear hfl
    have hwr : wrap64 (((fl : Nat) : Int) + ((S.size : Nat) : Int)) = ((fl : Nat) : Int) + ((S.size : Nat) : Int) := add_wrap fl S.size hlk hbl
    by_cases hfull : 16777216 < fl + S.size
    · have e1 : addE s (k : Nat) b = 8 := by rw [HE.out, if_pos hfull]
      have e2 : addS s (k : Nat) b = s := by rw [HSS.out, if_neg (fun hc => by rw [e1] at hc; exact absurd hc.1 (by decide))]
      have HE1 := Lib.hid e1
      have HE2 := Lib.hid e2
      clear e1 e2
      have dI : decide ((16777216 : Int) < ((fl : Nat) : Int) + ((S.size : Nat) : Int)) = true := decide_eq_true (by omega)
      clear hfull hsz
      go_enter Try.func40, Try.ntmps40
      go_wp2_with fail
      refine HCK.out.mono ?_
      rintro e w1 ⟨rfl, rfl⟩
      go_wp2_with fail
      go_ret
      exact ⟨by rw [HE1.out]; rfl, by rw [HE2.out]; exact ⟨HWF.out, K, HL1.out⟩, HF0.out⟩
    · have e1 : addE s (k : Nat) b = 0 := by rw [HE.out, if_neg hfull]
      have HE1 := Lib.hid e1
      have dI : decide ((16777216 : Int) < ((fl : Nat) : Int) + ((S.size : Nat) : Int)) = false := decide_eq_false (by omega)
      have hfl' : fl + S.size ≤ 16777216 := by omega
      clear hfull hsz
      by_cases hb0 : b = []
      · have e2 : addS s (k : Nat) b = s := by rw [HSS.out, if_neg (fun hc => hc.2 hb0)]
        have HE2 := Lib.hid e2
        have dE : (S.toList == []) = true := by rw [HEMP.out]; exact decide_eq_true hb0
        clear e1 e2 hb0
        go_enter Try.func40, Try.ntmps40
        go_wp2_with fail
        refine HCK.out.mono ?_
        rintro e w1 ⟨rfl, rfl⟩
        go_wp2_with fail
        go_ret
        exact ⟨by rw [HE1.out]; rfl, by rw [HE2.out]; exact ⟨HWF.out, K, HL1.out⟩, HF0.out⟩
      · have e2 : addS s (k : Nat) b = { s with F := upd s.F k (s.F k ++ b), L := s.L ++ [(k, b.length)] } := by rw [HSS.out, if_pos ⟨e1, hb0⟩]
        have HE2 := Lib.hid e2
        have dE : (S.toList == []) = false := by rw [HEMP.out]; exact decide_eq_false hb0
        have hpos : 0 < S.size := by
          rw [HBL.out]
          rcases b with _ | ⟨x, t⟩
          · exact absurd rfl hb0
          · simp
        have hown1 := HL1.out.cont.fil k h8
        rw [HV.out, HFL.out] at hown1
        have HO1 := Lib.hid hown1
        have HPOS := Lib.hid hpos
        obtain ⟨i0, hi, hz0, hz1, hz2⟩ := info_parts infoByte
        obtain ⟨i1, hi', hz0', hz1', hz2'⟩ := info_parts infoPend
        clear e1 e2 hpos hown1 hb0
        go_enter Try.func40, Try.ntmps40
        go_wp2_with fail
        refine HCK.out.mono ?_
        rintro e w1 ⟨rfl, rfl⟩
        go_upto_region 9 with (at_builtin; refine wpList_append_src rfl (.tmp 36) (.tmp 37) 69 9 rfl 5 i0 (.int .u8 0) 1 1 Try.underlying69 hi hz0 hz1 hz2 rfl (by decide) _ _ _ rfl HO1.out (.string S) S.size HPOS.out (bc b) rfl HSRC.out ?c1 ?c2 ?_)
        case c1 => unfold maxLen; omega
        case c2 => omega
        intro v' w' hown hgrow hwh
        have hown' : w'.ownsRow 0 5 1 v' (s.F k ++ b).length (bc (s.F k ++ b)) := by rw [List.length_append, HFL.out, ← HBL.out, bc_append]; exact hown
        obtain ⟨va, vc, hvv⟩ := owns_slice hown
        have hrk := HL1.out.sep.own (k * 2) (by omega)
        have hk2 : ∀ b, (K (k * 2)).ownBlock = some b → A b := fun b hb => (hrk b hb).1
        have hlay2 := HL1.out.setFil (w' := w') (v := v') (l := s.F k ++ b) h8 hgrow.size (fun b hb hn => hgrow.block b hb (fun e => hn (by rw [HV.out]; exact e.symm)))
          (HL1.out.sep.free hgrow.size (by omega) (fun b hb => by rw [HV.out]; rcases hwh b hb with h1 | h1; exact .inl ⟨by simp; omega, h1.2⟩; exact .inr h1)) hown'
        have hfr2 := (HF0.out.grown hgrow (fun k hk => hk2 k (by rw [HV.out]; exact hk))).setCell (p := ⟨r, k * 2, none⟩) HL.out.sep.rA.1 v'
        have hrow' : Row w' r K := HL1.out.row.block (hgrow.block r HL1.out.sep.rA.2 (fun e => (hrk r (by rw [HV.out]; exact e.symm)).2.1 rfl))
        have z1 := hrow'.cell (i := k * 2) (by omega)
        rw [HV.out] at z1
        have z2 := hrow'.frozen (k * 2)
        have HLAY2 := Lib.hid hlay2
        have HFR2 := Lib.hid hfr2
        clear hown hown' hgrow hwh hrk hk2 hlay2 hfr2 hrow'
        subst hvv
        go_upto_region 9 with fail
        refine hide_world (X := fun W => Lay A r { s with F := upd s.F k (s.F k ++ b) } (upd K (k * 2) (.slice va (fl + S.size) vc)) W ∧ Fr A w W) ⟨HLAY2.out, HFR2.out⟩ ?_
        intro W2 hX
        have hk16 : upd K (k * 2) (.slice va (fl + S.size) vc) 16 = K 16 := upd_other _ _ _ _ (by omega)
        have ho16 := hX.1.cont.lst
        obtain ⟨la, lc, hlv⟩ := owns_slice ho16
        rw [hlv] at ho16
        have c16 := hX.1.cell (i := 16) (by decide)
        rw [hlv] at c16
        change W2.cell? ⟨r, 16, none⟩ = some (.slice la s.L.length lc) at c16
        have HO16 : Hid (W2.ownsRow 0 98 2 (.slice la s.L.length lc) s.L.length (pc s.L)) := ho16
        have HX := Lib.hid hX
        have HLV := Lib.hid hlv
        clear hX hk16 ho16 hlv z1 z2 HLAY2 HFR2 HO1 HSRC
        go_wp2_with (at_builtin; refine wpList_append_src rfl (.tmp 45) (.tmp 50) 73 73 rfl 98 i1 (.agg #[.int .i64 0, .int .i64 0]) 2 16 Try.underlying73 hi' hz0' hz1' hz2' rfl (by decide) _ _ _ rfl (HO16.out.alloc _) _ 1 (by decide) [.int .i64 (k : Nat), .int .i64 (S.size : Nat)] rfl (Src.ofSlice _ Try.underlying73 ⟨W2.heap.size, 0, none⟩ 1 1 _ rfl ?d1 ?d2) ?d3 ?d4 ?_)
        case d2 => exact ⟨rfl, rfl⟩
        case d3 => unfold maxLen; omega
        case d4 => omega
        intro v2 w3 hown hgrow hwh
        have hl2 : (s.L ++ [(k, b.length)]).length = s.L.length + 1 := by simp
        have hown' : w3.ownsRow 0 98 2 v2 (s.L ++ [(k, b.length)]).length (pc (s.L ++ [(k, b.length)])) := by rw [hl2, pc_append, ← HBL.out]; exact hown
        obtain ⟨v2a, v2c, hvv⟩ := owns_slice hown
        have hlx := HX.out.1.alloc (.cells #[.int .i64 (k : Nat), .int .i64 (S.size : Nat)] 98)
        have hrk := hlx.sep.own 16 (by decide)
        have hk2 : ∀ b, (upd K (k * 2) (.slice va (fl + S.size) vc) 16).ownBlock = some b → A b := fun b hb => (hrk b hb).1
        have hlay3 := hlx.setList (w' := w3) (v := v2) (l := s.L ++ [(k, b.length)]) hgrow.size (fun b hb hn => hgrow.block b hb (fun e => hn (by rw [HLV.out]; exact e.symm)))
          (hlx.sep.free hgrow.size (by omega) (fun b hb => by rw [HLV.out]; rcases hwh b hb with h1 | h1; exact .inl ⟨by simp; omega, h1.2⟩; exact .inr h1)) hown'
        have hfr3 := ((HX.out.2.alloc (.cells #[.int .i64 (k : Nat), .int .i64 (S.size : Nat)] 98)).grown hgrow (fun k hk => hk2 k (by rw [HLV.out]; exact hk))).setCell (p := ⟨r, 16, none⟩) HL.out.sep.rA.1 v2
        have hrow' : Row w3 r (upd K (k * 2) (.slice va (fl + S.size) vc)) := hlx.row.block (hgrow.block r hlx.sep.rA.2 (fun e => (hrk r (by rw [HLV.out]; exact e.symm)).2.1 rfl))
        have z1 := hrow'.cell (i := 16) (by omega)
        rw [HLV.out] at z1
        have z2 := hrow'.frozen 16
        have HLAY3 := Lib.hid hlay3
        have HFR3 := Lib.hid hfr3
        clear hown hown' hgrow hwh hrk hk2 hlay3 hfr3 hrow' hlx hl2
        subst hvv
        go_wp2_with fail
        go_ret
        exact ⟨by rw [HE1.out]; rfl, by rw [HE2.out] at HWA ⊢; exact ⟨HWA.out, _, HLAY3.out⟩, HFR3.out⟩
  · have e1 : addE s f b = chk s (okF f) := by unfold addE; rw [if_neg hz]
    have e2 : addS s f b = s := by unfold addS; rw [if_neg (fun hc => hz (by rw [← e1]; exact hc.1))]
    rw [e1, e2]
    have hne : (chk s (okF f) != 0) = true := by simp [hz]
    have HCK := Lib.hid hck
    have HL1 := Lib.hid hl1
    have HWF := Lib.hid hwf
    have HF0 := Lib.hid hfr0
    clear hl1 hl hwf hz e1 e2 hck hall hfr0 hwa HWA
    generalize chk s (okF f) = E at *
    generalize sv b = S at *
    go_enter Try.func40, Try.ntmps40
    go_wp2_with fail
    refine HCK.out.mono ?_
    rintro e w1 ⟨rfl, rfl⟩
    go_wp2_with fail
    go_ret
    exact ⟨rfl, ⟨HWF.out, K, HL1.out⟩, HF0.out⟩
theorem append_dsk (h : Dsk A r s w) (f : Int) (b : Bs) (hbl : b.length ≤ 1099511627776) : Calls Try.prog 13 #[.pointer (some ⟨r, 0, none⟩), .int .i64 f, .string (sv b)] w fun e w' => e = .returned (.int .i64 (appE s f b)) ∧ Dsk A r (appS s f b) w' ∧ Fr A w w' := by
  obtain ⟨hwf, K, hl⟩ := h
  have hd := due_lay hl hwf.crash
  have hwd := wf_due hwf
  have hadd := fun w1 (h1 : Dsk A r (dueS s) w1) => add_dsk h1 f b hbl
  have hkeep : (addS (dueS s) f b).keep = s.keep := by
    have h1 : (dueS s).keep = s.keep := by unfold dueS; split <;> rfl
    unfold addS
    split
    · exact h1
    · exact h1
  have HK := Lib.hid hkeep
  have HD := Lib.hid hd
  have HWD := Lib.hid hwd
  have HADD := Lib.hid hadd
  clear hd hwd hadd hkeep hl hwf
  cases hb : dueB s with
  | false =>
    have e1 : appE s f b = addE (dueS s) f b := by unfold appE; rw [hb]; rfl
    have e2 : appS s f b = addS (dueS s) f b := by unfold appS; rw [hb]; rfl
    have HE1 := Lib.hid e1
    have HE2 := Lib.hid e2
    rw [hb] at HD
    clear e1 e2
    generalize sv b = S at *
    go_enter Try.func13, Try.ntmps13
    go_wp2_with fail
    refine HD.out.mono ?_
    rintro e w1 ⟨rfl, ⟨K1, hl1, hk1⟩, hf1⟩
    have ha := HADD.out w1 ⟨HWD.out, K1, hl1⟩
    have HA := Lib.hid ha
    have HF1 := Lib.hid hf1
    clear ha hl1 hk1 hf1
    go_wp2_with fail
    refine HA.out.mono ?_
    rintro e w2 ⟨rfl, hd2, hf2⟩
    have HD2 := Lib.hid hd2
    have HF2 := Lib.hid hf2
    clear hd2 hf2
    go_wp2_with fail
    go_ret
    exact ⟨by rw [HE1.out]; rfl, by rw [HE2.out]; exact HD2.out, HF1.out.trans HF2.out⟩
  | true =>
    have e1 : appE s f b = 9 := by unfold appE; rw [hb]; rfl
    have e2 : appS s f b = crashS s.keep (addS (dueS s) f b) := by unfold appS; rw [hb]; rfl
    have HE1 := Lib.hid e1
    have HE2 := Lib.hid e2
    rw [hb] at HD
    clear e1 e2
    generalize sv b = S at *
    go_enter Try.func13, Try.ntmps13
    go_wp2_with fail
    refine HD.out.mono ?_
    rintro e w1 ⟨rfl, ⟨K1, hl1, hk1⟩, hf1⟩
    have ha := HADD.out w1 ⟨HWD.out, K1, hl1⟩
    have HA := Lib.hid ha
    have HF1 := Lib.hid hf1
    clear ha hl1 hk1 hf1
    go_wp2_with fail
    refine HA.out.mono ?_
    rintro e w2 ⟨rfl, ⟨hwf2, K2, hl2⟩, hf2⟩
    have hcr := crash_kept hl2 hwf2
    have c20 := hl2.cell (i := 20) (by decide)
    obtain ⟨a20, x20, h20⟩ := owns_slice hl2.cont.kp
    rw [HK.out] at h20 hcr
    rw [h20] at c20 hcr
    have HCR := Lib.hid hcr
    have HF2 := Lib.hid hf2
    have HWF2 := Lib.hid hwf2
    clear hcr hl2 hf2 h20 hwf2
    go_wp2_with fail
    refine HCR.out.mono ?_
    rintro e w3 ⟨rfl, h3, hf3⟩
    have H3 := Lib.hid h3
    have HF3 := Lib.hid hf3
    clear h3 hf3
    go_wp2_with fail
    go_ret
    exact ⟨by rw [HE1.out]; rfl, by rw [HE2.out]; exact ⟨wf_crash HWF2.out _, H3.out⟩, (HF1.out.trans HF2.out).trans HF3.out⟩
end
end Go.Proofs.Ytdjchpejhfkknaa.Dk
