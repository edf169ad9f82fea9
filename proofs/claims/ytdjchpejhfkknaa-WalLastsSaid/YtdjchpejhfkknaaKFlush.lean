/- Flush: a file becomes durable, unless the flush is lost. Conditions: the disk lies in memory of its own. -/
import Derived.Test.YtdjchpejhfkknaaKAdd
namespace Go.Proofs.Ytdjchpejhfkknaa.Dk
open Go.RowKit Km
set_option linter.unusedVariables false
set_option maxRecDepth 100000

section
variable {A : Nat → Prop} {r : Nat} {s : St} {K : Nat → Value} {w w' : World}
theorem enter_one (h : Dsk A r s w) (f : Int) : Calls Try.prog 79 #[.pointer (some ⟨r, 0, none⟩), .slice (some ⟨w.heap.size, 0, none⟩) 1 1] (w.alloc (.cells #[.int .i64 f] 3)) fun e w' => e = .returned (.int .i64 (chk (entS s) (okF f))) ∧ Dsk A r (entS s) w' ∧ Fr A w w' := by
  have hE := enter_dsk (h.hide (below_alloc w (.cells #[.int .i64 f] 3)) (Nat.le_refl _) (by simp)) (l := [f]) (by simp) (one_int w f) (fun b hb hn => by
    simp [vblock] at hb
    exact hn.2 hb.symm)
  have hall : [f].all okF = okF f := by simp
  rw [hall] at hE
  exact hE.mono fun e w' ⟨h1, h2, h3⟩ => ⟨h1, h2.mono fun b hb => hb.1, ((Fr.refl A w).alloc _).trans (h3.mono fun b hb => hb.1)⟩
theorem lose_wrap (m : Nat) (h : m + 1 ≤ 9223372036854775807) : wrap64 (((m + 1 : Nat) : Int) - 1) = ((m : Nat) : Int) := by unfold wrap64; omega
set_option maxHeartbeats 4000000 in
theorem flush_dsk (h : Dsk A r s w) (f : Int) : Calls Try.prog 58 #[.pointer (some ⟨r, 0, none⟩), .int .i64 f] w fun e w' => e = .returned (.int .i64 (fluE s f)) ∧ Dsk A r (fluS s f) w' ∧ Fr A w w' := by
  have hE := enter_one h f
  have hwf := wf_ent h.1
  have HE := Lib.hid hE
  have HWF := Lib.hid hwf
  clear hE h
  by_cases hz : chk (entS s) (okF f) = 0
  · obtain ⟨h0, h8, hfn⟩ := okF_lt (chk_zero hz).2
    rw [hz] at HE
    have e1 : fluE s f = if 0 < (entS s).lose then 13 else 0 := by unfold fluE; rw [if_pos hz]
    have e2 : fluS s f = if 0 < (entS s).lose then { entS s with lose := (entS s).lose - 1 } else fitS f.toNat (durS f.toNat (entS s)) := by unfold fluS; rw [if_pos hz]
    rw [e1, e2]
    clear e1 e2 hz
    generalize entS s = s1 at *
    generalize f.toNat = k at *
    subst hfn
    have h8i : ((k : Nat) : Int) < 8 := by omega
    by_cases hlo : 0 < s1.lose
    · rw [if_pos hlo, if_pos hlo]
      obtain ⟨m, hm⟩ : ∃ m, s1.lose = m + 1 := ⟨s1.lose - 1, by omega⟩
      rw [show s1.lose - 1 = m by omega]
      have hwfm : Wf { s1 with lose := m } := ⟨hwf.files, hwf.sums, hwf.len, by have := hwf.lose; show m ≤ _; omega, hwf.crash, hwf.keep, hwf.keepl⟩
      have HWM := Lib.hid hwfm
      have HM := Lib.hid hm
      have hml : m + 1 ≤ 9223372036854775807 := by have := hwf.lose; omega
      have HML := Lib.hid hml
      clear hwf hwfm hlo hm hml
      go_enter Try.func58, Try.ntmps58
      go_wp2_with fail
      refine HE.out.mono ?_
      rintro e w1 ⟨rfl, ⟨_, K1, hl1⟩, hf1⟩
      have c18 := hl1.cell (i := 18) (by decide)
      have f18 := hl1.row.frozen 18
      rw [hl1.cont.lo, HM.out] at c18
      have hp := hl1.setLose m
      have hfr := hf1.setCell (p := ⟨r, 18, none⟩) hl1.sep.rA.1 (.int .i64 ((m : Nat) : Int))
      have HP := Lib.hid hp
      have HFR := Lib.hid hfr
      have d0 : decide ((0 : Int) < (((m + 1 : Nat) : Int))) = true := decide_eq_true (by omega)
      have d1 : wrap64 (((m + 1 : Nat) : Int) - 1) = ((m : Nat) : Int) := lose_wrap m HML.out
      clear hl1 hf1 hp hfr
      generalize ((m + 1 : Nat) : Int) = M at *
      generalize ((m : Nat) : Int) = MM at *
      go_wp2_with fail
      go_ret
      exact ⟨rfl, ⟨HWM.out, _, HP.out⟩, HFR.out⟩
    · rw [if_neg hlo, if_neg hlo]
      have hl0 : s1.lose = 0 := by omega
      have HL0 := Lib.hid hl0
      have hwg := wg_dur hwf k
      have HWG := Lib.hid hwg
      clear hwg hwf hlo hl0
      go_enter Try.func58, Try.ntmps58
      go_wp2_with fail
      refine HE.out.mono ?_
      rintro e w1 ⟨rfl, ⟨_, K1, hl1⟩, hf1⟩
      have c18 := hl1.cell (i := 18) (by decide)
      rw [hl1.cont.lo, HL0.out] at c18
      obtain ⟨fa, fc, hv⟩ := owns_slice (hl1.cont.fil k h8)
      have cf := hl1.cell (i := k * 2) (by omega)
      rw [hv] at cf
      have cd := hl1.cell (i := k * 2 + 1) (by omega)
      rw [hl1.cont.dur k h8] at cd
      have fd := hl1.row.frozen (k * 2 + 1)
      have hlay : Lay A r (durS k s1) _ _ := hl1.setDur h8 (s1.F k).length
      have hfr := hf1.setCell (p := ⟨r, k * 2 + 1, none⟩) hl1.sep.rA.1 (.int .i64 (((s1.F k).length : Nat) : Int))
      have HLY := Lib.hid hlay
      have HFR := Lib.hid hfr
      clear hl1 hf1 hv hlay hfr
      generalize hn : (s1.F k).length = n at *
      have HN := Lib.hid hn
      clear hn
      go_wp2_with fail
      go_region
      go_upto_region 8 with fail
      refine hide_world (X := fun W => Lay A r (durS k s1) (upd K1 (k * 2 + 1) (.int .i64 ((n : Nat) : Int))) W ∧ Fr A w W) ⟨HLY.out.below ⟨rfl, rfl, rfl, Nat.le_refl _, fun _ _ => rfl⟩, HFR.out.drew⟩ ?_
      intro W2 hX
      have hfit := fit_lay hX.1 h8 HWG.out
      have HFIT := Lib.hid hfit
      have HX := Lib.hid hX.2
      clear hX hfit HLY HFR cf cd fd c18
      go_wp2_with fail
      refine HFIT.out.mono ?_
      rintro e w3 ⟨rfl, hl3, hf3⟩
      have H3 := Lib.hid hl3
      have HF3 := Lib.hid hf3
      clear hl3 hf3
      go_wp2_with fail
      go_ret
      exact ⟨rfl, ⟨wf_fit HWG.out, H3.out⟩, HX.out.trans HF3.out⟩
  · have e1 : fluE s f = chk (entS s) (okF f) := by unfold fluE; rw [if_neg hz]
    have e2 : fluS s f = entS s := by unfold fluS; rw [if_neg hz]
    rw [e1, e2]
    have hne : (chk (entS s) (okF f) != 0) = true := by simp [hz]
    clear hz e1 e2 hwf
    generalize chk (entS s) (okF f) = E at *
    go_enter Try.func58, Try.ntmps58
    go_wp2_with fail
    refine HE.out.mono ?_
    rintro e w1 ⟨rfl, hd1, hf1⟩
    have HD1 := Lib.hid hd1
    have HF1 := Lib.hid hf1
    clear hd1 hf1
    go_wp2_with fail
    go_ret
    exact ⟨rfl, HD1.out, HF1.out⟩
end
end Go.Proofs.Ytdjchpejhfkknaa.Dk
