/- Cut: a file keeps its first bytes. Conditions: the disk lies in memory of its own. -/
import Derived.Test.YtdjchpejhfkknaaKFlush
namespace Go.Proofs.Ytdjchpejhfkknaa.Dk
open Go.RowKit Km
set_option linter.unusedVariables false
set_option maxRecDepth 100000

section
variable {A : Nat → Prop} {r : Nat} {s : St} {K : Nat → Value} {w w' : World}
set_option maxHeartbeats 4000000 in
theorem cut_dsk (h : Dsk A r s w) (f n : Int) : Calls Try.prog 78 #[.pointer (some ⟨r, 0, none⟩), .int .i64 f, .int .i64 n] w fun e w' => e = .returned (.int .i64 (cutE s f n)) ∧ Dsk A r (cutS s f n) w' ∧ Fr A w w' := by
  have hE := enter_one h f
  have hwf := wf_ent h.1
  have HE := Lib.hid hE
  have HWF := Lib.hid hwf
  clear hE h
  by_cases hz : chk (entS s) (okF f) = 0
  · obtain ⟨h0, h8, hfn⟩ := okF_lt (chk_zero hz).2
    rw [hz] at HE
    have e1 : cutE s f n = if n < 0 ∨ ((entS s).F f.toNat).length < n then 1 else 0 := by unfold cutE; rw [if_pos hz]
    have e2 : cutS s f n = if cutE s f n = 0 then fitS f.toNat (shoS f.toNat n.toNat (entS s)) else entS s := rfl
    rw [e2, e1]
    clear e1 e2 hz
    generalize entS s = s1 at *
    generalize f.toNat = k at *
    subst hfn
    have h8i : ((k : Nat) : Int) < 8 := by omega
    by_cases hbad : n < 0 ∨ ((s1.F k).length : Int) < n
    · rw [if_pos hbad, if_neg (by decide)]
      go_enter Try.func78, Try.ntmps78
      go_wp2_with fail
      refine HE.out.mono ?_
      rintro e w1 ⟨rfl, ⟨_, K1, hl1⟩, hf1⟩
      obtain ⟨fa, fc, hv⟩ := owns_slice (hl1.cont.fil k h8)
      have cf := hl1.cell (i := k * 2) (by omega)
      rw [hv] at cf
      have HL1 := Lib.hid hl1
      have HF1 := Lib.hid hf1
      clear hl1 hf1 hv hwf
      generalize (s1.F k).length = fl at *
      by_cases hn : n < 0
      · have d0 : decide (n < 0) = true := decide_eq_true hn
        clear hbad hn
        go_wp2_with fail
        go_ret
        exact ⟨rfl, ⟨HWF.out, _, HL1.out⟩, HF1.out⟩
      · have d0 : decide (n < 0) = false := decide_eq_false hn
        have d1 : decide (((fl : Nat) : Int) < n) = true := decide_eq_true (by omega)
        clear hbad hn
        go_wp2_with fail
        go_ret
        exact ⟨rfl, ⟨HWF.out, _, HL1.out⟩, HF1.out⟩
    · rw [if_neg hbad, if_pos rfl]
      obtain ⟨m, hm⟩ : ∃ m : Nat, n = m := ⟨n.toNat, by omega⟩
      subst hm
      have hml : m ≤ (s1.F k).length := by omega
      rw [Int.toNat_natCast]
      have hwg := wg_sho hwf k m h8
      have HWG := Lib.hid hwg
      have d0 : decide (((m : Nat) : Int) < 0) = false := decide_eq_false (by omega)
      clear hbad hwg hwf
      go_enter Try.func78, Try.ntmps78
      go_wp2_with fail
      refine HE.out.mono ?_
      rintro e w1 ⟨rfl, ⟨_, K1, hl1⟩, hf1⟩
      have hof := hl1.cont.fil k h8
      obtain ⟨fa, fc, hv⟩ := owns_slice hof
      have cf := hl1.cell (i := k * 2) (by omega)
      rw [hv] at cf
      have ff := hl1.row.frozen (k * 2)
      have hcap : (s1.F k).length ≤ fc := by
        rw [hv] at hof
        rcases hof.2 with ⟨h1, _⟩ | ⟨_, _, _, h1, _, _, h4, _⟩
        · injection h1 with e1 e2 e3; omega
        · injection h1 with e1 e2 e3; omega
      have hnew := cut_owns hof hv m hml
      have hset := hl1.setFil (w' := w1) (v := .slice fa m fc) (l := (s1.F k).take m) h8 (Nat.le_refl _) (fun _ _ _ => rfl)
        (hl1.sep.free (Nat.le_refl _) (by omega) (fun b hb => .inr (by rw [hv]; cases fa <;> exact hb))) (by rw [List.length_take, Nat.min_eq_left hml]; exact hnew)
      have hfr := hf1.setCell (p := ⟨r, k * 2, none⟩) hl1.sep.rA.1 (.slice fa m fc)
      have hsl := fun W => slice_cut fa (s1.F k).length fc m (by omega) W
      have HSET := Lib.hid hset
      have HFR := Lib.hid hfr
      have d1 : decide ((((s1.F k).length : Nat) : Int) < ((m : Nat) : Int)) = false := decide_eq_false (by omega)
      have hmc : ((m : Nat) : Int) ≤ ((fc : Nat) : Int) := by omega
      clear hl1 hf1 hof hv hcap hnew hset hfr
      generalize (s1.F k).length = fl at *
      go_upto_region 8 with fail
      refine hide_world (X := fun W => Lay A r { s1 with F := upd s1.F k ((s1.F k).take m) } (upd K1 (k * 2) (.slice fa m fc)) W ∧ Fr A w W) ⟨HSET.out, HFR.out⟩ ?_
      intro W2 hX
      have cd := hX.1.cell (i := k * 2 + 1) (by omega)
      rw [hX.1.cont.dur k h8] at cd
      change W2.cell? ⟨r, k * 2 + 1, none⟩ = some (.int .i64 ((s1.U k : Nat) : Int)) at cd
      have fd := hX.1.row.frozen (k * 2 + 1)
      have hlay : Lay A r (shoS k m s1) _ _ := hX.1.setDur h8 (min (s1.U k) m)
      have hfit := fit_lay hlay h8 HWG.out
      have hfr2 := hX.2.setCell (p := ⟨r, k * 2 + 1, none⟩) hX.1.sep.rA.1 (.int .i64 ((min (s1.U k) m : Nat) : Int))
      have HFIT := Lib.hid hfit
      have HFR2 := Lib.hid hfr2
      clear hX hlay hfit hfr2 HSET HFR cf ff hsl
      generalize s1.U k = u at *
      by_cases hmu : m < u
      · rw [show min u m = m by omega] at HFIT HFR2
        go_wp2_with fail
        refine HFIT.out.mono ?_
        rintro e w3 ⟨rfl, hl3, hf3⟩
        have H3 := Lib.hid hl3
        have HF3 := Lib.hid hf3
        clear hl3 hf3
        go_wp2_with fail
        go_ret
        exact ⟨rfl, ⟨wf_fit HWG.out, H3.out⟩, HFR2.out.trans HF3.out⟩
      · rw [show min u m = u by omega] at HFIT HFR2
        have hum : u ≤ m := by omega
        clear hmu
        go_wp2_with fail
        refine HFIT.out.mono ?_
        rintro e w3 ⟨rfl, hl3, hf3⟩
        have H3 := Lib.hid hl3
        have HF3 := Lib.hid hf3
        clear hl3 hf3
        go_wp2_with fail
        go_ret
        exact ⟨rfl, ⟨wf_fit HWG.out, H3.out⟩, HFR2.out.trans HF3.out⟩
  · have e1 : cutE s f n = chk (entS s) (okF f) := by unfold cutE; rw [if_neg hz]
    have e2 : cutS s f n = entS s := by unfold cutS; rw [if_neg (by rw [e1]; exact hz)]
    rw [e1, e2]
    have hne : (chk (entS s) (okF f) != 0) = true := by simp [hz]
    clear hz e1 e2 hwf
    generalize chk (entS s) (okF f) = E at *
    go_enter Try.func78, Try.ntmps78
    go_wp2_with fail
    refine HE.out.mono ?_
    rintro e w1 ⟨rfl, hd1, hf1⟩
    have HD1 := Lib.hid hd1
    have HF1 := Lib.hid hf1
    clear hd1 hf1
    go_wp2_with fail
    go_ret
    exact ⟨rfl, HD1.out, HF1.out⟩
end
end Go.Proofs.Ytdjchpejhfkknaa.Dk
