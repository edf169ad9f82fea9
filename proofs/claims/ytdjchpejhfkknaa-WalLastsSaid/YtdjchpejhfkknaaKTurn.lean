/- Turn: a durable file takes the place of another. Conditions: the disk lies in memory of its own. -/
import Derived.Test.YtdjchpejhfkknaaKCut
namespace Go.Proofs.Ytdjchpejhfkknaa.Dk
open Go.RowKit Km
set_option linter.unusedVariables false
set_option maxRecDepth 100000

section
variable {A : Nat → Prop} {r : Nat} {s : St} {K : Nat → Value} {w w' : World}
theorem two_ints (w : World) (f g : Int) : Ints (w.alloc (.cells #[.int .i64 f, .int .i64 g] 3)) (.slice (some ⟨w.heap.size, 0, none⟩) 2 2) [f, g] :=
  ⟨_, _, rfl, fun _ => ⟨_, _, rfl, by simp, fun j z hz => by
    rw [(Blk.new w 3 #[.int .i64 f, .int .i64 g]).cell]
    match j, hz with
    | 0, hz => simp at hz; subst hz; simp
    | 1, hz => simp at hz; subst hz; simp⟩⟩
theorem enter_two (h : Dsk A r s w) (f g : Int) : Calls Try.prog 79 #[.pointer (some ⟨r, 0, none⟩), .slice (some ⟨w.heap.size, 0, none⟩) 2 2] (w.alloc (.cells #[.int .i64 f, .int .i64 g] 3)) fun e w' => e = .returned (.int .i64 (chk (entS s) (okF f && okF g))) ∧ Dsk A r (entS s) w' ∧ Fr A w w' := by
  have hE := enter_dsk (h.hide (below_alloc w (.cells #[.int .i64 f, .int .i64 g] 3)) (Nat.le_refl _) (by simp)) (l := [f, g]) (by simp) (two_ints w f g) (fun b hb hn => by
    simp [vblock] at hb
    exact hn.2 hb.symm)
  have hall : [f, g].all okF = (okF f && okF g) := by simp
  rw [hall] at hE
  exact hE.mono fun e w' ⟨h1, h2, h3⟩ => ⟨h1, h2.mono fun b hb => hb.1, ((Fr.refl A w).alloc _).trans (h3.mono fun b hb => hb.1)⟩
/-- Only the disk's own block has been written. -/
theorem Lay.rows (h : Lay A r s K w) {s' : St} {K' : Nat → Value} (hc : Cont s' K' w) (hs : Sep A r K' w.heap.size) (hrow : Row w' r K') (hb : ∀ b, b ≠ r → w'.heap[b]? = w.heap[b]?) (hsz : w'.heap.size = w.heap.size) : Lay A r s' K' w' := by
  have ho : ∀ i, i < 21 → ∀ b, (K' i).ownBlock = some b → w'.heap[b]? = w.heap[b]? := fun i hi b e => hb b (hs.own i hi b e).2.1
  refine ⟨hrow, by rw [hsz]; exact hs, ⟨fun f hf => owns_block (hc.fil f hf) (ho _ (by omega)), hc.dur, owns_block hc.lst (ho _ (by omega)), hc.dn, hc.lo, hc.cr, owns_block hc.kp (ho _ (by omega))⟩⟩
theorem upd_comm {α : Type} (f : Nat → α) {i j : Nat} (h : i ≠ j) (x y : α) : upd (upd f i x) j y = upd (upd f j y) i x := by
  funext k
  unfold upd
  by_cases e1 : k = j
  · subst e1; rw [if_pos rfl, if_neg (fun e => h e.symm), if_pos rfl]
  · rw [if_neg e1, if_neg e1]
/-- File k becomes file l, and l becomes empty. -/
theorem Lay.move (h : Lay A r s K w) {k l : Nat} (hk : k < 8) (hl : l < 8) (hne : k ≠ l) :
    ∃ K', Lay A r (movS k l s) K' ((((w.setCell ⟨r, k * 2, none⟩ (K (l * 2))).setCell ⟨r, k * 2 + 1, none⟩ (.int .i64 ((s.U l : Nat) : Int))).setCell ⟨r, l * 2, none⟩ (.slice none 0 0)).setCell ⟨r, l * 2 + 1, none⟩ (.int .i64 0)) := by
  have hrow := (((h.row.set_ (i := k * 2) (by omega) (K (l * 2))).set_ (i := k * 2 + 1) (by omega) (.int .i64 ((s.U l : Nat) : Int))).set_ (i := l * 2) (by omega) (.slice none 0 0)).set_ (i := l * 2 + 1) (by omega) (.int .i64 0)
  have hsep : Sep A r (upd (upd (upd (upd K (k * 2) (K (l * 2))) (k * 2 + 1) (.int .i64 ((s.U l : Nat) : Int))) (l * 2) (.slice none 0 0)) (l * 2 + 1) (.int .i64 0)) w.heap.size := by
    rw [upd_comm _ (i := k * 2 + 1) (j := l * 2) (by omega), upd_comm _ (i := k * 2) (j := l * 2) (by omega)]
    have h1 := h.sep.put (Nat.le_refl _) (l * 2) (by omega) (.slice none 0 0) (Free.none rfl)
    have h2 := h1.put (Nat.le_refl _) (k * 2) (by omega) (K (l * 2)) (fun b hb => ⟨h.sep.own (l * 2) (by omega) b hb, fun j hj hjk e => by
      by_cases e2 : j = l * 2
      · subst e2; rw [upd_same] at e; cases e
      · rw [upd_other _ _ _ _ e2] at e
        exact h.sep.dif (l * 2) j (by omega) hj (fun x => e2 x.symm) b hb e⟩)
    have h3 := h2.put (Nat.le_refl _) (k * 2 + 1) (by omega) (.int .i64 ((s.U l : Nat) : Int)) (Free.none rfl)
    exact h3.put (Nat.le_refl _) (l * 2 + 1) (by omega) (.int .i64 0) (Free.none rfl)
  refine ⟨_, h.rows (s' := movS k l s) ?_ hsep hrow ?_ ?_⟩
  · refine ⟨fun f hf => ?_, fun f hf => ?_, ?_, ?_, ?_, ?_, ?_⟩
    · by_cases e1 : f = l
      · subst e1
        rw [upd_other _ _ _ _ (by omega), upd_same]
        have : (movS k f s).F f = [] := upd_same _ _ _
        rw [this]
        exact World.ownsRow_nil _ _ _ _
      · by_cases e2 : f = k
        · subst e2
          rw [upd_other _ _ _ _ (by omega), upd_other _ _ _ _ (by omega), upd_other _ _ _ _ (by omega), upd_same]
          have : (movS f l s).F f = s.F l := (upd_other _ _ _ _ hne).trans (upd_same _ _ _)
          rw [this]
          exact h.cont.fil l hl
        · rw [upd_other _ _ _ _ (by omega), upd_other _ _ _ _ (by omega), upd_other _ _ _ _ (by omega), upd_other _ _ _ _ (by omega)]
          have : (movS k l s).F f = s.F f := (upd_other _ _ _ _ e1).trans (upd_other _ _ _ _ e2)
          rw [this]
          exact h.cont.fil f hf
    · by_cases e1 : f = l
      · subst e1
        rw [upd_same]
        have : (movS k f s).U f = 0 := upd_same _ _ _
        rw [this]
        rfl
      · by_cases e2 : f = k
        · subst e2
          rw [upd_other _ _ _ _ (by omega), upd_other _ _ _ _ (by omega), upd_same]
          have : (movS f l s).U f = s.U l := (upd_other _ _ _ _ hne).trans (upd_same _ _ _)
          rw [this]
        · rw [upd_other _ _ _ _ (by omega), upd_other _ _ _ _ (by omega), upd_other _ _ _ _ (by omega), upd_other _ _ _ _ (by omega)]
          have : (movS k l s).U f = s.U f := (upd_other _ _ _ _ e1).trans (upd_other _ _ _ _ e2)
          rw [this]
          exact h.cont.dur f hf
    · rw [upd_other _ _ _ _ (by omega), upd_other _ _ _ _ (by omega), upd_other _ _ _ _ (by omega), upd_other _ _ _ _ (by omega)]; exact h.cont.lst
    · rw [upd_other _ _ _ _ (by omega), upd_other _ _ _ _ (by omega), upd_other _ _ _ _ (by omega), upd_other _ _ _ _ (by omega)]; exact h.cont.dn
    · rw [upd_other _ _ _ _ (by omega), upd_other _ _ _ _ (by omega), upd_other _ _ _ _ (by omega), upd_other _ _ _ _ (by omega)]; exact h.cont.lo
    · rw [upd_other _ _ _ _ (by omega), upd_other _ _ _ _ (by omega), upd_other _ _ _ _ (by omega), upd_other _ _ _ _ (by omega)]; exact h.cont.cr
    · rw [upd_other _ _ _ _ (by omega), upd_other _ _ _ _ (by omega), upd_other _ _ _ _ (by omega), upd_other _ _ _ _ (by omega)]; exact h.cont.kp
  · intro b hb
    rw [heap_setCell_other _ _ b _ hb, heap_setCell_other _ _ b _ hb, heap_setCell_other _ _ b _ hb, heap_setCell_other _ _ b _ hb]
  · rw [setCell_size, setCell_size, setCell_size, setCell_size]
set_option maxHeartbeats 8000000 in
theorem turn_dsk (h : Dsk A r s w) (f g : Int) : Calls Try.prog 85 #[.pointer (some ⟨r, 0, none⟩), .int .i64 f, .int .i64 g] w fun e w' => e = .returned (.int .i64 (turE s f g)) ∧ Dsk A r (turS s f g) w' ∧ Fr A w w' := by
  have hE := enter_two h f g
  have hwf := wf_ent h.1
  have HE := Lib.hid hE
  have HWF := Lib.hid hwf
  clear hE h
  by_cases hz : chk (entS s) (okF f && okF g) = 0
  · have hb := (chk_zero hz).2
    rw [Bool.and_eq_true] at hb
    obtain ⟨h0, h8, hfn⟩ := okF_lt hb.1
    obtain ⟨g0, g8, hgn⟩ := okF_lt hb.2
    rw [hz] at HE
    have e1 : turE s f g = if f = g then 1 else if (entS s).U g.toNat < ((entS s).F g.toNat).length then 10 else 0 := by unfold turE; rw [if_pos hz]
    have e2 : turS s f g = if turE s f g = 0 then fitS f.toNat (movS f.toNat g.toNat (entS s)) else entS s := rfl
    rw [e2, e1]
    clear e1 e2 hz hb
    generalize entS s = s1 at *
    generalize f.toNat = k at *
    generalize g.toNat = l at *
    subst hfn hgn
    have h8i : ((k : Nat) : Int) < 8 := by omega
    have g8i : ((l : Nat) : Int) < 8 := by omega
    by_cases hfg : ((k : Nat) : Int) = ((l : Nat) : Int)
    · rw [if_pos hfg, if_neg (by decide)]
      have d0 : (((k : Nat) : Int) == ((l : Nat) : Int)) = true := by simpa using hfg
      clear hfg hwf
      go_enter Try.func85, Try.ntmps85
      go_wp2_with fail
      refine HE.out.mono ?_
      rintro e w1 ⟨rfl, hd1, hf1⟩
      have HD1 := Lib.hid hd1
      have HF1 := Lib.hid hf1
      clear hd1 hf1
      go_wp2_with fail
      go_ret
      exact ⟨rfl, HD1.out, HF1.out⟩
    · rw [if_neg hfg]
      have d0 : (((k : Nat) : Int) == ((l : Nat) : Int)) = false := by simpa using hfg
      have hkl : k ≠ l := by omega
      clear hfg
      by_cases hst : s1.U l < (s1.F l).length
      · rw [if_pos hst, if_neg (by decide)]
        go_enter Try.func85, Try.ntmps85
        go_wp2_with fail
        refine HE.out.mono ?_
        rintro e w1 ⟨rfl, ⟨_, K1, hl1⟩, hf1⟩
        obtain ⟨va, vc, hv⟩ := owns_slice (hl1.cont.fil l g8)
        have cg := hl1.cell (i := l * 2) (by omega)
        rw [hv] at cg
        have cgd := hl1.cell (i := l * 2 + 1) (by omega)
        rw [hl1.cont.dur l g8] at cgd
        have HL1 := Lib.hid hl1
        have HF1 := Lib.hid hf1
        clear hl1 hf1 hv hwf
        generalize (s1.F l).length = fl at *
        generalize s1.U l = u at *
        go_upto_region 6 with fail
        go_region
        go_wp2_with fail
        go_ret
        exact ⟨rfl, ⟨HWF.out, _, HL1.out.below ⟨rfl, rfl, rfl, Nat.le_refl _, fun _ _ => rfl⟩⟩, HF1.out.drew⟩
      · rw [if_neg hst, if_pos rfl]
        have hwg := wg_mov hwf k l h8 g8 hkl (by omega)
        have HWG := Lib.hid hwg
        go_enter Try.func85, Try.ntmps85
        go_wp2_with fail
        refine HE.out.mono ?_
        rintro e w1 ⟨rfl, ⟨_, K1, hl1⟩, hf1⟩
        obtain ⟨va, vc, hv⟩ := owns_slice (hl1.cont.fil l g8)
        have cg := hl1.cell (i := l * 2) (by omega)
        rw [hv] at cg
        have cgd := hl1.cell (i := l * 2 + 1) (by omega)
        rw [hl1.cont.dur l g8] at cgd
        obtain ⟨K2, hmv⟩ := hl1.move h8 g8 hkl
        rw [hv] at hmv
        have HMV := Lib.hid hmv
        have x1 := hl1.row.frozen (k * 2)
        have x2 := hl1.row.frozen (k * 2 + 1)
        have x3 := hl1.row.frozen (l * 2)
        have x4 := hl1.row.frozen (l * 2 + 1)
        obtain ⟨vfa, vfc, hvf⟩ := owns_slice (hl1.cont.fil k h8)
        have ck := hl1.cell (i := k * 2) (by omega)
        rw [hvf] at ck
        have ckd := hl1.cell (i := k * 2 + 1) (by omega)
        rw [hl1.cont.dur k h8] at ckd
        have hrA := hl1.sep.rA.1
        have hfr : ∀ x y : Value, Fr A w ((((w1.setCell ⟨r, k * 2, none⟩ x).setCell ⟨r, k * 2 + 1, none⟩ y).setCell ⟨r, l * 2, none⟩ (.slice none 0 0)).setCell ⟨r, l * 2 + 1, none⟩ (.int .i64 0)) := fun x y =>
          (((hf1.setCell (p := ⟨r, k * 2, none⟩) hrA x).setCell (p := ⟨r, k * 2 + 1, none⟩) hrA y).setCell (p := ⟨r, l * 2, none⟩) hrA _).setCell (p := ⟨r, l * 2 + 1, none⟩) hrA _
        have HFR := Lib.hid hfr
        clear hl1 hf1 hv hwf hwg hmv hvf hfr
        generalize (s1.F l).length = fl at *
        generalize s1.U l = u at *
        generalize (s1.F k).length = fk at *
        generalize s1.U k = uk at *
        go_upto_region 6 with fail
        go_region
        go_upto_region 8 with fail
        go_region
        go_upto_region 9 with fail
        refine hide_world (X := fun W => Lay A r (movS k l s1) K2 W ∧ Fr A w W) ⟨HMV.out.below ⟨rfl, rfl, rfl, Nat.le_refl _, fun _ _ => rfl⟩, (HFR.out _ _).drew.drew⟩ ?_
        intro W2 hX
        have hfit := fit_lay hX.1 h8 HWG.out
        have HFIT := Lib.hid hfit
        have HX := Lib.hid hX.2
        clear hX hfit HMV HFR x1 x2 x3 x4 ck ckd cg cgd
        go_wp2_with fail
        refine HFIT.out.mono ?_
        rintro e w3 ⟨rfl, hl3, hf3⟩
        have H3 := Lib.hid hl3
        have HF3 := Lib.hid hf3
        clear hl3 hf3
        go_wp2_with fail
        go_ret
        exact ⟨rfl, ⟨wf_fit HWG.out, H3.out⟩, HX.out.trans HF3.out⟩
  · have e1 : turE s f g = chk (entS s) (okF f && okF g) := by unfold turE; rw [if_neg hz]
    have e2 : turS s f g = entS s := by unfold turS; rw [if_neg (by rw [e1]; exact hz)]
    rw [e1, e2]
    have hne : (chk (entS s) (okF f && okF g) != 0) = true := by simp [hz]
    clear hz e1 e2 hwf
    generalize chk (entS s) (okF f && okF g) = E at *
    go_enter Try.func85, Try.ntmps85
    go_wp2_with fail
    refine HE.out.mono ?_
    rintro e w1 ⟨rfl, hd1, hf1⟩
    have HD1 := Lib.hid hd1
    have HF1 := Lib.hid hf1
    clear hd1 hf1
    go_wp2_with fail
    go_ret
    exact ⟨rfl, HD1.out, HF1.out⟩
end
end Go.Proofs.Ytdjchpejhfkknaa.Dk
