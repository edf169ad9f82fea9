/- fit: the pending appends of a file are shortened to the bytes that it has behind its durable part. Conditions: the disk lies in memory of its own; all other files have room for their pending appends. -/
import Derived.Test.YtdjchpejhfkknaaKDelF
namespace Go.Proofs.Ytdjchpejhfkknaa.Dk
open Go.RowKit Km
set_option linter.unusedVariables false
set_option maxRecDepth 100000

section
variable {A : Nat → Prop} {r : Nat} {s : St} {K : Nat → Value} {w w' : World}
/-- Only one slice's own block has turned. -/
theorem slot_in (h : Lay A r s K w) {i : Nat} (hi : i < 21) (hg : ∀ b, b < w.heap.size → (K i).ownBlock ≠ some b → w'.heap[b]? = w.heap[b]?) :
    Row w' r K ∧ ∀ j, j < 21 → j ≠ i → ∀ {e : TypeId} {z n : Nat} {xs : List Value}, w.ownsRow 0 e z (K j) n xs → w'.ownsRow 0 e z (K j) n xs := by
  have hr : (K i).ownBlock ≠ some r := fun e => (h.sep.own i hi r e).2.1 rfl
  refine ⟨h.row.block (hg r h.sep.rA.2 hr), fun j hj hji e z n xs ho => owns_block ho fun b hb => ?_⟩
  exact hg b (h.sep.own j hj b hb).2.2 (h.sep.dif j i hj hi hji b hb)
theorem Lay.inList (h : Lay A r s K w) {l : Pd} (hs : w.heap.size ≤ w'.heap.size) (hg : ∀ b, b < w.heap.size → (K 16).ownBlock ≠ some b → w'.heap[b]? = w.heap[b]?)
    (hl : w'.ownsRow 0 98 2 (K 16) l.length (pc l)) : Lay A r { s with L := l } K w' := by
  obtain ⟨hrow, hc⟩ := slot_in h (i := 16) (by omega) hg
  exact ⟨hrow, h.sep.mono hs, ⟨fun f hf => hc _ (by omega) (by omega) (h.cont.fil f hf), h.cont.dur, hl, h.cont.dn, h.cont.lo, h.cont.cr, hc _ (by omega) (by omega) h.cont.kp⟩⟩
theorem Lay.inFil (h : Lay A r s K w) {f : Nat} (hf : f < 8) {l : Bs} (hs : w.heap.size ≤ w'.heap.size) (hg : ∀ b, b < w.heap.size → (K (f * 2)).ownBlock ≠ some b → w'.heap[b]? = w.heap[b]?)
    (hl : w'.ownsRow 0 5 1 (K (f * 2)) l.length (bc l)) : Lay A r { s with F := upd s.F f l } K w' := by
  obtain ⟨hrow, hc⟩ := slot_in h (i := f * 2) (by omega) hg
  refine ⟨hrow, h.sep.mono hs, ⟨fun g hg => ?_, h.cont.dur, hc _ (by omega) (by omega) h.cont.lst, h.cont.dn, h.cont.lo, h.cont.cr, hc _ (by omega) (by omega) h.cont.kp⟩⟩
  by_cases e : g = f
  · subst e
    show w'.ownsRow 0 _ 1 _ (upd s.F g l g).length (bc (upd s.F g l g))
    rw [upd_same]
    exact hl
  · show w'.ownsRow 0 _ 1 _ (upd s.F f l g).length (bc (upd s.F f l g))
    rw [upd_other _ _ _ _ e]
    exact hc _ (by omega) (by omega) (h.cont.fil g hg)
theorem pc_size (l : Pd) (k : Nat) (p : Nat × Nat) (x : Nat) (hp : l[k]? = some p) : (pc l).set (k * 2 + 1) (.int .i64 (x : Nat)) = pc (l.set k (p.1, x)) := by
  have hk := (List.getElem?_eq_some_iff.1 hp).1
  rw [← pc_set l k (p.1, x) hk]
  congr 1
  have h1 := (pc_at l k p hp).1
  obtain ⟨h2, h3⟩ := List.getElem?_eq_some_iff.1 h1
  rw [← h3, List.set_getElem_self]
/-- The size of one pending append is written. -/
theorem Lay.cut1 (h : Lay A r s K w) {g c : Nat} (hv : K 16 = .slice (some ⟨g, 0, none⟩) s.L.length c) {k : Nat} {p : Nat × Nat} (hp : s.L[k]? = some p) (x : Nat) :
    Lay A r { s with L := s.L.set k (p.1, x) } K (w.setCell ⟨g, k * 2 + 1, none⟩ (.int .i64 (x : Nat))) := by
  have hk := (List.getElem?_eq_some_iff.1 hp).1
  have ho := h.cont.lst
  rw [hv] at ho
  have h1 := owns_cell ho (k := k * 2 + 1) (by rw [pc_length]; omega) (.int .i64 (x : Nat))
  rw [pc_size s.L k p x hp] at h1
  refine h.inList (by rw [setCell_size]; exact Nat.le_refl _) (fun b hb hn => heap_setCell_other w _ b _ (fun e => hn (by rw [hv]; simp [Value.ownBlock]; exact e.symm))) ?_
  rw [hv, List.length_set]
  exact h1
theorem fit_step {f left : Nat} {L : Pd} {k : Nat} {p : Nat × Nat} (hp : L[k]? = some p) :
    (fitL f left (L.take k) ++ L.drop k)[k]? = some p ∧
    (p.1 = f → (fitL f left (L.take k) ++ L.drop k).set k (p.1, min p.2 (fitR f left (L.take k))) = fitL f left (L.take (k + 1)) ++ L.drop (k + 1) ∧ fitR f left (L.take (k + 1)) = fitR f left (L.take k) - min p.2 (fitR f left (L.take k))) ∧
    (p.1 ≠ f → fitL f left (L.take k) ++ L.drop k = fitL f left (L.take (k + 1)) ++ L.drop (k + 1) ∧ fitR f left (L.take (k + 1)) = fitR f left (L.take k)) := by
  have hk := (List.getElem?_eq_some_iff.1 hp).1
  have hl : (fitL f left (L.take k)).length = k := by rw [fitL_length, List.length_take]; omega
  have hd : L.drop k = p :: L.drop (k + 1) := by rw [List.drop_eq_getElem_cons hk, (List.getElem?_eq_some_iff.1 hp).2]
  refine ⟨by rw [List.getElem?_append_right (by omega), hl, Nat.sub_self, hd]; rfl, fun e => ⟨?_, ?_⟩, fun e => ⟨?_, ?_⟩⟩
  · rw [take_snoc hp, fitL_snoc, if_pos e, List.set_append_right _ _ (by omega), hl, Nat.sub_self, hd]
    simp
  · rw [take_snoc hp, fitR_snoc, if_pos e]
  · rw [take_snoc hp, fitL_snoc, if_neg e, hd]
    simp
  · rw [take_snoc hp, fitR_snoc, if_neg e]
set_option maxHeartbeats 4000000 in
theorem fit_lay (h : Lay A r s K w) {f : Nat} (hf : f < 8) (hg : Wg f s) : Calls Try.prog 80 #[.pointer (some ⟨r, 0, none⟩), .int .i64 (f : Nat)] w fun e w' => e = .returned (.tuple #[]) ∧ (∃ K', Lay A r (fitS f s) K' w') ∧ Fr A w w' := by
  have cf := h.cell (i := f * 2) (by omega)
  have cd := h.cell (i := f * 2 + 1) (by omega)
  have c16 := h.cell (i := 16) (by decide)
  obtain ⟨fa, fc, hfv⟩ := owns_slice (h.cont.fil f hf)
  obtain ⟨la, lc, hlv⟩ := owns_slice h.cont.lst
  rw [hfv] at cf
  rw [h.cont.dur f hf] at cd
  rw [hlv] at c16
  have hfl := hg.len f hf
  have hdu := hg.dur
  have hls := hg.list
  have hLE : ((((s.F f).length : Nat) : Int) - ((s.U f : Nat) : Int)) = (((s.F f).length - s.U f : Nat) : Int) := by omega
  have HLY := Lib.hid h
  have HLV := Lib.hid hlv
  have HSE := Lib.hid (show fitS f s = { s with L := fit f ((s.F f).length - s.U f) s.L } from rfl)
  have HLIST := Lib.hid (hg.files)
  clear h hfv hlv hg
  have hleft : (s.F f).length - s.U f ≤ 16777216 := by omega
  rw [HSE.out]
  generalize hl0 : (s.F f).length - s.U f = left0 at *
  generalize (s.F f).length = fn at *
  generalize s.U f = un at *
  have hw : wrap64 (((fn : Nat) : Int) - ((un : Nat) : Int)) = ((left0 : Nat) : Int) := by rw [hLE]; unfold wrap64; omega
  go_enter Try.func80, Try.ntmps80
  go_upto_region 0 with fail
  go_region

  go_wp2_with fail
  go_loopw [4, 28] (fun lf i wr => ∃ k : Nat, k ≤ s.L.length ∧ i = .int .i64 k ∧ lf = .int .i64 ((fitR f left0 (s.L.take k) : Nat) : Int) ∧ Hid (Lay A r { s with L := fitL f left0 (s.L.take k) ++ s.L.drop k } K wr ∧ Fr A w wr)) (fun lf i _ => s.L.length - (intOf i).toNat)
  case atStart =>
    exact ⟨0, Nat.zero_le _, rfl, rfl, Lib.hid ⟨HLY.out.below (below_drewN _ _), (Fr.refl A w).drewN _⟩⟩
  case round =>
    obtain ⟨k, hk, rfl, rfl, HR⟩ := hrel
    have b16 := HR.out.1.cell (i := 16) (by decide)
    rw [HLV.out] at b16
    have hRle := fitR_le f left0 (s.L.take k)
    by_cases hlt : k < s.L.length
    · obtain ⟨p, hp⟩ : ∃ p, s.L[k]? = some p := ⟨s.L[k], List.getElem?_eq_getElem hlt⟩
      obtain ⟨st1, st2, st3⟩ := fit_step (f := f) (left := left0) hp
      have hp1 := (HLIST.out p (List.mem_of_getElem? hp)).1
      have hlen : (fitL f left0 (s.L.take k) ++ s.L.drop k).length = s.L.length := by rw [List.length_append, fitL_length, List.length_take, List.length_drop]; omega
      have ho := HR.out.1.cont.lst
      rw [HLV.out] at ho
      have ho' : wr.ownsRow 0 98 2 (.slice la s.L.length lc) s.L.length (pc (fitL f left0 (s.L.take k) ++ s.L.drop k)) := by rw [← hlen] at ho ⊢; exact ho
      obtain ⟨g, hla, hgl, hfr, hnc, hcm, hcell⟩ := owns_row ho' (by omega)
      obtain ⟨q1, q2⟩ := pc_at _ k p st1
      have c1 := hcell _ _ q1
      have c2 := hcell _ _ q2
      have f1 := hfr (k * 2 + 1)
      have hcut := fun x => HR.out.1.cut1 (g := g) (c := lc) (by rw [HLV.out, hla, hlen]) st1 x
      have HCUT := Lib.hid hcut
      have ST2 := Lib.hid st2
      have ST3 := Lib.hid st3
      have HA := Lib.hid (show A g from (HR.out.1.sep.own 16 (by decide) g (by rw [HLV.out, hla]; rfl)).1)
      clear hcell hfr q1 q2 st1 st2 st3 ho ho' hcut hp hlen
      subst hla
      obtain ⟨p1, p2⟩ := p
      generalize hR : fitR f left0 (s.L.take k) = R at *
      by_cases hpf : p1 = f
      · have hpf' := hpf.symm
        subst hpf'
        have hx := ST2.out rfl
        have hcx := HCUT.out (min p2 R)
        have HX := Lib.hid hx
        have HCX := Lib.hid hcx
        have hRf : R ≤ 16777216 := by omega
        clear hx hcx hR
        by_cases hm : ¬ R < p2
        · have dm : decide (R < p2) = false := decide_eq_false hm
          have e1 : min p2 R = p2 := by omega
          rw [e1] at HX HCX
          have e2 : (((R : Nat) : Int) - ((p2 : Nat) : Int)) = ((R - p2 : Nat) : Int) := by omega
          have hm' : p2 ≤ R := by omega
          have dp : ((((f : Nat) : Int)) == ((f : Nat) : Int)) = true := by simp
          clear e1 hm
          go_wp2_with fail
          go_roundw
          case rel => exact ⟨k + 1, by omega, by go_num, by rw [HX.out.2], Lib.hid ⟨by rw [← HX.out.1]; exact HCX.out, HR.out.2.setCell (p := ⟨g, k * 2 + 1, none⟩) HA.out _⟩⟩
          case measure => simp [intOf]; omega
        · have dm : decide (R < p2) = true := decide_eq_true (by omega)
          have e1 : min p2 R = R := by omega
          rw [e1] at HX HCX
          have e2 : (((R : Nat) : Int) - ((R : Nat) : Int)) = ((0 : Nat) : Int) := by omega
          have dp : ((((f : Nat) : Int)) == ((f : Nat) : Int)) = true := by simp
          clear e1
          have hm' : R < p2 := by omega
          clear hm
          go_wp2_with fail
          go_roundw
          case rel => exact ⟨k + 1, by omega, by go_num, by rw [HX.out.2]; simp, Lib.hid ⟨by rw [← HX.out.1]; exact HCX.out, HR.out.2.setCell (p := ⟨g, k * 2 + 1, none⟩) HA.out _⟩⟩
          case measure => simp [intOf]; omega
      · have dpf : ((((p1 : Nat) : Int)) == ((f : Nat) : Int)) = false := by simp; omega
        have hx := ST3.out hpf
        have HX := Lib.hid hx
        clear hx hpf
        subst hR
        go_wp2_with fail
        go_roundw
        case rel => exact ⟨k + 1, by omega, by go_num, by rw [HX.out.2], Lib.hid ⟨by rw [← HX.out.1]; exact HR.out.1, HR.out.2⟩⟩
        case measure => simp [intOf]; omega
    · obtain rfl : k = s.L.length := by omega
      have hend : fitL f left0 (s.L.take s.L.length) ++ s.L.drop s.L.length = fitL f left0 s.L := by rw [List.take_length, List.drop_length, List.append_nil]
      have hlay := HR.out.1
      rw [hend] at hlay
      have hdel := delf_any hlay.cont.lst (by show (fitL f left0 s.L).length ≤ _; rw [fitL_length]; exact hls)
      have hll : (fitL f left0 s.L).length = s.L.length := fitL_length _ _ _
      obtain ⟨a16, n16, hb16⟩ := owns_slice hlay.cont.lst
      have g16 := HR.out.1.row.frozen 16
      rw [HLV.out] at hdel
      have HDEL := Lib.hid hdel
      have HLAY := Lib.hid hlay
      have HF := Lib.hid HR.out.2
      clear hend hlay hdel hll hb16 HR
      go_wp2_with fail
      refine HDEL.out.mono ?_
      rintro e w2 ⟨v', rfl, ho, hbl, hgr⟩
      obtain ⟨va, vc, rfl⟩ := owns_slice ho
      have hrl := HLAY.out
      have hbk : (K 16).ownBlock ≠ some r := fun e => (hrl.sep.own 16 (by decide) r e).2.1 rfl
      rw [HLV.out] at hbk
      have hrow := hrl.row.block (hgr.block r hrl.sep.rA.2 (fun e => hbk e.symm))
      have k16 := hrow.cell (i := 16) (by decide)
      have k16f := hrow.frozen 16
      have hset := hrl.setList (v := .slice va (fit f left0 s.L).length vc) (l := fit f left0 s.L) hgr.size (fun b hb hn => hgr.block b hb (fun e => hn (by rw [HLV.out]; exact e.symm)))
        (hrl.sep.free hgr.size (by decide) (fun b hb => .inr (by rw [HLV.out, ← hbl]; exact hb))) ho
      have hfin := (HF.out.grown hgr (fun k hk => (hrl.sep.own 16 (by decide) k (by rw [HLV.out]; exact hk)).1)).setCell (p := ⟨r, 16, none⟩) hrl.sep.rA.1 (.slice va (fit f left0 s.L).length vc)
      have HSET := Lib.hid hset
      have HFIN := Lib.hid hfin
      clear ho hbl hgr hrl hbk hrow hset hfin
      change Hid (Lay A r _ (upd K 16 (.slice va ((fitL f left0 s.L).filter fun p => p.2 != 0).length vc)) (w2.setCell ⟨r, 16, none⟩ (.slice va ((fitL f left0 s.L).filter fun p => p.2 != 0).length vc))) at HSET
      change Hid (Fr A w (w2.setCell ⟨r, 16, none⟩ (.slice va ((fitL f left0 s.L).filter fun p => p.2 != 0).length vc))) at HFIN
      go_wp2_with fail
      go_end0
      exact ⟨rfl, ⟨_, HSET.out⟩, HFIN.out⟩
end
end Go.Proofs.Ytdjchpejhfkknaa.Dk
