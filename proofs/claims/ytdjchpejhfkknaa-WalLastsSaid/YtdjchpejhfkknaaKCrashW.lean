/- Crash: of each pending append as much survives as is kept; the disk goes down. Conditions: the disk lies in memory of its own; what is kept lies elsewhere. -/
import Derived.Test.YtdjchpejhfkknaaKCrash
namespace Go.Proofs.Ytdjchpejhfkknaa.Dk
open Go.RowKit Km
set_option linter.unusedVariables false
set_option maxRecDepth 100000

section
variable {A : Nat → Prop} {r : Nat} {s : St} {K : Nat → Value} {w w' : World}
theorem cstep_yes {ks : List Int} {c0 : Cs} {k p1 p2 at0 sg en kp : Nat} (h1 : c0.at_ p1 = at0) (h2 : surv ks k p2 = sg) (h3 : at0 + p2 = en) (h4 : at0 + sg = kp) (h5 : at0 < kp) :
    (⟨upd c0.F p1 (zero (c0.F p1) kp en), upd c0.U p1 kp, upd c0.at_ p1 en⟩ : Cs) = cstep ks k (p1, p2) c0 := by
  subst h1 h2 h3 h4
  simp only [cstep]
  rw [if_pos h5]
theorem cstep_no {ks : List Int} {c0 : Cs} {k p1 p2 at0 sg en kp : Nat} (h1 : c0.at_ p1 = at0) (h2 : surv ks k p2 = sg) (h3 : at0 + p2 = en) (h4 : at0 + sg = kp) (h5 : ¬ at0 < kp) :
    (⟨upd c0.F p1 (zero (c0.F p1) kp en), c0.U, upd c0.at_ p1 en⟩ : Cs) = cstep ks k (p1, p2) c0 := by
  subst h1 h2 h3 h4
  simp only [cstep]
  rw [if_neg h5]
/-- A shorter slice of the same row. -/
theorem cut_owns {w : World} {v : Value} {l : Bs} {a : Option Addr} {c : Nat} (h : w.ownsRow 0 5 1 v l.length (bc l)) (hv : v = .slice a l.length c) (n : Nat) (hn : n ≤ l.length) : w.ownsRow 0 5 1 (.slice a n c) n (bc (l.take n)) := by
  subst hv
  refine ⟨by rw [bc_length, List.length_take]; omega, ?_⟩
  rcases h.2 with ⟨h1, h2⟩ | ⟨g, cap, cur, h1, h2, h3, h4, h5, h6, h7⟩
  · injection h1 with e1 e2 e3
    exact .inl ⟨by rw [e1, e3, show n = 0 by omega], by omega⟩
  · injection h1 with e1 e2 e3
    subst e1 e3
    refine .inr ⟨g, c, cur, rfl, h2, h3, by omega, h5, h6, ?_⟩
    rw [← bc_take, ← h7, List.take_take]
    congr 1
    omega
theorem infoByte : (Try.prog.info? 5).map (fun i => (i.zero, i.size, i.bytes)) = some (some (.int .u8 0), 1, 1) := by kernel_rfl
theorem slice_cut (a : Option Addr) (n c u : Nat) (hu : u ≤ c) (w : World) : (Instr.slice 69 (.slice a n c) none (some (.int .i64 ((u : Nat) : Int))) none).run Try.prog w = .ok (.slice a u c) w := by
  obtain ⟨i0, hi, hz0, hz1, hz2⟩ := info_parts infoByte
  rw [run_slice_h w 69 a n c Try.underlying69 .i64 ((u : Nat) : Int) (by omega) (by omega)]
  have hs : (sizeOf (Try.prog.elem 69)).run Try.prog w = .ok 1 w := by
    have he : Try.prog.elem 69 = 5 := by kernel_rfl
    rw [he]
    simp [sizeOf, typeInfo, hi, hz1]
  rw [hs]
  simp only [Result.andThen, sliced, Int.toNat_natCast, Nat.sub_zero, Nat.zero_mul]
  cases a with
  | none => simp
  | some ad => simp [Addr.add]
theorem cut_fun (s : St) (ce : Cs) (k : Nat) : ({ (mid s ⟨fun f => if f < k then (ce.F f).take (ce.U f) else ce.F f, ce.U, ce.at_⟩) with F := upd (mid s ⟨fun f => if f < k then (ce.F f).take (ce.U f) else ce.F f, ce.U, ce.at_⟩).F k ((ce.F k).take (ce.U k)) } : St) = mid s ⟨fun f => if f < k + 1 then (ce.F f).take (ce.U f) else ce.F f, ce.U, ce.at_⟩ := by
  show (⟨upd (fun f => if f < k then (ce.F f).take (ce.U f) else ce.F f) k ((ce.F k).take (ce.U k)), ce.U, s.L, s.down, s.lose, s.crash, s.keep⟩ : St) = ⟨fun f => if f < k + 1 then (ce.F f).take (ce.U f) else ce.F f, ce.U, s.L, s.down, s.lose, s.crash, s.keep⟩
  congr 1
  funext f
  unfold upd
  by_cases e : f = k
  · subst e; rw [if_pos rfl, if_pos (by omega)]
  · rw [if_neg e]
    show (if f < k then _ else _) = _
    by_cases e2 : f < k
    · rw [if_pos e2, if_pos (by omega)]
    · rw [if_neg e2, if_neg (by omega)]
theorem Lay.congrF (h : Lay A r s K w) {F' : Nat → Bs} (hF : ∀ f, f < 8 → F' f = s.F f) : Lay A r { s with F := F' } K w :=
  ⟨h.row, h.sep, ⟨fun f hf => by show w.ownsRow 0 _ 1 _ (F' f).length (bc (F' f)); rw [hF f hf]; exact h.cont.fil f hf, h.cont.dur, h.cont.lst, h.cont.dn, h.cont.lo, h.cont.cr, h.cont.kp⟩⟩
set_option maxHeartbeats 8000000 in
theorem crash_lay (h : Lay A r s K w) (hwf : Wf s) {v : Value} {ks : List Int} (hv : Ints w v ks) (hj : ∀ z ∈ ks, J64 z)
    (hvb : ∀ b, vblock v = some b → b ≠ r ∧ b < w.heap.size ∧ ∀ i, i < 20 → (K i).ownBlock ≠ some b) :
    Calls Try.prog 28 #[.pointer (some ⟨r, 0, none⟩), v] w fun e w' => e = .returned (.tuple #[]) ∧ (∃ K', Lay A r (crashS ks s) K' w') ∧ Fr A w w' := by
  have c17 := h.cell (i := 17) (by decide)
  rw [h.cont.dn] at c17
  cases hd : s.down with
  | true =>
    have e2 : crashS ks s = s := by unfold crashS; rw [hd]; rfl
    rw [e2]
    rw [hd] at c17
    obtain ⟨a, c, rfl, _⟩ := hv
    have HL := Lib.hid h
    clear h e2 hd hvb hwf
    go_enter Try.func28, Try.ntmps28
    go_wp2_with fail
    refine bodyPost_ret (results_none rfl _ _ _) rfl ?_
    exact ⟨rfl, ⟨_, HL.out⟩, Fr.refl _ _⟩
  | false =>
    have e2 : crashS ks s = { F := fun f => ((cEnd ks s).F f).take ((cEnd ks s).U f), U := (cEnd ks s).U, L := [], down := true, lose := s.lose, crash := 0, keep := [] } := by unfold crashS; rw [hd]; rfl
    rw [hd] at c17
    have HE2 := Lib.hid e2
    have HL := Lib.hid h
    have HWF := Lib.hid hwf
    have HV := Lib.hid hv
    have HJ := Lib.hid hj
    have HVB := Lib.hid hvb
    have hls := hwf.list
    obtain ⟨a, c, hve, _⟩ := hv
    have HVE := Lib.hid hve
    obtain ⟨la, lc, hlv⟩ := owns_slice h.cont.lst
    have HLV := Lib.hid hlv
    clear h e2 hd hvb hwf hj hve hlv
    generalize hkl : ks.length = kl at *
    rw [HVE.out]
    go_enter Try.func28, Try.ntmps28
    go_wp2_with fail
    go_loopw [16] (fun i wr => ∃ k : Nat, k ≤ 8 ∧ i = .int .i64 k ∧ Hid (Blk wr w.heap.size 96 (atc fun j => if j < k then s.U j else 0) ∧ Below w.heap.size w wr ∧ wr.heap.size = w.heap.size + 1)) (fun i _ => 8 - (intOf i).toNat)
    case atStart => exact ⟨0, by omega, rfl, Lib.hid ⟨Blk.new w _ _, below_alloc w _, by simp⟩⟩
    case round =>
      obtain ⟨k, hk, rfl, HR⟩ := hrel
      by_cases hlt : k < 8
      · have cd := (HL.out.below HR.out.2.1).cell (i := k * 2 + 1) (by omega)
        rw [HL.out.cont.dur k hlt] at cd
        have ca := HR.out.1.cell k
        rw [atc_at _ k hlt] at ca
        have fa := HR.out.1.frozen k
        have hset := HR.out.1.set_ k (.int .i64 ((s.U k : Nat) : Int))
        have he : (atc fun j => if j < k then s.U j else 0).setIfInBounds k (.int .i64 ((s.U k : Nat) : Int)) = atc fun j => if j < k + 1 then s.U j else 0 := by
          rw [atc_set]
          refine atc_ext fun j _ => ?_
          by_cases e : j = k
          · subst e; rw [upd_same, if_pos (by omega)]
          · rw [upd_other _ _ _ _ e]
            by_cases e2 : j < k
            · rw [if_pos e2, if_pos (by omega)]
            · rw [if_neg e2, if_neg (by omega)]
        rw [he] at hset
        have HS := Lib.hid hset
        clear he hset
        rw [if_neg (Nat.lt_irrefl k)] at ca
        generalize s.U k = uk at *
        generalize hg : w.heap.size = ga at *
        go_wp2_with fail
        go_roundw
        case rel => exact ⟨k + 1, by omega, by go_num, Lib.hid ⟨HS.out, HR.out.2.1.setCell (p := ⟨ga, k, none⟩) (Nat.le_refl _) _, by rw [setCell_size]; exact HR.out.2.2⟩⟩
        case measure => simp [intOf]; omega
      · obtain rfl : k = 8 := by omega
        have hat : (atc fun j => if j < 8 then s.U j else 0) = atc s.U := atc_ext fun j hj => by rw [if_pos hj]
        have hb := HR.out.1
        rw [hat] at hb
        have HB := Lib.hid hb
        have hlay := HL.out.below HR.out.2.1
        have c16 := hlay.cell (i := 16) (by decide)
        rw [HLV.out] at c16
        have HLAY := Lib.hid hlay
        clear hat hb hlay
        generalize hg : w.heap.size = ga at *
        have hcr0 : Cr A r s K ks v w ga ⟨s.F, s.U, s.U⟩ K wr := by
          refine ⟨HLAY.out, HB.out, ?_, fun _ _ _ => rfl, ?_⟩
          · exact (Fr.refl A w).below (by rw [hg]; exact HR.out.2.1)
          · exact HV.out.below (by rw [hg]; exact HR.out.2.1)
        have hcf : Cf A r K v ga := by
          refine ⟨⟨HL.out.sep.new ga (by omega), by have := HL.out.sep.rA.2; omega⟩, fun i hi _ e => by have := (HL.out.sep.own i hi ga e).2.2; omega, fun b hb => ?_⟩
          obtain ⟨x1, x2, x3⟩ := HVB.out b hb
          exact ⟨x1, by omega, fun i hi _ => x3 i hi⟩
        have HCR0 := Lib.hid hcr0
        have HCF := Lib.hid hcf
        clear hcr0 hcf HR HB HLAY
        go_wp2_with fail
        go_loopw [34] (fun i wq => ∃ (k : Nat) (Kk : Nat → Value), k ≤ s.L.length ∧ i = .int .i64 k ∧ Hid (Cr A r s K ks v w ga (cup ks s.L ⟨s.F, s.U, s.U⟩ k) Kk wq)) (fun i _ => s.L.length - (intOf i).toNat)
        case atStart => exact ⟨0, K, Nat.zero_le _, rfl, HCR0⟩
        case round =>
          obtain ⟨k, Kk, hk, rfl, HC⟩ := hrel
          by_cases hlt : k < s.L.length
          · obtain ⟨p, hp⟩ : ∃ p, s.L[k]? = some p := ⟨s.L[k], List.getElem?_eq_getElem hlt⟩
            have hci := ci_up HWF.out ks k hk
            have hrm := ci_room HWF.out hci hp
            have hlen := hci.len p.1 hrm.1
            have hfl := HWF.out.len p.1 hrm.1
            have hsu := surv_le ks k p.2
            have hnx := cup_succ (keep := ks) (c := ⟨s.F, s.U, s.U⟩) hp
            have HNX := Lib.hid hnx
            clear hnx hci
            generalize hcc : cup ks s.L ⟨s.F, s.U, s.U⟩ k = c0 at *
            obtain ⟨p1, p2⟩ := p
            obtain ⟨h8, hp2, hroom⟩ := hrm
            simp only at h8 hp2 hroom hlen hfl hsu
            have ho16 := HC.out.lay.cont.lst
            have hk16 : Kk 16 = .slice la s.L.length lc := (HC.out.same 16 (by decide) (by decide)).trans HLV.out
            rw [hk16] at ho16
            obtain ⟨gl, hla, _, _, _, _, hcell⟩ := owns_row ho16 (by show 0 < s.L.length; omega)
            subst hla
            obtain ⟨q1, q2⟩ := pc_at s.L k (p1, p2) hp
            have c1 := hcell _ _ q1
            have c2 := hcell _ _ q2
            clear ho16 hk16 hcell q1 q2 hp
            simp only at c1 c2
            go_wp2_with fail
            refine hide_world (X := fun W => Cr A r s K ks v w ga c0 Kk W ∧ Blk W wr.heap.size 98 #[.int .i64 (p1 : Nat), .int .i64 (p2 : Nat)] ∧ Fr A w W) ⟨HC.out.below (below_alloc wr _), Blk.new wr _ _, HC.out.fr.alloc _⟩ ?_
            intro W1 hX
            have hgp : wr.heap.size ≠ r ∧ wr.heap.size ≠ ga ∧ ∀ i, i < 21 → (Kk i).ownBlock ≠ some wr.heap.size := by
              refine ⟨by have := HC.out.lay.sep.rA.2; omega, by have := HC.out.blk.lt; omega, fun i hi e => by have := (HC.out.lay.sep.own i hi _ e).2.2; omega⟩
            have HGP := Lib.hid hgp
            clear hgp c1 c2
            generalize hgpe : wr.heap.size = gp at *
            clear hgpe
            have g0 : W1.cell? ⟨gp, 0, none⟩ = some (.int .i64 (p1 : Nat)) := hX.2.1.cell 0
            have g1 : W1.cell? ⟨gp, 1, none⟩ = some (.int .i64 (p2 : Nat)) := hX.2.1.cell 1
            have ga0 : W1.cell? ⟨ga, p1, none⟩ = some (.int .i64 ((c0.at_ p1 : Nat) : Int)) := (hX.1.blk.cell p1).trans (atc_at _ _ h8)
            have hsv := fun W (hW : Ints W v ks) => (surv_any hW HJ.out k p2 (by omega) (by omega)).mono (R' := fun e w' => e = .returned (.int .i64 ((surv ks k p2 : Nat) : Int)) ∧ w' = W) (fun e w' he => ⟨he.1, he.2.symm⟩)
            have hint := hX.1.ints
            have HINT := Lib.hid hint
            clear hint
            rw [HVE.out] at hsv HINT
            have HSV := Lib.hid hsv
            have HX := Lib.hid hX
            clear hX hsv
            generalize hat : c0.at_ p1 = at0 at *
            generalize hsg : surv ks k p2 = sg at *
            have HAT := Lib.hid hat
            have HSG := Lib.hid hsg
            have h8i : ((p1 : Nat) : Int) < 8 := by omega
            have b1 : at0 + p2 ≤ 1000000000 := by omega
            have b2 : at0 + sg ≤ 1000000000 := by omega
            have w1e := wrap_sum' at0 p2 b1
            have w2e := wrap_sum' at0 sg b2
            have B1 := Lib.hid b1
            have B2 := Lib.hid b2
            clear b1 b2
            generalize hen : at0 + p2 = en at *
            generalize hkp : at0 + sg = kp at *
            have HEN := Lib.hid hen
            have HKP := Lib.hid hkp
            clear hen hkp
            go_region
            go_wp2_with fail
            go_region
            go_wp2_with fail
            go_quiet ((refine (HSV.out (W1.drewN _) (HINT.out.below (below_drewN W1 _))).mono ?_; rintro e w' ⟨he, hw⟩; exact ⟨he, _, hw⟩))
            go_upto_region 13 with fail
            refine hide_world (X := fun W => Cr A r s K ks v w ga c0 Kk W ∧ Blk W gp 98 #[.int .i64 (p1 : Nat), .int .i64 (p2 : Nat)]) ⟨HX.out.1.below ⟨rfl, rfl, rfl, Nat.le_refl _, fun _ _ => rfl⟩, HX.out.2.1⟩ ?_
            intro W2 hX2
            clear g0 g1 ga0 w1e w2e HSV HINT HX
            have hfl0 : 0 < (c0.F p1).length := by have := HEN.out; omega
            have hkf : Kk (p1 * 2) = K (p1 * 2) := hX2.1.same _ (by omega) (by omega)
            have hof := hX2.1.lay.cont.fil p1 h8
            rw [hkf] at hof
            obtain ⟨af, cap, hfv⟩ := owns_slice hof
            rw [hfv] at hof
            obtain ⟨gf, haf, _, _, hfc, _, _⟩ := owns_row hof hfl0
            subst haf
            have hfc' : (c0.F p1).length ≤ cap := hfc
            have cfile := hX2.1.lay.cell (i := p1 * 2) (by omega)
            rw [hkf, hfv] at cfile
            have hken : kp ≤ en ∧ en ≤ (c0.F p1).length ∧ en ≤ cap := by have := HEN.out; have := HKP.out; omega
            have hfv' : K (p1 * 2) = .slice (some ⟨gf, 0, none⟩) (c0.F p1).length cap := hfv
            have hgf : gp ≠ gf := fun e => HGP.out.2.2 (p1 * 2) (by omega) (by rw [hkf, hfv, e]; rfl)
            change W2.cell? ⟨r, p1 * 2, none⟩ = some (.slice (some ⟨gf, 0, none⟩) (c0.F p1).length cap) at cfile
            have hcl : ∃ W3, (if cap = kp then (Builtin.clear_ #[69] 0 #[.slice (some ⟨gf, 0, none⟩) (en - kp) 0]).run Try.prog W2 = .ok (.tuple #[]) W3 else (Builtin.clear_ #[69] 0 #[.slice (some ⟨gf, kp, none⟩) (en - kp) (cap - kp)]).run Try.prog W2 = .ok (.tuple #[]) W3) ∧
                Cr A r s K ks v w ga { c0 with F := upd c0.F p1 (zero (c0.F p1) kp en) } Kk W3 ∧ Blk W3 gp 98 #[.int .i64 (p1 : Nat), .int .i64 (p2 : Nat)] := by
              by_cases hcp : cap = kp
              · obtain ⟨W3, x1, x2, x3⟩ := hX2.1.clear HCF.out h8 hfv' kp 0 (en - kp) 0 (by omega) (by omega)
                rw [show kp + (en - kp) = en by omega] at x2
                exact ⟨W3, by rw [if_pos hcp]; exact x1, x2, (x3.block gp hX2.2.lt (fun e => hgf (by injection e))).trans hX2.2⟩
              · obtain ⟨W3, x1, x2, x3⟩ := hX2.1.clear HCF.out h8 hfv' kp kp (en - kp) (cap - kp) (by omega) (by omega)
                rw [show kp + (en - kp) = en by omega] at x2
                exact ⟨W3, by rw [if_neg hcp]; exact x1, x2, (x3.block gp hX2.2.lt (fun e => hgf (by injection e))).trans hX2.2⟩
            obtain ⟨W3, hrun, hcr3, hb3⟩ := hcl
            have HFV := Lib.hid hfv'
            have HCR3 := Lib.hid hcr3
            have HB3 := Lib.hid hb3
            have x0 : W3.cell? ⟨gp, 0, none⟩ = some (.int .i64 (p1 : Nat)) := hb3.cell 0
            have xa : W3.cell? ⟨ga, p1, none⟩ = some (.int .i64 ((at0 : Nat) : Int)) := by rw [hcr3.blk.cell p1, atc_at _ _ h8]; show some (Value.int .i64 ((c0.at_ p1 : Nat) : Int)) = _; rw [hat]
            have xd : ∃ q, W3.cell? ⟨r, p1 * 2 + 1, none⟩ = some (.int .i64 ((q : Nat) : Int)) := ⟨_, by rw [hcr3.lay.cell (i := p1 * 2 + 1) (by omega), hcr3.lay.cont.dur p1 h8]⟩
            obtain ⟨q, xd⟩ := xd
            have xf := hcr3.lay.row.frozen (p1 * 2 + 1)
            have xfa := hcr3.blk.frozen p1
            have hb3' := hb3
            clear hX2 hof hkf hfv hfv' hcr3 hb3 hfc hat
            generalize (c0.F p1).length = fn at *
            by_cases hak : at0 < kp
            · have dak : decide (at0 < kp) = true := decide_eq_true hak
              have hend : (⟨upd c0.F p1 (zero (c0.F p1) kp en), upd c0.U p1 kp, upd c0.at_ p1 en⟩ : Cs) = cup ks s.L ⟨s.F, s.U, s.U⟩ (k + 1) := by rw [HNX.out]; exact cstep_yes HAT.out HSG.out HEN.out HKP.out hak
              have hcr4 := HCR3.out.setDur HCF.out h8 kp
              have hcr5 := hcr4.setAt HCF.out p1 en
              have y0 := hb3'.far (p := ⟨r, p1 * 2 + 1, none⟩) HGP.out.1 (.int .i64 ((kp : Nat) : Int))
              have y1 : (W3.setCell ⟨r, p1 * 2 + 1, none⟩ (.int .i64 ((kp : Nat) : Int))).cell? ⟨gp, 0, none⟩ = some (.int .i64 (p1 : Nat)) := y0.cell 0
              have y2 : (W3.setCell ⟨r, p1 * 2 + 1, none⟩ (.int .i64 ((kp : Nat) : Int))).cell? ⟨ga, p1, none⟩ = some (.int .i64 ((at0 : Nat) : Int)) := by rw [hcr4.blk.cell p1, atc_at _ _ h8]; show some (Value.int .i64 ((c0.at_ p1 : Nat) : Int)) = _; rw [HAT.out]
              have y3 := hcr4.blk.frozen p1
              change Cr A r s K ks v w ga ⟨upd c0.F p1 (zero (c0.F p1) kp en), upd c0.U p1 kp, upd c0.at_ p1 en⟩ _ _ at hcr5
              rw [hend] at hcr5
              have HC5 := Lib.hid hcr5
              clear hcr4 hcr5 y0 hend hb3'
              have hak' : ((at0 : Nat) : Int) < ((kp : Nat) : Int) := by omega
              by_cases hcp : cap = kp
              · rw [if_pos hcp] at hrun
                subst hcp
                rw [show en - cap = 0 by omega] at hrun
                go_wp2_with fail
                go_roundw
                case rel => exact ⟨k + 1, _, by omega, by go_num, HC5⟩
                case measure => simp [intOf]; omega
              · rw [if_neg hcp] at hrun
                go_wp2_with fail
                go_roundw
                case rel => exact ⟨k + 1, _, by omega, by go_num, HC5⟩
                case measure => simp [intOf]; omega
            · have hend : (⟨upd c0.F p1 (zero (c0.F p1) kp en), c0.U, upd c0.at_ p1 en⟩ : Cs) = cup ks s.L ⟨s.F, s.U, s.U⟩ (k + 1) := by rw [HNX.out]; exact cstep_no HAT.out HSG.out HEN.out HKP.out hak
              have hcr5 := HCR3.out.setAt HCF.out p1 en
              change Cr A r s K ks v w ga ⟨upd c0.F p1 (zero (c0.F p1) kp en), c0.U, upd c0.at_ p1 en⟩ _ _ at hcr5
              rw [hend] at hcr5
              have HC5 := Lib.hid hcr5
              clear hcr5 hend hb3'
              have hak' : ¬ ((at0 : Nat) : Int) < ((kp : Nat) : Int) := by omega
              clear hak
              by_cases hcp : cap = kp
              · rw [if_pos hcp] at hrun
                subst hcp
                rw [show en - cap = 0 by omega] at hrun
                go_wp2_with fail
                go_roundw
                case rel => exact ⟨k + 1, _, by omega, by go_num, HC5⟩
                case measure => simp [intOf]; omega
              · rw [if_neg hcp] at hrun
                go_wp2_with fail
                go_roundw
                case rel => exact ⟨k + 1, _, by omega, by go_num, HC5⟩
                case measure => simp [intOf]; omega
          · obtain rfl : k = s.L.length := by omega
            have HCE : Hid (Cr A r s K ks v w ga (cEnd ks s) Kk wr) := HC
            have hce := ci_end HWF.out ks
            have HCI := Lib.hid hce
            clear HC hce
            generalize hce : cEnd ks s = ce at *
            go_wp2_with fail
            go_loopw [84] (fun i wq => ∃ (k : Nat) (Kq : Nat → Value), k ≤ 8 ∧ i = .int .i64 k ∧ Hid (Lay A r (mid s ⟨fun f => if f < k then (ce.F f).take (ce.U f) else ce.F f, ce.U, ce.at_⟩) Kq wq ∧ Fr A w wq)) (fun i _ => 8 - (intOf i).toNat)
            case atStart => exact ⟨0, Kk, by omega, rfl, Lib.hid ⟨HCE.out.lay, HCE.out.fr⟩⟩
            case round =>
              obtain ⟨k, Kq, hk8, rfl, HQ⟩ := hrel
              by_cases hlt8 : k < 8
              · have b1 := HQ.out.1.cell (i := k * 2) (by omega)
                have b2 := HQ.out.1.cell (i := k * 2 + 1) (by omega)
                rw [HQ.out.1.cont.dur k hlt8] at b2
                have hof := HQ.out.1.cont.fil k hlt8
                have hFk : (mid s ⟨fun f => if f < k then (ce.F f).take (ce.U f) else ce.F f, ce.U, ce.at_⟩).F k = ce.F k := by show (if k < k then _ else _) = _; rw [if_neg (by omega)]
                rw [hFk] at hof
                obtain ⟨af, cap, hfv⟩ := owns_slice hof
                rw [hfv] at b1
                have hUk : (mid s ⟨fun f => if f < k then (ce.F f).take (ce.U f) else ce.F f, ce.U, ce.at_⟩).U k = ce.U k := rfl
                rw [hUk] at b2
                have b3 := HQ.out.1.row.frozen (k * 2)
                have hle1 := HCI.out.dur k hlt8
                have hle2 := HCI.out.top k hlt8
                have hle3 := HCI.out.len k hlt8
                have hcap : (ce.F k).length ≤ cap := by
                  rw [hfv] at hof
                  rcases hof.2 with ⟨h1, _⟩ | ⟨_, _, _, h1, _, _, h4, _⟩
                  · injection h1 with e1 e2 e3; omega
                  · injection h1 with e1 e2 e3; omega
                have hnew := cut_owns hof hfv (ce.U k) (by omega)
                have hset := HQ.out.1.setFil (w' := wr) (v := .slice af (ce.U k) cap) (l := (ce.F k).take (ce.U k)) hlt8 (Nat.le_refl _) (fun _ _ _ => rfl)
                  (HQ.out.1.sep.free (Nat.le_refl _) (by omega) (fun b hb => .inr (by rw [hfv]; cases af <;> exact hb))) (by rw [List.length_take, Nat.min_eq_left (by omega)]; exact hnew)
                have hst : ({ (mid s ⟨fun f => if f < k then (ce.F f).take (ce.U f) else ce.F f, ce.U, ce.at_⟩) with F := upd (mid s ⟨fun f => if f < k then (ce.F f).take (ce.U f) else ce.F f, ce.U, ce.at_⟩).F k ((ce.F k).take (ce.U k)) } : St) = mid s ⟨fun f => if f < k + 1 then (ce.F f).take (ce.U f) else ce.F f, ce.U, ce.at_⟩ := cut_fun s ce k
                rw [hst] at hset
                have HSET := Lib.hid hset
                have hfr := HQ.out.2.setCell (p := ⟨r, k * 2, none⟩) HL.out.sep.rA.1 (.slice af (ce.U k) cap)
                have HFR := Lib.hid hfr
                have hk8i : ((k : Nat) : Int) < 8 := by omega
                have hucap : ((ce.U k : Nat) : Int) ≤ ((cap : Nat) : Int) := by omega
                clear hof hfv hFk hUk hle1 hle2 hle3 hnew hset hst hfr
                have hsl := fun W => slice_cut af (ce.F k).length cap (ce.U k) (by omega) W
                generalize ce.U k = uk at *
                generalize (ce.F k).length = fnk at *
                go_wp2_with fail
                go_region
                go_wp2_with fail
                go_roundw
                case rel => exact ⟨k + 1, _, by omega, by go_num, Lib.hid ⟨HSET.out.below ⟨rfl, rfl, rfl, Nat.le_refl _, fun _ _ => rfl⟩, HFR.out.drew⟩⟩
                case measure => simp [intOf]; omega
              · obtain rfl : k = 8 := by omega
                have hl1 := (HQ.out.1.congrF (F' := fun f => (ce.F f).take (ce.U f)) (fun f hf => by show _ = if f < 8 then _ else _; rw [if_pos hf]))
                have hl2 := hl1.setList (v := .slice none 0 0) (l := []) (Nat.le_refl _) (fun _ _ _ => rfl) (Free.none rfl) (World.ownsRow_nil _ _ _ _)
                have hl3 := hl2.setDown true
                have harm := arm_lay hl3 (n := 0) (by unfold J64; omega) (v := .slice none 0 0) (l := []) (Nat.zero_le _) ⟨none, 0, rfl, fun h => by simp at h⟩ (fun b hb => by cases hb)
                have hf3 := (HQ.out.2.setCell (p := ⟨r, 16, none⟩) HL.out.sep.rA.1 (.slice none 0 0)).setCell (p := ⟨r, 17, none⟩) HL.out.sep.rA.1 (.bool true)
                have d16 : ∃ a n c, wr.cell? ⟨r, 16, none⟩ = some (.slice a n c) := by
                  obtain ⟨a2, c2, h2⟩ := owns_slice HQ.out.1.cont.lst
                  exact ⟨a2, _, c2, by rw [HQ.out.1.cell (by decide), h2]⟩
                obtain ⟨a2, n2, c2, d16⟩ := d16
                have d17 := HQ.out.1.cell (i := 17) (by decide)
                rw [HQ.out.1.cont.dn] at d17
                have f16 := HQ.out.1.row.frozen 16
                have f17 := HQ.out.1.row.frozen 17
                have HARM := Lib.hid harm
                have HF3 := Lib.hid hf3
                clear hl1 hl2 hl3 harm hf3
                go_wp2_with fail
                refine HARM.out.mono ?_
                rintro e w9 ⟨rfl, ⟨K9, h9⟩, h10⟩
                have H9 := Lib.hid h9
                have H10 := Lib.hid h10
                clear h9 h10
                go_wp2_with fail
                go_end0
                exact ⟨rfl, ⟨K9, by rw [HE2.out]; exact H9.out⟩, HF3.out.trans H10.out⟩
end
end Go.Proofs.Ytdjchpejhfkknaa.Dk
