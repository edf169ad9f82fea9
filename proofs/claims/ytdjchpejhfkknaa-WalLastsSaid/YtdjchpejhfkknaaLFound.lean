/- found: a log that is opened after a crash has what it must have. Conditions: the disk is down, its log's rows begin all and begin with what was safe. -/
import Derived.Test.YtdjchpejhfkknaaLFew
import Derived.Test.YtdjchpejhfkknaaLFile
import Derived.Test.YtdjchpejhfkknaaLSkipM
import Derived.Test.YtdjchpejhfkknaaLLastM
import Derived.Test.YtdjchpejhfkknaaLBeg
namespace Go.Proofs.Ytdjchpejhfkknaa.Lw
open Go.RowKit Km Dk
open Lm hiding Bs
set_option linter.unusedVariables false
set_option maxRecDepth 100000

section
variable {A : Nat → Prop} {r : Nat} {s : St} {w : World}
theorem fin_open {all safe : List Bs} (h : Fin_ s all safe) : (opn (armS (loseS (startS s) 0) 0 []) ((2 : Nat) : Int)).1 = 0 ∧ val (readB (armS (loseS (startS s) 0) 0 []) ((2 : Nat) : Int)) = val (s.F 2) := by
  obtain ⟨h1, h2⟩ := fin_calm h
  obtain ⟨q1, _, _, _, _, q6⟩ := opn_cal h1 (f := 2) (by decide)
  exact ⟨q1, by rw [q6, h2]⟩
set_option maxHeartbeats 4000000 in
theorem found_plain {all safe : List Bs} {va vs vf : Value} (h : Dsk A r s w) (hf : Fin_ s all safe) (ha : Texts w va all) (hs : Texts w vs safe)
    (hva : ∀ b, vblock va = some b → ¬ A b) (hvs : ∀ b, vblock vs = some b → ¬ A b) (hla : all.length ≤ 1000) (hsm : ∀ t ∈ all, t.length ≤ 1000000000) :
    Calls Try.prog 29 #[.pointer (some ⟨r, 0, none⟩), .agg #[va, vs, vf, .bool false]] w fun e w' => e = .returned (.bool true) ∧ Fr A w w' := by
  obtain ⟨q1, q2⟩ := fin_open hf
  have HA := Lib.hid ha
  have HS := Lib.hid hs
  have HVA := Lib.hid hva
  have HVS := Lib.hid hvs
  have HP1 := Lib.hid hf.beg
  have HP2 := Lib.hid hf.has
  have hlr : (val (s.F 2)).length ≤ 1000 := Nat.le_trans hf.beg.length_le hla
  have hls : safe.length ≤ 1000 := Nat.le_trans hf.has.length_le hlr
  have hrs : ∀ t ∈ val (s.F 2), t.length ≤ 1000000000 := fun t ht => hsm t (hf.beg.subset ht)
  have HL := Lib.hid (show (val (s.F 2)).length ≤ 1000000 ∧ all.length ≤ 1000000 ∧ safe.length ≤ 1000000 from ⟨Nat.le_trans hlr (by decide), Nat.le_trans hla (by decide), Nat.le_trans hls (by decide)⟩)
  have HST := Lib.hid (fun (cs : Array Value) T => start_at (A := fun b => A b ∧ b ≠ w.heap.size) (h.hide (w' := w.alloc (.cells cs T)) (below_alloc w (.cells cs T)) (g := w.heap.size) (Nat.le_refl _) (by simp)) (s' := startS s) rfl)
  have HLO := Lib.hid (fun W (hW : Dsk (fun b => A b ∧ b ≠ w.heap.size) r (startS s) W) => lose_at hW 0 ⟨by decide, by decide⟩ (s' := loseS (startS s) 0) rfl)
  have HAR := Lib.hid (fun W (hW : Dsk (fun b => A b ∧ b ≠ w.heap.size) r (loseS (startS s) 0) W) => arm_nil hW (s' := armS (loseS (startS s) 0) 0 []) rfl)
  have HOP := Lib.hid (fun W (hW : Dsk (fun b => A b ∧ b ≠ w.heap.size) r (armS (loseS (startS s) 0) 0 []) W) => open_good hW 2 q1 (s' := (opn (armS (loseS (startS s) 0) 0 []) ((2 : Nat) : Int)).2) rfl q2)
  have HAL := Lib.hid (fun W p s' (hW : Lgd (fun b => A b ∧ b ≠ w.heap.size) r p 2 s' (val (s.F 2)) W) => lgd_all hW (Nat.le_trans hlr (by decide)) hrs)
  have HNA := Lib.hid h.2.choose_spec.sep.new
  have HF0 := Lib.hid (fun (cs : Array Value) T => (Fr.refl (fun b => A b ∧ b ≠ w.heap.size) w).alloc (.cells cs T))
  have HB0 := Lib.hid (fun (cs : Array Value) T => Blk.new w T cs)
  clear h hf ha hs hva hvs hla hsm q1 q2 hlr hls hrs
  generalize armS (loseS (startS s) 0) 0 [] = s3 at *
  generalize loseS (startS s) 0 = s2 at *
  generalize startS s = s1 at *
  generalize val (s.F 2) = rows at *
  go_enter Try.func29, Try.ntmps29
  go_wp2_with fail
  refine (HST.out _ _).mono ?_
  rintro e w1 ⟨rfl, hd, hf⟩
  have D1 := Lib.hid hd
  have F1 := Lib.hid hf
  clear hd hf
  go_wp2_with fail
  refine (HLO.out _ D1.out).mono ?_
  rintro e w2 ⟨rfl, hd, hf⟩
  have D2 := Lib.hid hd
  have F2 := Lib.hid (F1.out.trans hf)
  clear hd hf D1 F1
  go_wp2_with fail
  refine (HAR.out _ D2.out).mono ?_
  rintro e w3 ⟨rfl, hd, hf⟩
  have D3 := Lib.hid hd
  have F3 := Lib.hid (F2.out.trans hf)
  clear hd hf D2 F2
  go_wp2_with fail
  refine (HOP.out _ D3.out).mono ?_
  rintro e w4 ⟨p, rfl, hd, hf⟩
  have L4 := Lib.hid hd
  have F4 := Lib.hid (F3.out.trans hf)
  clear hd hf D3 F3
  go_wp2_with fail
  refine (HAL.out _ _ _ L4.out).mono ?_
  rintro e w5 ⟨vn, A', rfl, _, _, ht, _, hb⟩
  have T5 := Lib.hid ht
  have F5 := Lib.hid (F4.out.below hb)
  clear ht hb L4 F4
  have B5 := Lib.hid (F5.out.blk (HB0.out _ _) (fun e => e.2 rfl))
  have c0 := B5.out.cell 0
  have c1 := B5.out.cell 1
  have c3 := B5.out.cell 3
  have TA := Lib.hid (Texts.frs HA.out ((HF0.out _ _).trans F5.out) (fun b hb hA => HVA.out b hb hA.1))
  have TS := Lib.hid (Texts.frs HS.out ((HF0.out _ _).trans F5.out) (fun b hb hA => HVS.out b hb hA.1))
  have hbg := begins_any TA.out T5.out HL.out.2.1 HL.out.1
  have HBG := Lib.hid hbg
  clear hbg

  go_wp2_with fail
  refine HBG.out.mono ?_
  rintro e w6 ⟨rfl, hb⟩
  have e1 : decide (rows <+: all) = true := decide_eq_true HP1.out
  have F6 := Lib.hid (F5.out.below hb)
  have HB2 := Lib.hid (begins_any (Texts.below T5.out hb) (Texts.below TS.out hb) HL.out.1 HL.out.2.2)
  have B6 := Lib.hid (F6.out.blk (HB0.out _ _) (fun e => e.2 rfl))
  have c1 := B6.out.cell 1
  clear hb
  go_wp2_with fail
  refine HB2.out.mono ?_
  rintro e w7 ⟨rfl, hb⟩
  have e2 : decide (safe <+: rows) = true := decide_eq_true HP2.out
  have F7 := Lib.hid (F6.out.below hb)
  clear hb
  go_wp2_with fail
  go_ret
  exact ⟨rfl, ((HF0.out _ _).trans F7.out).mono fun b hb => hb.1⟩
set_option maxHeartbeats 4000000 in
theorem found_tried {all safe fresh : List Bs} {va vs vf : Value} (h : Dsk A r s w) (hf : Fin_ s all safe) (ha : Texts w va all) (hs : Texts w vs safe)
    (hfr : Texts w vf fresh) (hvf : ∀ b, vblock vf = some b → ¬ A b) (hlf : fresh.length ≤ 1000000) (hva : ∀ b, vblock va = some b → ¬ A b) (hvs : ∀ b, vblock vs = some b → ¬ A b) (hla : all.length ≤ 1000) (hsm : ∀ t ∈ all, t.length ≤ 1000000000) :
    Calls Try.prog 29 #[.pointer (some ⟨r, 0, none⟩), .agg #[va, vs, vf, .bool true]] w fun e w' => e = .returned (.bool true) ∧ Fr A w w' := by
  obtain ⟨q1, q2⟩ := fin_open hf
  have HA := Lib.hid ha
  have HFR := Lib.hid hfr
  have HVF := Lib.hid hvf
  have HLF := Lib.hid hlf
  clear hfr hvf hlf
  have HS := Lib.hid hs
  have HVA := Lib.hid hva
  have HVS := Lib.hid hvs
  have HP1 := Lib.hid hf.beg
  have HP2 := Lib.hid hf.has
  have hlr : (val (s.F 2)).length ≤ 1000 := Nat.le_trans hf.beg.length_le hla
  have hls : safe.length ≤ 1000 := Nat.le_trans hf.has.length_le hlr
  have hrs : ∀ t ∈ val (s.F 2), t.length ≤ 1000000000 := fun t ht => hsm t (hf.beg.subset ht)
  have HL := Lib.hid (show (val (s.F 2)).length ≤ 1000000 ∧ all.length ≤ 1000000 ∧ safe.length ≤ 1000000 from ⟨Nat.le_trans hlr (by decide), Nat.le_trans hla (by decide), Nat.le_trans hls (by decide)⟩)
  have HST := Lib.hid (fun (cs : Array Value) T => start_at (A := fun b => A b ∧ b ≠ w.heap.size) (h.hide (w' := w.alloc (.cells cs T)) (below_alloc w (.cells cs T)) (g := w.heap.size) (Nat.le_refl _) (by simp)) (s' := startS s) rfl)
  have HLO := Lib.hid (fun W (hW : Dsk (fun b => A b ∧ b ≠ w.heap.size) r (startS s) W) => lose_at hW 0 ⟨by decide, by decide⟩ (s' := loseS (startS s) 0) rfl)
  have HAR := Lib.hid (fun W (hW : Dsk (fun b => A b ∧ b ≠ w.heap.size) r (loseS (startS s) 0) W) => arm_nil hW (s' := armS (loseS (startS s) 0) 0 []) rfl)
  have HOP := Lib.hid (fun W (hW : Dsk (fun b => A b ∧ b ≠ w.heap.size) r (armS (loseS (startS s) 0) 0 []) W) => open_good hW 2 q1 (s' := (opn (armS (loseS (startS s) 0) 0 []) ((2 : Nat) : Int)).2) rfl q2)
  have HAL := Lib.hid (fun W p s' (hW : Lgd (fun b => A b ∧ b ≠ w.heap.size) r p 2 s' (val (s.F 2)) W) => lgd_all hW (Nat.le_trans hlr (by decide)) hrs)
  have HNA := Lib.hid h.2.choose_spec.sep.new
  have HF0 := Lib.hid (fun (cs : Array Value) T => (Fr.refl (fun b => A b ∧ b ≠ w.heap.size) w).alloc (.cells cs T))
  have HB0 := Lib.hid (fun (cs : Array Value) T => Blk.new w T cs)
  clear h hf ha hs hva hvs hla hsm q1 q2 hlr hls hrs
  generalize armS (loseS (startS s) 0) 0 [] = s3 at *
  generalize loseS (startS s) 0 = s2 at *
  generalize startS s = s1 at *
  generalize val (s.F 2) = rows at *
  go_enter Try.func29, Try.ntmps29
  go_wp2_with fail
  refine (HST.out _ _).mono ?_
  rintro e w1 ⟨rfl, hd, hf⟩
  have D1 := Lib.hid hd
  have F1 := Lib.hid hf
  clear hd hf
  go_wp2_with fail
  refine (HLO.out _ D1.out).mono ?_
  rintro e w2 ⟨rfl, hd, hf⟩
  have D2 := Lib.hid hd
  have F2 := Lib.hid (F1.out.trans hf)
  clear hd hf D1 F1
  go_wp2_with fail
  refine (HAR.out _ D2.out).mono ?_
  rintro e w3 ⟨rfl, hd, hf⟩
  have D3 := Lib.hid hd
  have F3 := Lib.hid (F2.out.trans hf)
  clear hd hf D2 F2
  go_wp2_with fail
  refine (HOP.out _ D3.out).mono ?_
  rintro e w4 ⟨p, rfl, hd, hf⟩
  have L4 := Lib.hid hd
  have F4 := Lib.hid (F3.out.trans hf)
  clear hd hf D3 F3
  go_wp2_with fail
  refine (HAL.out _ _ _ L4.out).mono ?_
  rintro e w5 ⟨vn, A', rfl, _, _, ht, _, hb⟩
  have T5 := Lib.hid ht
  have F5 := Lib.hid (F4.out.below hb)
  clear ht hb L4 F4
  have B5 := Lib.hid (F5.out.blk (HB0.out _ _) (fun e => e.2 rfl))
  have c2 := B5.out.cell 2
  have c3 := B5.out.cell 3
  have TA := Lib.hid (Texts.frs HA.out ((HF0.out _ _).trans F5.out) (fun b hb hA => HVA.out b hb hA.1))
  have TS := Lib.hid (Texts.frs HS.out ((HF0.out _ _).trans F5.out) (fun b hb hA => HVS.out b hb hA.1))
  have TF := Lib.hid (Texts.frs HFR.out ((HF0.out _ _).trans F5.out) (fun b hb hA => HVF.out b hb hA.1))
  have HSM := Lib.hid (same_any T5.out TF.out HL.out.1 HLF.out)
  go_wp2_with fail
  refine HSM.out.mono ?_
  rintro e w5' ⟨rfl, hb⟩
  have F5' := Lib.hid (F5.out.below hb)
  have T5' := Lib.hid (Texts.below T5.out hb)
  have TA' := Lib.hid (Texts.below TA.out hb)
  have TS' := Lib.hid (Texts.below TS.out hb)
  have B5' := Lib.hid (F5'.out.blk (HB0.out _ _) (fun e => e.2 rfl))
  clear hb c2 c3
  have c0 := B5'.out.cell 0
  have c1 := B5'.out.cell 1
  have HBG := Lib.hid (begins_any TA'.out T5'.out HL.out.2.1 HL.out.1)
  by_cases hsf : rows = fresh
  · have e0 : decide (rows = fresh) = true := decide_eq_true hsf
    clear hsf
    go_wp2_with fail
    go_ret
    exact ⟨rfl, ((HF0.out _ _).trans F5'.out).mono fun b hb => hb.1⟩
  have e0 : decide (rows = fresh) = false := decide_eq_false hsf
  clear hsf
  go_wp2_with fail
  refine HBG.out.mono ?_
  rintro e w6 ⟨rfl, hb⟩
  have e1 : decide (rows <+: all) = true := decide_eq_true HP1.out
  have F6 := Lib.hid (F5'.out.below hb)
  have HB2 := Lib.hid (begins_any (Texts.below T5'.out hb) (Texts.below TS'.out hb) HL.out.1 HL.out.2.2)
  have B6 := Lib.hid (F6.out.blk (HB0.out _ _) (fun e => e.2 rfl))
  have c1 := B6.out.cell 1
  clear hb
  go_wp2_with fail
  refine HB2.out.mono ?_
  rintro e w7 ⟨rfl, hb⟩
  have e2 : decide (safe <+: rows) = true := decide_eq_true HP2.out
  have F7 := Lib.hid (F6.out.below hb)
  clear hb
  go_wp2_with fail
  go_ret
  exact ⟨rfl, ((HF0.out _ _).trans F7.out).mono fun b hb => hb.1⟩
end
end Go.Proofs.Ytdjchpejhfkknaa.Lw
