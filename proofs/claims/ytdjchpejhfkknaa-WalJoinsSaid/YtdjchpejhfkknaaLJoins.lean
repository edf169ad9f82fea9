/- The statement WalJoins: its walk. Conditions: the arguments read as data within the reach. -/
import Derived.Test.YtdjchpejhfkknaaLJoin
namespace Go.Proofs.Ytdjchpejhfkknaa.walJoins
open Go.RowKit Km Dk Lw
open Lm hiding Bs
set_option linter.unusedVariables false
set_option maxRecDepth 100000

theorem out_first {w : World} {v u : Value} {l m : List Bs} (h : Texts w v l) (hm : Texts w u m) (hb : 1500 < bytB l) : Calls Try.prog 6 #[v, u] w (IsTrue w) := by
  have SM := Lib.hid (fun W => small_any W)
  have HT := Lib.hid h
  have d : decide ((1500 : Int) < ((bytB l : Nat) : Int)) = true := decide_eq_true (by omega)
  have HBY := Lib.hid (fun W (hb : Below w.heap.size w W) => bytes_any (Texts.below HT.out hb))
  obtain ⟨a, c, rfl⟩ := texts_len h
  obtain ⟨a2, c2, rfl⟩ := texts_len hm
  clear h hb hm
  generalize bytB l = n at *
  go_enter Try.func6, Try.ntmps6
  go_wp2_with fail
  refine (SM.out _).mono ?_
  rintro e w1 ⟨rfl, hb1⟩
  have HB1 := Lib.hid hb1
  clear hb1
  go_wp2_with fail
  refine (HBY.out _ HB1.out).mono ?_
  rintro e w2 ⟨rfl, hb2⟩
  have HB2 := Lib.hid (HB1.out.trans (hb2.mono HB1.out.size))
  clear hb2
  go_wp2_with fail
  go_ret
  exact ⟨rfl, HB2.out⟩
theorem out_second {w : World} {v u : Value} {l m : List Bs} (h : Texts w v l) (hm : Texts w u m) (hb : bytB l ≤ 1500) (hb2 : 1500 < bytB m) : Calls Try.prog 6 #[v, u] w (IsTrue w) := by
  have SM := Lib.hid (fun W => small_any W)
  have HT := Lib.hid h
  have HM := Lib.hid hm
  have d : decide ((1500 : Int) < ((bytB l : Nat) : Int)) = false := decide_eq_false (by omega)
  have d2 : decide ((1500 : Int) < ((bytB m : Nat) : Int)) = true := decide_eq_true (by omega)
  have HBY := Lib.hid (fun W (hb : Below w.heap.size w W) => bytes_any (Texts.below HT.out hb))
  have HBZ := Lib.hid (fun W (hb : Below w.heap.size w W) => bytes_any (Texts.below HM.out hb))
  obtain ⟨a, c, rfl⟩ := texts_len h
  obtain ⟨a2, c2, rfl⟩ := texts_len hm
  clear h hb hm hb2
  generalize bytB l = n at *
  generalize bytB m = k at *
  go_enter Try.func6, Try.ntmps6
  go_wp2_with fail
  refine (SM.out _).mono ?_
  rintro e w1 ⟨rfl, hb1⟩
  have HB1 := Lib.hid hb1
  clear hb1
  go_wp2_with fail
  refine (HBY.out _ HB1.out).mono ?_
  rintro e w2 ⟨rfl, hb2⟩
  have HB2 := Lib.hid (HB1.out.trans (hb2.mono HB1.out.size))
  clear hb2
  go_wp2_with fail
  refine (HBZ.out _ HB2.out).mono ?_
  rintro e w3 ⟨rfl, hb2⟩
  have HB3 := Lib.hid (HB2.out.trans (hb2.mono HB2.out.size))
  clear hb2
  go_wp2_with fail
  go_ret
  exact ⟨rfl, HB3.out⟩
set_option maxHeartbeats 8000000 in
theorem main {w : World} {v u : Value} {l m : List Bs} (h : Texts w v l) (hm : Texts w u m) (hb : bytB l ≤ 1500) (hb2 : bytB m ≤ 1500) : Calls Try.prog 6 #[v, u] w (IsTrue w) := by
  have SM := Lib.hid (fun W => small_any W)
  have HT := Lib.hid h
  have HM := Lib.hid hm
  have d : decide ((1500 : Int) < ((bytB l : Nat) : Int)) = false := decide_eq_false (by omega)
  have d2 : decide ((1500 : Int) < ((bytB m : Nat) : Int)) = false := decide_eq_false (by omega)
  have HBY := Lib.hid (fun W (hb : Below w.heap.size w W) => bytes_any (Texts.below HT.out hb))
  have HBZ := Lib.hid (fun W (hb : Below w.heap.size w W) => bytes_any (Texts.below HM.out hb))
  obtain ⟨f1, f2, f3⟩ := few_of hb
  obtain ⟨g1, g2, g3⟩ := few_of hb2
  have hsl := few_small hb
  have hsm := few_small hb2
  have hlm : recs (l ++ m) = recs l ++ recs m := recs_append l m
  have hlz : (recs (l ++ m)).length ≤ 1000000 := by rw [hlm, List.length_append]; omega
  have HF1 := Lib.hid (fun W (hB : Below w.heap.size w W) => file_any (Texts.below HT.out hB) hsl (by omega) (by omega))
  have HF2 := Lib.hid (fun W (hB : Below w.heap.size w W) => file_any (Texts.below HM.out hB) hsm (by omega) (by omega))
  have HF3 := Lib.hid (fun W (x : Value) (hx : Texts W x (l ++ m)) => file_any hx (small_append hsl hsm) (by rw [List.length_append]; omega) hlz)
  have HLN := Lib.hid (And.intro f1 g1)
  have HTX := Lib.hid (fun (W : World) (x : Value) (hx : W.ownsRow 0 9 1 x (l.length + m.length) (sc (l ++ m))) => texts_own (l := l ++ m) (by rw [List.length_append]; exact hx) (by rw [List.length_append]; omega) (fun t ht => (List.mem_append.1 ht).elim (fun ht => Nat.le_trans (f2 t ht) (by decide)) (fun ht => Nat.le_trans (g2 t ht) (by decide))))
  -- the disk's states
  obtain ⟨p1, p2, p3⟩ := push_new (recs l) (by omega)
  obtain ⟨q1, q2, q3, q4, _, q6⟩ := opn_cal p2 (f := 0) (by decide)
  rw [p3, val_whole l hsl] at q3
  rw [p3] at q6
  obtain ⟨s1, hs1⟩ : ∃ s1, appS Km.new ((0 : Nat) : Int) (recs l) = s1 := ⟨_, rfl⟩
  rw [hs1] at q1 q2 q3 q4 q6
  obtain ⟨s2, hs2⟩ : ∃ s2, (opn s1 ((0 : Nat) : Int)).2 = s2 := ⟨_, rfl⟩
  rw [hs2] at q2 q3 q4
  obtain ⟨r1, r2, r3, r4, r5, _⟩ := wrew_cal q2 (f := 0) (by decide) (rows := l) hsm (by omega)
  obtain ⟨s3, hs3⟩ : ∃ s3, wrewS s2 0 m = s3 := ⟨_, rfl⟩
  rw [hs3] at r3 r4 r5
  obtain ⟨t1, t2, t3, _, _, t6⟩ := wapp_cal r3 (f := 0) (by decide) (b := [101, 110, 100]) (by decide) (by rw [r4.1]; show _ + 10 ≤ _; omega)
  have tr := wapp_rows (rows := m) t1
  obtain ⟨s4, hs4⟩ : ∃ s4, wappS s3 0 [101, 110, 100] = s4 := ⟨_, rfl⟩
  rw [hs4] at t2 t3 t6
  have hnow : s4.F 0 = recs (m ++ [[101, 110, 100]]) := by rw [t3, r4.1, recs_append, recs_one]
  have hone : s4.F 1 = [] := (t6 1 (by decide)).1.trans r5.1
  obtain ⟨k1, k2⟩ := read_up t2.idl.up (show 0 < 8 by decide)
  rw [hnow] at k2
  have hsz1 : sizeN s4 ((1 : Nat) : Int) = 0 := by rw [size_nat s4 (by decide), hone]; rfl
  have hse : Small (m ++ [[101, 110, 100]]) := small_append hsm (fun b hb => by rw [List.mem_singleton] at hb; subst hb; decide)
  obtain ⟨Y, hY⟩ : ∃ Y, recs (m ++ [[101, 110, 100]]) = Y := ⟨_, rfl⟩
  have hYm : Y = recs m ++ recB [101, 110, 100] := by rw [← hY, recs_append, recs_one]
  have hYl : Y.length = (recs m).length + 10 := by rw [hYm, List.length_append]; rfl
  have R5 := Lib.hid (fun W => rows_any Y (by omega) W)
  have hvY : val Y = m ++ [[101, 110, 100]] := by rw [← hY]; exact val_whole _ hse
  have hvlY : vlen Y = Y.length := by rw [← hY]; exact vlen_recs _ hse
  rw [hvY, hvlY] at R5
  rw [hY] at k2
  have htk : Y.take (recs m).length = recs m := by rw [hYm]; exact List.take_left
  have hsl2 := fun W => slice_head Y (recs m).length (by omega) W
  rw [htk] at hsl2
  have HAP := Lib.hid (fun W r (hW : Dsk (fun b => w.heap.size ≤ b) r Km.new W) => append_at hW ((0 : Nat) : Int) (recs l) 0 p1 (s' := s1) hs1 (by omega))
  have HOP := Lib.hid (fun W r (hW : Dsk (fun b => w.heap.size ≤ b) r s1 W) => open_good hW 0 q1 (s' := s2) hs2 (rows := l) (by rw [q6]; exact val_whole l hsl))
  have HRW := Lib.hid (fun W r p (hW : Lgd (fun b => w.heap.size ≤ b) r p 0 s2 l W) (hB : Below w.heap.size w W ∨ Fr (fun b => w.heap.size ≤ b) w W) => lgd_rewrite hW (by decide) (Texts.frs HM.out (hB.elim (fun hB => (Fr.refl _ w).below hB) id) (fun b hb => by have := Texts.lt HM.out hb; omega)) (fun b hb => by have := Texts.lt HM.out hb; omega) (by omega) (by omega) r1 (s' := s3) hs3 (rows' := m) r2)
  have HAE := Lib.hid (fun W r p (hW : Lgd (fun b => w.heap.size ≤ b) r p 0 s3 m W) => lgd_append hW [101, 110, 100] (by decide) (by omega) t1 (s' := s4) hs4 (rows' := m ++ [[101, 110, 100]]) tr)
  have HRD := Lib.hid (fun W r p (hW : Lgd (fun b => w.heap.size ≤ b) r p 0 s4 (m ++ [[101, 110, 100]]) W) => read_at (lgd_dsk hW) ((0 : Nat) : Int) 0 Y k1 k2)
  have HSZ := Lib.hid (fun W r (hW : Dsk (fun b => w.heap.size ≤ b) r s4 W) => size_at hW ((1 : Nat) : Int) 0 hsz1)
  have HTE := Lib.hid (fun (W : World) (x : Value) (hx : W.ownsRow 0 9 1 x (m.length + 1) (sc (m ++ [[101, 110, 100]]))) => texts_own (l := m ++ [[101, 110, 100]]) (by rw [List.length_append]; exact hx) (by rw [List.length_append]; show _ + 1 ≤ _; omega) (fun t ht => by have := hse t ht; omega))
  have HLM := Lib.hid (show (m ++ [[101, 110, 100]]).length ≤ 1000000 by rw [List.length_append]; show _ + 1 ≤ _; omega)
  have eab : sv (recs l) ++ sv (recs m) = sv (recs (l ++ m)) := by rw [hlm]; exact sv_append _ _
  have zA : (sv (recs l)).size = (recs l).length := rfl
  have zB : (sv (recs m)).size = (recs m).length := rfl
  have zY : (sv Y).size = Y.length := rfl
  have dge : decide ((recs m).length ≤ Y.length) = true := decide_eq_true (by omega)
  have hfl : (recs l).length ≤ 1710 := by omega
  have hgl : (recs m).length ≤ 1710 := by omega
  obtain ⟨a, c, rfl⟩ := texts_len h
  obtain ⟨a2, c2, rfl⟩ := texts_len hm
  clear h hm hb hb2 f1 f2 f3 g1 g2 g3 hsl hsm hlm hlz p1 p2 p3 q1 q2 q3 q4 q6 hs1 hs2 hs3 hs4 r1 r2 r3 r4 r5 t1 t2 t3 t6 tr hnow hone k1 k2 hsz1 hse hY hYm hvY hvlY htk
  generalize sv (recs (l ++ m)) = SAB at *
  generalize sv (recs l) = SA at *
  generalize sv (recs m) = SB at *
  generalize sv Y = SY at *
  generalize (recs l).length = NA at *
  generalize (recs m).length = NB at *
  generalize Y.length = NY at *
  generalize bytB l = n at *
  generalize bytB m = k at *
  go_enter Try.func6, Try.ntmps6
  go_wp2_with fail
  refine (SM.out _).mono ?_
  rintro e w1 ⟨rfl, hb1⟩
  have HB1 := Lib.hid hb1
  clear hb1
  go_wp2_with fail
  refine (HBY.out _ HB1.out).mono ?_
  rintro e w2 ⟨rfl, hb2⟩
  have HB2 := Lib.hid (HB1.out.trans (hb2.mono HB1.out.size))
  clear hb2 HB1
  go_wp2_with fail
  refine (HBZ.out _ HB2.out).mono ?_
  rintro e w3 ⟨rfl, hb2⟩
  have HB3 := Lib.hid (HB2.out.trans (hb2.mono HB2.out.size))
  clear hb2 HB2
  go_wp2_with fail
  refine (HF1.out _ HB3.out).mono ?_
  rintro e w4 ⟨rfl, hb2⟩
  have HB4 := Lib.hid (HB3.out.trans (hb2.mono HB3.out.size))
  clear hb2 HB3
  go_wp2_with fail
  refine (HF2.out _ HB4.out).mono ?_
  rintro e w5 ⟨rfl, hb2⟩
  have HB5 := Lib.hid (HB4.out.trans (hb2.mono HB4.out.size))
  clear hb2 HB4
  have HB5a := Lib.hid (HB5.out.trans ((below_alloc w5 (.cells #[] 9)).mono HB5.out.size))
  go_wp2_with (at_builtin; refine wpList_app_texts (by kernel_rfl) (.tmp 41) (.tmp 42) rfl _ _ [] l rfl rfl (owns_empty w5) (Texts.below HT.out HB5a.out) (by have := HLN.out; simp only [List.length_nil]; omega) ?_)
  intro v1 w6 ho1 hg1 hw1
  have HB6 := Lib.hid (below_app HB5a.out hg1 (fun k hk => by simp [Value.ownBlock] at hk; subst hk; exact HB5.out.size))
  have HO1 := Lib.hid ho1
  have HW1 := Lib.hid (show ∀ k, v1.ownBlock = some k → w.heap.size ≤ k from fun k hk => by
    have h5 := HB5.out.size
    rcases hw1 k hk with h1 | h1
    · omega
    · simp [Value.ownBlock] at h1
      omega)
  clear ho1 hg1 hw1 HB5a HB5
  go_wp2_with (at_builtin; refine wpList_app_texts (by kernel_rfl) (.tmp 43) (.tmp 44) rfl _ _ l m rfl rfl HO1.out (Texts.below HM.out HB6.out) (by have := HLN.out; omega) ?_)
  intro v2 w7 ho2 hg2 hw2
  have HB7 := Lib.hid (below_app HB6.out hg2 HW1.out)
  have HO2 := Lib.hid ho2
  clear ho2 hg2 hw2 HB6 HO1 HW1
  go_wp2_with fail
  refine (HF3.out _ _ (HTX.out _ _ HO2.out)).mono ?_
  rintro e w8 ⟨rfl, hb2⟩
  have HB8 := Lib.hid (HB7.out.trans (hb2.mono HB7.out.size))
  clear hb2 HB7 HO2
  go_wp2_with fail
  refine (new_any (A := fun b => w.heap.size ≤ b) (fun b hb => by have := HB8.out.size; omega)).mono ?_
  rintro e w9 ⟨rfl, hd, hf⟩
  have HB9 := Lib.hid (HB8.out.trans (hf.mono HB8.out.size))
  have D9 := Lib.hid hd
  clear hd hf HB8
  go_wp2_with fail
  refine (HAP.out _ _ D9.out).mono ?_
  rintro e w10 ⟨rfl, hd, hf⟩
  have HB10 := Lib.hid (HB9.out.trans (hf.to_below HB9.out.size))
  have D10 := Lib.hid hd
  clear hd hf HB9 D9
  go_wp2_with fail
  refine (HOP.out _ _ D10.out).mono ?_
  rintro e w11 ⟨pp, rfl, hd, hf⟩
  have HB11 := Lib.hid (HB10.out.trans (hf.to_below HB10.out.size))
  have L11 := Lib.hid hd
  clear hd hf HB10 D10
  go_wp2_with fail
  refine (HRW.out _ _ _ L11.out (.inl HB11.out)).mono ?_
  rintro e w12 ⟨rfl, hd, hf⟩
  have HB12 := Lib.hid (HB11.out.trans (hf.to_below HB11.out.size))
  have L12 := Lib.hid hd
  clear hd hf HB11 L11
  go_wp2_with fail
  refine (HAE.out _ _ _ L12.out).mono ?_
  rintro e w13 ⟨rfl, hd, hf⟩
  have HB13 := Lib.hid (HB12.out.trans (hf.to_below HB12.out.size))
  have L13 := Lib.hid hd
  clear hd hf HB12 L12
  go_wp2_with fail
  refine (HRD.out _ _ _ L13.out).mono ?_
  rintro e w14 ⟨rfl, hd, hf⟩
  have HB14 := Lib.hid (HB13.out.trans (hf.to_below HB13.out.size))
  have D14 := Lib.hid hd
  clear hd hf HB13 L13
  go_wp2_with fail
  refine (R5.out _).mono ?_
  rintro e w15 ⟨v5, rfl, ht, hb2⟩
  have HB15 := Lib.hid (HB14.out.trans (hb2.mono HB14.out.size))
  have D15 := Lib.hid (D14.out.below hb2)
  have T15 := Lib.hid ht
  clear hb2 ht HB14 D14
  go_wp2_with fail
  refine (HSZ.out _ _ D15.out).mono ?_
  rintro e w16 ⟨rfl, rfl⟩
  have HB15a := Lib.hid (HB15.out.trans ((below_alloc w15 (.cells #[] 9)).mono HB15.out.size))
  go_wp2_with (at_builtin; refine wpList_app_texts (by kernel_rfl) (.tmp 146) (.tmp 147) rfl _ _ [] m rfl rfl (owns_empty w15) (Texts.below HM.out HB15a.out) (by have := HLN.out; simp only [List.length_nil]; omega) ?_)
  intro v6 w17 ho1 hg1 hw1
  have HB17 := Lib.hid (below_app HB15a.out hg1 (fun k hk => by simp [Value.ownBlock] at hk; subst hk; exact HB15.out.size))
  have HO3 := Lib.hid ho1
  have HS17 := Lib.hid (show w15.heap.size ≤ w17.heap.size by have := hg1.size; simp at this; omega)
  have T17 := Lib.hid (Texts.stay T15.out HS17.out (fun b hb => by
    have hl := Texts.lt T15.out hb
    refine (hg1.block b (by simp; omega) (fun e => ?_)).trans ((below_alloc w15 (.cells #[] 9)).block b hl)
    simp [Value.ownBlock] at e
    omega))
  have HW3 := Lib.hid (show ∀ k, v6.ownBlock = some k → w15.heap.size ≤ k from fun k hk => by
    rcases hw1 k hk with h1 | h1
    · omega
    · simp [Value.ownBlock] at h1
      omega)
  clear ho1 hg1 hw1 HB15a
  go_wp2_with (at_builtin; refine wpList_app_texts (by kernel_rfl) (.tmp 148) (.tmp 149) rfl _ _ m [[101, 110, 100]] rfl rfl (HO3.out.alloc _) (texts_one w17) (by have := HLN.out; simp only [List.length_cons, List.length_nil]; omega) ?_)
  intro v7 w18 ho1 hg1 hw1
  have hsz := hg1.size
  simp at hsz
  have HB18 := Lib.hid (below_app (HB17.out.trans ((below_alloc w17 (.cells #[.string ⟨#[101, 110, 100]⟩] 9)).mono HB17.out.size)) hg1 (fun k hk => by have h1 := HW3.out k hk; have h2 := HB15.out.size; omega))
  have T18 := Lib.hid (Texts.stay T17.out (show w17.heap.size ≤ w18.heap.size by omega) (fun b hb => by
    have hl := Texts.lt T15.out hb
    have hl2 := HS17.out
    refine (hg1.block b (by simp; omega) (fun e => ?_)).trans ((below_alloc w17 (.cells #[.string ⟨#[101, 110, 100]⟩] 9)).block b (by omega))
    have := HW3.out b e.symm
    omega))
  have HO4 := Lib.hid ho1
  clear ho1 hg1 hw1 hsz HW3 HS17 T17 T15 HB15 HB17 HO3
  go_wp2_with fail
  --GG
  have hbg := same_any T18.out (HTE.out _ _ HO4.out) HLM.out HLM.out
  rw [decide_eq_true rfl] at hbg
  refine hbg.mono ?_
  rintro e w19 ⟨rfl, hb2⟩
  have HB19 := Lib.hid (HB18.out.trans (hb2.mono HB18.out.size))
  clear hb2 hbg HB18
  go_wp2_with fail
  go_ret
  exact ⟨rfl, HB19.out⟩
theorem walk {w : World} {v u : Value} {l m : List Bs} (h : Texts w v l) (hm : Texts w u m) : Calls Try.prog 6 #[v, u] w (IsTrue w) := by
  by_cases hb : 1500 < bytB l
  · exact out_first h hm hb
  · by_cases hb2 : 1500 < bytB m
    · exact out_second h hm (by omega) hb2
    · exact main h hm (by omega) (by omega)
end Go.Proofs.Ytdjchpejhfkknaa.walJoins
