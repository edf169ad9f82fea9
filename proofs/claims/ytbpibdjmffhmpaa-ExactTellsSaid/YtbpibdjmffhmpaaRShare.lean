/- The reference's own Share gives the parts that exact.Share gives. Conditions: the list can be read. -/
import Derived.Test.YtbpibdjmffhmpaaNext
import Derived.Deep.DeepCutAuto
namespace Go.Proofs.Ytbpibdjmffhmpaa
open Go.RowKit Mth
set_option linter.unusedVariables false

set_option maxHeartbeats 1600000 in
set_option maxRecDepth 100000 in
theorem rshare_bad (b off c : Nat) (t : Int) (zs : List Int) (w : World) (hf : Fits zs)
    (hc : ∀ j, j < zs.length → w.cell? ⟨b, off + j, none⟩ = some (.int .i64 (zs.getD j 0))) (hw : wholeB zs = false) :
    Calls Try.prog 13 #[.int .i64 t, .slice (some ⟨b, off, none⟩) zs.length c] w fun e w' => e = .returned (.tuple #[.slice none 0 0, .bool false]) ∧ w = w' := by
  have HC := Lib.hid hc
  by_cases h64 : zs.length ≤ 64
  · obtain ⟨m, hm, hall, hbad⟩ := bad_at hw h64
    have HALL := Lib.hid hall
    have HBAD := Lib.hid hbad
    have HF := Lib.hid hf
    clear hc hw hall hbad hf
    have d64 : decide (64 < zs.length) = false := decide_eq_false (by omega)
    go_enter Try.func13, Try.ntmps13
    go_wp2_with fail
    go_loop [6, 7] (fun s i => ∃ k : Nat, k ≤ m ∧ i = .int .i64 k ∧ s = .int .i64 (tot (zs.take k))) (fun _ i => zs.length - (intOf i).toNat)
    case atStart => exact ⟨0, Nat.zero_le _, rfl, by simp [tot]⟩
    case round =>
      obtain ⟨k, hk, rfl, rfl⟩ := hrel
      have hlt : k < zs.length := by omega
      have hcell := HC.out k hlt
      obtain ⟨g1, g2⟩ := HALL.out k hk
      have g3 := nonneg_tot g1
      have hfx := HF.out.getD k
      by_cases hkm : k < m
      · obtain ⟨g4, g5⟩ := HALL.out (k + 1) (by omega)
        have hs := tot_snoc zs k hlt
        rw [hs] at g5
        have h0 : 0 ≤ zs.getD k 0 := by
          have h1 := g4.getD k
          rw [List.getD_eq_getElem?_getD, List.getElem?_take] at h1
          simpa [List.getD_eq_getElem?_getD] using h1
        have dn : decide (zs.getD k 0 < 0) = false := decide_eq_false (by omega)
        have db : decide (1125899906842624 - tot (zs.take k) < zs.getD k 0) = false := decide_eq_false (by omega)
        have HS := Lib.hid hs
        clear hs g1 g4
        generalize zs.getD k 0 = x at *
        generalize tot (zs.take k) = s at *
        go_wp2_with fail
        go_round
        case rel => exact ⟨k + 1, by omega, by go_num, by rw [HS.out]⟩
        case measure => simp [intOf]; omega
      · obtain rfl : k = m := by omega
        by_cases hneg : zs.getD k 0 < 0
        · have dn : decide (zs.getD k 0 < 0) = true := decide_eq_true hneg
          clear hneg g1
          generalize zs.getD k 0 = x at *
          generalize tot (zs.take k) = s at *
          go_wp2_with fail
          go_ret2
          exact ⟨rfl, rfl⟩
        · have dn : decide (zs.getD k 0 < 0) = false := decide_eq_false hneg
          have db : decide (1125899906842624 - tot (zs.take k) < zs.getD k 0) = true := decide_eq_true (by have := HBAD.out; omega)
          clear hneg g1
          generalize zs.getD k 0 = x at *
          generalize tot (zs.take k) = s at *
          go_wp2_with fail
          go_ret2
          exact ⟨rfl, rfl⟩
  · have d64 : decide (64 < zs.length) = true := decide_eq_true (by omega)
    clear hw hc
    go_enter Try.func13, Try.ntmps13
    go_wp2_with fail
    go_ret2
    exact ⟨rfl, rfl⟩

set_option maxHeartbeats 1600000 in
set_option maxRecDepth 100000 in
theorem rshare_off (b off c : Nat) (t : Int) (zs : List Int) (w : World)
    (hc : ∀ j, j < zs.length → w.cell? ⟨b, off + j, none⟩ = some (.int .i64 (zs.getD j 0))) (hw : wholeB zs = true) (ht : t < 0 ∨ tot zs < t) :
    Calls Try.prog 13 #[.int .i64 t, .slice (some ⟨b, off, none⟩) zs.length c] w fun e w' => e = .returned (.tuple #[.slice none 0 0, .bool false]) ∧ w = w' := by
  have HC := Lib.hid hc
  obtain ⟨h64, hnn, hvv⟩ := of_wholeB hw
  have HNN := Lib.hid hnn
  have HVV := Lib.hid hvv
  clear hc hw hnn hvv
  have d64 : decide (64 < zs.length) = false := decide_eq_false (by omega)
  have HTT := Lib.hid ht
  clear ht
  go_enter Try.func13, Try.ntmps13
  go_wp2_with fail
  go_loop [6, 7] (fun s i => ∃ k : Nat, k ≤ zs.length ∧ i = .int .i64 k ∧ s = .int .i64 (tot (zs.take k))) (fun _ i => zs.length - (intOf i).toNat)
  case atStart => exact ⟨0, Nat.zero_le _, rfl, by simp [tot]⟩
  case round =>
    obtain ⟨k, hk, rfl, rfl⟩ := hrel
    by_cases hlt : k < zs.length
    · have hcell := HC.out k hlt
      have hs := tot_snoc zs k hlt
      have h0 := HNN.out.getD k
      have h1 := tot_take_le HNN.out (k + 1)
      rw [hs] at h1
      have h2 := HVV.out
      have h3 := nonneg_tot (l := zs.take k) (fun x hx => HNN.out x (List.mem_of_mem_take hx))
      have dn : decide (zs.getD k 0 < 0) = false := decide_eq_false (by omega)
      have db : decide (1125899906842624 - tot (zs.take k) < zs.getD k 0) = false := decide_eq_false (by omega)
      have hsb : tot (zs.take k) + zs.getD k 0 ≤ 1125899906842624 := by omega
      have HS := Lib.hid hs
      clear hs h1 h2
      generalize zs.getD k 0 = x at *
      generalize tot (zs.take k) = s at *
      go_wp2_with fail
      go_round
      case rel => exact ⟨k + 1, by omega, by go_num, by rw [HS.out]⟩
      case measure => simp [intOf]; omega
    · obtain rfl : k = zs.length := by omega
      rw [List.take_length]
      by_cases h1 : t < 0
      · have d1 : decide (t < 0) = true := decide_eq_true h1
        clear h1
        go_wp2_with fail
        go_ret2
        exact ⟨rfl, rfl⟩
      · have d1 : decide (t < 0) = false := decide_eq_false h1
        have d2 : decide (tot zs < t) = true := decide_eq_true (by have := HTT.out; omega)
        clear h1
        go_wp2_with fail
        go_ret2
        exact ⟨rfl, rfl⟩

theorem init2 (w : World) (n B : Nat) (hB : w.heap.size = B) (f g : Nat → Int) :
    Own ((w.alloc (mkO n fun _ => 0)).alloc (mkO n fun _ => 0)) B n (cutF f 0) ∧ Own ((w.alloc (mkO n fun _ => 0)).alloc (mkO n fun _ => 0)) (B + 1) n (cutF g 0) ∧ Below B w ((w.alloc (mkO n fun _ => 0)).alloc (mkO n fun _ => 0)) := by
  subst hB
  refine ⟨((Own.new w n _).alloc _).congr (cutF_zero _ n), ?_, ((Below.refl _ _).alloc (Nat.le_refl _) _).alloc (by simp) _⟩
  have h1 := Own.new (w.alloc (mkO n fun _ => 0)) n (fun _ => 0)
  rw [alloc_sz] at h1
  exact h1.congr (cutF_zero _ n)

theorem updB_take (L : List Nat) (k : Nat) (hk : k < L.length) (i : Nat) : updB (fun i => decide (i ∈ L.take k)) (L.getD k 0) true i = decide (i ∈ L.take (k + 1)) := by
  have e : L.getD k 0 = L[k] := by rw [List.getD_eq_getElem?_getD, List.getElem?_eq_getElem hk]; rfl
  have ht : L.take (k + 1) = L.take k ++ [L[k]] := by rw [List.take_add_one, List.getElem?_eq_getElem hk]; rfl
  rw [e, ht]
  unfold updB
  by_cases hi : i = L[k]
  · rw [if_pos hi]
    exact (decide_eq_true (List.mem_append_right _ (List.mem_singleton.2 hi))).symm
  · rw [if_neg hi]
    apply decide_eq_decide.2
    rw [List.mem_append, List.mem_singleton]
    exact ⟨.inl, fun h => h.resolve_right hi⟩
set_option maxHeartbeats 3200000 in
set_option maxRecDepth 100000 in
/-- There is a division, and a weight that is not 0. -/
theorem rshare_main (b off c : Nat) (t : Int) (zs : List Int) (w : World) (hbl : b < w.heap.size)
    (hc : ∀ j, j < zs.length → w.cell? ⟨b, off + j, none⟩ = some (.int .i64 (zs.getD j 0))) (hw : wholeB zs = true) (h0 : 0 < tot zs) (ht : 0 ≤ t) (htW : t ≤ tot zs) :
    Calls Try.prog 13 #[.int .i64 t, .slice (some ⟨b, off, none⟩) zs.length c] w fun e w' => e = .returned (.tuple #[.slice (some ⟨w.heap.size, 0, none⟩) zs.length zs.length, .bool true]) ∧ Own w' w.heap.size zs.length (part t (tot zs) (zf zs) zs.length) ∧ Below w.heap.size w w' := by
  have HC := Lib.hid hc
  obtain ⟨h64, hnn, hvv⟩ := of_wholeB hw
  have HNN := Lib.hid hnn
  have HVV := Lib.hid hvv
  have hsum := sumF_all zs
  have HS := Lib.hid hsum
  have hle := nonneg_le hnn
  have HLE := Lib.hid hle
  have hmk := run_mk zs.length (by omega)
  have hmb := run_mkB zs.length (by omega)
  clear hc hw hnn hvv hsum hle
  have d64 : decide (64 < zs.length) = false := decide_eq_false (by omega)
  have d1 : decide (t < 0) = false := decide_eq_false (by omega)
  have d2 : decide (tot zs < t) = false := decide_eq_false (by omega)
  go_enter Try.func13, Try.ntmps13
  go_wp2_with fail
  go_loop [6, 7] (fun s i => ∃ k : Nat, k ≤ zs.length ∧ i = .int .i64 k ∧ s = .int .i64 (tot (zs.take k))) (fun _ i => zs.length - (intOf i).toNat)
  case atStart => exact ⟨0, Nat.zero_le _, rfl, by simp [tot]⟩
  case round =>
    obtain ⟨k, hk, rfl, rfl⟩ := hrel
    by_cases hlt : k < zs.length
    · have hcell := HC.out k hlt
      have hs := tot_snoc zs k hlt
      have h0' := HNN.out.getD k
      have h1 := tot_take_le HNN.out (k + 1)
      rw [hs] at h1
      have h2 := HVV.out
      have h3 := nonneg_tot (l := zs.take k) (fun x hx => HNN.out x (List.mem_of_mem_take hx))
      have dn : decide (zs.getD k 0 < 0) = false := decide_eq_false (by omega)
      have db : decide (1125899906842624 - tot (zs.take k) < zs.getD k 0) = false := decide_eq_false (by omega)
      have hsb : tot (zs.take k) + zs.getD k 0 ≤ 1125899906842624 := by omega
      have HS := Lib.hid hs
      clear hs h1 h2 hmk hmb
      generalize zs.getD k 0 = x at *
      generalize tot (zs.take k) = s at *
      go_wp2_with fail
      go_round
      case rel => exact ⟨k + 1, by omega, by go_num, by rw [HS.out]⟩
      case measure => simp [intOf]; omega
    · obtain rfl : k = zs.length := by omega
      rw [List.take_length]
      generalize hW : tot zs = x at *
      have HWW := Lib.hid hW
      have w3 := HVV.out
      have d3 : decide (0 < x) = true := decide_eq_true h0
      clear hW
      go_wp2_with fail
      generalize hB : w.heap.size = B at *
      obtain ⟨i1, i2, i5⟩ := init2 w zs.length B hB (quo t x (zf zs)) (rem t x (zf zs))
      have I1 := Lib.hid i1
      have I2 := Lib.hid i2
      have I5 := Lib.hid i5
      clear i1 i2 i5
      go_loopw [10, 11] (fun l i wr => ∃ k : Nat, k ≤ zs.length ∧ i = .int .i64 k ∧ l = .int .i64 (t - sumF (quo t x (zf zs)) k) ∧
          Own wr B zs.length (cutF (quo t x (zf zs)) k) ∧ Own wr (B + 1) zs.length (cutF (rem t x (zf zs)) k) ∧ Below B w wr) (fun _ i _ => zs.length - (intOf i).toNat)
      case atStart => exact ⟨0, Nat.zero_le _, rfl, by simp [sumF], I1.out, I2.out, I5.out⟩
      case round =>
        obtain ⟨k, hk, rfl, rfl, oP, oR, hbel⟩ := hrel
        by_cases hlt : k < zs.length
        · have hcell : wr.cell? ⟨b, off + k, none⟩ = some (.int .i64 (zs.getD k 0)) := (hbel.cell (p := ⟨b, off + k, none⟩) hbl).trans (HC.out k hlt)
          have hz0 := HNN.out.getD k
          have hzx : zs.getD k 0 ≤ x := HLE.out _ (by rw [List.getD_eq_getElem?_getD, List.getElem?_eq_getElem hlt]; exact List.getElem_mem hlt)
          obtain ⟨s1, s2, s3⟩ := sc_ok ht htW h0 w3 hz0 hzx
          have hsc := fun W => rscale_any t (zs.getD k 0) x W
          rw [s1, s2, s3, show t * zs.getD k 0 / x = quo t x (zf zs) k from rfl, show t * zs.getD k 0 % x = rem t x (zf zs) k from rfl] at hsc
          have HSC := Lib.hid hsc
          have hP := oP.cell hlt
          have hR := oR.cell hlt
          have fP := oP.free k
          have fR := oR.free k
          have q0 := quo_nonneg (t := t) (z := zf zs) (i := k) h0 ht hz0
          have q1 := quo_le (z := zf zs) (i := k) h0 htW hz0
          have q2 : zf zs k ≤ x := hzx
          have q3 := sumF_nonneg (f := quo t x (zf zs)) (n := k) (fun i _ => quo_nonneg h0 ht (HNN.out.getD i))
          have q4 := sumQuo_le (z := zf zs) (n := zs.length) h0 ht htW HS.out (fun i => HNN.out.getD i) hk
          have oP' := (Own.other (Own.set oP k (quo t x (zf zs) k)) (a := ⟨B + 1, k, none⟩) (by first | (simp; done) | (simp; omega)) (.int .i64 (rem t x (zf zs) k))).congr (fun i _ => cutF_upd (quo t x (zf zs)) k i)
          have oR' := (Own.set (Own.other oR (a := ⟨B, k, none⟩) (by first | (simp; done) | (simp; omega)) (.int .i64 (quo t x (zf zs) k))) k (rem t x (zf zs) k)).congr (fun i _ => cutF_upd (rem t x (zf zs)) k i)
          have hbel' := (hbel.setCell (p := ⟨B, k, none⟩) (Nat.le_refl _) (.int .i64 (quo t x (zf zs) k))).setCell (p := ⟨B + 1, k, none⟩) (by first | (simp; done) | (simp; omega)) (.int .i64 (rem t x (zf zs) k))
          have hss : sumF (quo t x (zf zs)) (k + 1) = sumF (quo t x (zf zs)) k + quo t x (zf zs) k := rfl
          have HSS := Lib.hid hss
          have OP' := Lib.hid oP'
          have OR' := Lib.hid oR'
          have HBEL' := Lib.hid hbel'
          clear s1 s2 s3 hsc oP oR hbel oP' oR' hbel' hss hmk hmb
          have q2' : zf zs k = zs.getD k 0 := rfl
          rw [q2'] at q1 q2
          clear q2'
          generalize sumF (quo t x (zf zs)) k = sq at *
          generalize quo t x (zf zs) k = qk at *
          generalize rem t x (zf zs) k = rk at *
          generalize zs.getD k 0 = z at *
          go_wp2_with fail
          refine (HSC.out _).mono ?_
          rintro e w' ⟨rfl, rfl⟩
          go_wp2_with fail
          go_roundw
          case rel => exact ⟨k + 1, by omega, by go_num, by rw [HSS.out]; go_num, OP'.out, OR'.out, HBEL'.out⟩
          case measure => simp [intOf]; omega
        · obtain rfl : k = zs.length := by omega
          have ob := over_bd (t := t) h0 HS.out
          obtain ⟨ov, hov⟩ := Int.eq_ofNat_of_zero_le ob.1
          have ob2 : ov ≤ zs.length := by omega
          have hov' : t - sumF (quo t x (zf zs)) zs.length = (ov : Int) := hov
          rw [hov']
          obtain ⟨L, l1, l2⟩ := sorted_exists (rem t x (zf zs)) zs.length
          have L1 := Lib.hid l1
          have L2 := Lib.hid l2
          have HOV := Lib.hid hov
          have oP2 := (oP.congr (cutF_all _ _)).alloc (mkB zs.length (fun _ => false))
          have oR2 := (oR.congr (cutF_all _ _)).alloc (mkB zs.length (fun _ => false))
          have oM2 := OwnB.new wr zs.length (fun _ => false)
          have hPM := oP.lt
          have hRM := oR.lt
          have hb2 := hbel.alloc (by omega) (mkB zs.length (fun _ => false))
          have hqv : ∀ i, 0 ≤ quo t x (zf zs) i ∧ quo t x (zf zs) i ≤ 1125899906842624 := fun i => ⟨quo_nonneg h0 ht (HNN.out.getD i), by
            have h1 := quo_le (z := zf zs) (i := i) h0 htW (HNN.out.getD i)
            have h2 : zf zs i ≤ x := by
              unfold zf
              rw [List.getD_eq_getElem?_getD]
              by_cases hi : i < zs.length
              · rw [List.getElem?_eq_getElem hi]; exact HLE.out _ (List.getElem_mem hi)
              · rw [List.getElem?_eq_none (by omega)]; simp; omega
            omega⟩
          have HQV := Lib.hid hqv
          have OP2 : Hid (Own (wr.alloc (mkB zs.length (fun _ => false))) B zs.length (stepF (quo t x (zf zs)) L 0)) := Lib.hid (oP2.congr (fun i _ => by simp [stepF]))
          have OR2 := Lib.hid oR2
          have OM2 : Hid (OwnB (wr.alloc (mkB zs.length (fun _ => false))) wr.heap.size zs.length (fun i => decide (i ∈ L.take 0))) := Lib.hid (oM2.congr (fun i _ => by simp))
          have HB2 := Lib.hid hb2
          have hLn : L.length = zs.length := by rw [l1.length_eq, List.length_range]
          have hnd : L.Nodup := l1.nodup_iff.2 List.nodup_range
          have hLm : ∀ k, k < zs.length → L.getD k 0 < zs.length := fun k hk => by
            rw [List.getD_eq_getElem?_getD, List.getElem?_eq_getElem (by omega), Option.getD_some]
            exact List.mem_range.1 (l1.mem_iff.1 (List.getElem_mem _))
          have HLN := Lib.hid hLn
          have HND := Lib.hid hnd
          have HLM := Lib.hid hLm
          clear oP oR hbel oP2 oR2 oM2 hb2 l1 l2 hov hov' ob hqv hLn hnd hLm
          go_wp2_with fail
          generalize hM : wr.heap.size = M at *
          go_loopw [10] (fun l w2 => ∃ k : Nat, k ≤ ov ∧ l = .int .i64 ((ov : Int) - k) ∧ Own w2 B zs.length (stepF (quo t x (zf zs)) L k) ∧ Own w2 (B + 1) zs.length (rem t x (zf zs)) ∧ OwnB w2 M zs.length (fun i => decide (i ∈ L.take k)) ∧ Below B w w2) (fun l _ => (intOf l).toNat)
          case atStart => exact ⟨0, Nat.zero_le _, by simp, OP2.out, OR2.out, OM2.out, HB2.out⟩
          case round =>
            obtain ⟨k, hk2, rfl, oP, oR, oM, hbel⟩ := hrel
            by_cases hlt2 : k < ov
            · have hnext := next_any (B + 1) M zs.length zs.length zs.length (rem t x (zf zs)) _ wr h64 oR oM
              have HNEXT := Lib.hid hnext
              have hLk := HLM.out k (by omega)
              have hP := oP.cell hLk
              have hMc := oM.cell hLk
              have fP := oP.free (L.getD k 0)
              have fM := oM.free (L.getD k 0)
              have hv := HQV.out (L.getD k 0)
              have hs := stepF_bd (quo t x (zf zs)) L k (L.getD k 0)
              have hv2 : 0 ≤ stepF (quo t x (zf zs)) L k (L.getD k 0) ∧ stepF (quo t x (zf zs)) L k (L.getD k 0) ≤ 1125899906842625 := by omega
              have oP' := fun m => (Own.other (Own.set (oP.drewN m) (L.getD k 0) (stepF (quo t x (zf zs)) L k (L.getD k 0) + 1)) (a := ⟨M, L.getD k 0, none⟩) (by show M ≠ B; omega) (.bool true)).congr (fun i _ => stepF_upd (quo t x (zf zs)) L HND.out k (by have := HLN.out; omega) i)
              have oR' := fun m v => Own.other (Own.other (oR.drewN m) (a := ⟨B, L.getD k 0, none⟩) (by show B ≠ B + 1; omega) (.int .i64 v)) (a := ⟨M, L.getD k 0, none⟩) (by show M ≠ B + 1; omega) (.bool true)
              have oM' := fun (m : Nat) v => (OwnB.set (OwnB.other (w := wr.drewN m) oM (a := ⟨B, L.getD k 0, none⟩) (by show B ≠ M; omega) (.int .i64 v)) (L.getD k 0) true).congr (fun i _ => updB_take L k (by have := HLN.out; omega) i)
              have hbel' := fun m v => ((Below.drewN hbel m).setCell (p := ⟨B, L.getD k 0, none⟩) (Nat.le_refl _) (.int .i64 v)).setCell (p := ⟨M, L.getD k 0, none⟩) (by show B ≤ M; omega) (.bool true)
              have OP' := Lib.hid oP'
              have OR' := Lib.hid oR'
              have OM' := Lib.hid oM'
              have HBEL' := Lib.hid hbel'
              clear hnext oP oR oM hbel oP' oR' oM' hbel' hv hs
              generalize stepF (quo t x (zf zs)) L k (L.getD k 0) = v at *
              have dk : decide ((0 : Int) < (ov : Int) - (k : Int)) = true := decide_eq_true (by omega)
              generalize hd : L.getD k 0 = d at *
              have HD := Lib.hid hd
              clear hd
              go_wp2_with fail
              refine HNEXT.out.mono ?_
              rintro e w' ⟨bv, hbest, rfl, m, rfl⟩
              have hbv : bv = (d : Int) := by rw [← HD.out]; exact best_end L1.out L2.out (by omega) hbest
              clear hbest
              subst hbv
              go_wp2_with fail
              go_roundw
              case rel => exact ⟨k + 1, by omega, by go_num, OP'.out m, OR'.out m _, OM'.out m _, HBEL'.out m _⟩
              case measure => simp [intOf]; omega
            · obtain rfl : k = ov := by omega
              have oF : Own wr B zs.length (part t x (zf zs) zs.length) := oP.congr (fun i hi => stepF_part L1.out L2.out HOV.out i hi)
              have OF := Lib.hid oF
              have HBEL2 := Lib.hid hbel
              have dk : decide ((0 : Int) < (k : Int) - (k : Int)) = false := decide_eq_false (by omega)
              clear oP oR oM hbel oF
              go_wp2_with fail
              go_ret2
              have hx := HWW.out
              subst hx
              subst hB
              exact ⟨rfl, OF.out, HBEL2.out⟩

theorem below_three (w : World) (a b c : Obj) : Below w.heap.size w (((w.alloc a).alloc b).alloc c) := (((Below.refl _ _).alloc (Nat.le_refl _) _).alloc (by simp) _).alloc (by simp; omega) _

set_option maxHeartbeats 1600000 in
set_option maxRecDepth 100000 in
/-- The weights' sum is 0. -/
theorem rshare_zero (b off c : Nat) (zs : List Int) (w : World)
    (hc : ∀ j, j < zs.length → w.cell? ⟨b, off + j, none⟩ = some (.int .i64 (zs.getD j 0))) (hw : wholeB zs = true) (h0 : tot zs = 0) (hn : 0 < zs.length) :
    Calls Try.prog 13 #[.int .i64 0, .slice (some ⟨b, off, none⟩) zs.length c] w fun e w' => e = .returned (.tuple #[.slice (some ⟨w.heap.size, 0, none⟩) zs.length zs.length, .bool true]) ∧ w' = ((w.alloc (mkO zs.length fun _ => 0)).alloc (mkO zs.length fun _ => 0)).alloc (mkB zs.length fun _ => false) := by
  have HC := Lib.hid hc
  obtain ⟨h64, hnn, hvv⟩ := of_wholeB hw
  have HNN := Lib.hid hnn
  have HVV := Lib.hid hvv
  have hmk := run_mk zs.length (by omega)
  have hmb := run_mkB zs.length (by omega)
  have HMK := Lib.hid hmk
  have HMB := Lib.hid hmb
  have H0 := Lib.hid h0
  clear hc hw hnn hvv hmk hmb h0
  have d64 : decide (64 < zs.length) = false := decide_eq_false (by omega)
  go_enter Try.func13, Try.ntmps13
  go_wp2_with fail
  go_loop [6, 7] (fun s i => ∃ k : Nat, k ≤ zs.length ∧ i = .int .i64 k ∧ s = .int .i64 (tot (zs.take k))) (fun _ i => zs.length - (intOf i).toNat)
  case atStart => exact ⟨0, Nat.zero_le _, rfl, by simp [tot]⟩
  case round =>
    obtain ⟨k, hk, rfl, rfl⟩ := hrel
    by_cases hlt : k < zs.length
    · have hcell := HC.out k hlt
      have hs := tot_snoc zs k hlt
      have h0' := HNN.out.getD k
      have h1 := tot_take_le HNN.out (k + 1)
      rw [hs] at h1
      have h2 := HVV.out
      have h3 := nonneg_tot (l := zs.take k) (fun x hx => HNN.out x (List.mem_of_mem_take hx))
      have dn : decide (zs.getD k 0 < 0) = false := decide_eq_false (by omega)
      have db : decide (1125899906842624 - tot (zs.take k) < zs.getD k 0) = false := decide_eq_false (by omega)
      have hsb : tot (zs.take k) + zs.getD k 0 ≤ 1125899906842624 := by omega
      have HS := Lib.hid hs
      clear hs h1 h2
      generalize zs.getD k 0 = x at *
      generalize tot (zs.take k) = s at *
      go_wp2_with fail
      go_round
      case rel => exact ⟨k + 1, by omega, by go_num, by rw [HS.out]⟩
      case measure => simp [intOf]; omega
    · obtain rfl : k = zs.length := by omega
      rw [List.take_length, H0.out]
      have hmk := HMK.out
      have hmb := HMB.out
      go_wp2_with fail
      refine wp_loop_rounds 1 ?_
      rw [rounds_succ]
      go_wp2_with fail
      refine wp_loop_rounds 1 ?_
      rw [rounds_succ]
      go_wp2_with fail
      go_ret2
      exact ⟨rfl, rfl⟩

set_option maxHeartbeats 1600000 in
set_option maxRecDepth 100000 in
theorem rshare_nil (a : Option Addr) (c : Nat) (w : World) :
    Calls Try.prog 13 #[.int .i64 0, .slice a 0 c] w fun e w' => e = .returned (.tuple #[.slice (some ⟨w.heap.size, 0, none⟩) 0 0, .bool true]) ∧ w' = ((w.alloc (mkO 0 fun _ => 0)).alloc (mkO 0 fun _ => 0)).alloc (mkB 0 fun _ => false) := by
  have hmk : ∀ w, (Instr.makeSlice 22 (.int .i64 0) (.int .i64 0)).run Try.prog w = .ok (.slice (some ⟨w.heap.size, 0, none⟩) 0 0) (w.alloc (mkO 0 (fun _ => 0))) := run_mk 0 (by omega)
  have hmb : ∀ w, (Instr.makeSlice 45 (.int .i64 0) (.int .i64 0)).run Try.prog w = .ok (.slice (some ⟨w.heap.size, 0, none⟩) 0 0) (w.alloc (mkB 0 (fun _ => false))) := run_mkB 0 (by omega)
  go_enter Try.func13, Try.ntmps13
  go_wp2_with fail
  refine wp_loop_rounds 1 ?_
  rw [rounds_succ]
  go_wp2_with fail
  refine wp_loop_rounds 1 ?_
  rw [rounds_succ]
  go_wp2_with fail
  refine wp_loop_rounds 1 ?_
  rw [rounds_succ]
  go_wp2_with fail
  go_ret2
  exact ⟨rfl, rfl⟩

set_option maxRecDepth 100000 in
theorem rshare_nil_no (a : Option Addr) (c : Nat) (t : Int) (h0 : t ≠ 0) (w : World) :
    Calls Try.prog 13 #[.int .i64 t, .slice a 0 c] w fun e w' => e = .returned (.tuple #[.slice none 0 0, .bool false]) ∧ w = w' := by
  by_cases h1 : t < 0
  · have d1 : decide (t < 0) = true := decide_eq_true h1
    clear h0 h1
    go_enter Try.func13, Try.ntmps13
    go_wp2_with fail
    refine wp_loop_rounds 1 ?_
    rw [rounds_succ]
    go_wp2_with fail
    go_ret2
    exact ⟨rfl, rfl⟩
  · have d1 : decide (t < 0) = false := decide_eq_false h1
    have d2 : decide (0 < t) = true := decide_eq_true (by omega)
    clear h0 h1
    go_enter Try.func13, Try.ntmps13
    go_wp2_with fail
    refine wp_loop_rounds 1 ?_
    rw [rounds_succ]
    go_wp2_with fail
    go_ret2
    exact ⟨rfl, rfl⟩

/-- The reference's Share: the division exists. -/
theorem rshare_yes {w : World} {v : Value} {zs : List Int} {t : Int} (h : Reads w v zs) (hb : shareB t zs = true) :
    Calls Try.prog 13 #[.int .i64 t, v] w fun e w' => e = .returned (.tuple #[.slice (some ⟨w.heap.size, 0, none⟩) zs.length zs.length, .bool true]) ∧ Own w' w.heap.size zs.length (shareF t zs) ∧ Below w.heap.size w w' := by
  obtain ⟨b1, b2, b3⟩ := of_decide_eq_true hb
  obtain ⟨h1, h2, h3⟩ := h
  have hnil : ∀ a c, Calls Try.prog 13 #[.int .i64 0, .slice a 0 c] w fun e w' => e = .returned (.tuple #[.slice (some ⟨w.heap.size, 0, none⟩) 0 0, .bool true]) ∧ Own w' w.heap.size 0 (shareF 0 []) ∧ Below w.heap.size w w' := by
    intro a c
    refine (rshare_nil a c w).mono ?_
    rintro e w' ⟨rfl, rfl⟩
    exact ⟨rfl, Own.congr (((Own.new w 0 _).alloc _).alloc _) (fun i hi => absurd hi (Nat.not_lt_zero i)), below_three _ _ _ _⟩
  rcases h3 with ⟨rfl, a, c, rfl⟩ | ⟨b, off, c, rfl, hbl, hc⟩
  · have b3' : t ≤ 0 := b3
    obtain rfl : t = 0 := by omega
    exact hnil a c
  · by_cases hn : zs.length = 0
    · obtain rfl : zs = [] := List.length_eq_zero_iff.1 hn
      have b3' : t ≤ 0 := b3
      obtain rfl : t = 0 := by omega
      exact hnil _ c
    · by_cases h0 : tot zs = 0
      · obtain rfl : t = 0 := by omega
        refine (rshare_zero b off c zs w hc b1 h0 (by omega)).mono ?_
        rintro e w' ⟨rfl, rfl⟩
        exact ⟨rfl, Own.congr (((Own.new w _ _).alloc _).alloc _) (fun i hi => (shareF_zero zs h0 i).symm), below_three _ _ _ _⟩
      · exact rshare_main b off c t zs w hbl hc b1 (by have := nonneg_tot (of_wholeB b1).2.1; omega) b2 b3

/-- The reference's Share: no division. -/
theorem rshare_no {w : World} {v : Value} {zs : List Int} {t : Int} (h : Reads w v zs) (hb : shareB t zs = false) :
    Calls Try.prog 13 #[.int .i64 t, v] w fun e w' => e = .returned (.tuple #[.slice none 0 0, .bool false]) ∧ w = w' := by
  have b0 := of_decide_eq_false hb
  obtain ⟨h1, h2, h3⟩ := h
  rcases h3 with ⟨rfl, a, c, rfl⟩ | ⟨b, off, c, rfl, hbl, hc⟩
  · refine rshare_nil_no a c t ?_ w
    intro ht
    subst ht
    exact b0 ⟨rfl, Int.le_refl _, by simp [tot]⟩
  · cases hw : wholeB zs with
    | false => exact rshare_bad b off c t zs w h2 hc hw
    | true =>
      rw [hw] at b0
      simp only [true_and] at b0
      exact rshare_off b off c t zs w hc hw (by omega)
end Go.Proofs.Ytbpibdjmffhmpaa
