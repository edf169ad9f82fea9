/- The statement ExactOrders: a greater weight never gets a smaller part; dividing everything gives the weights, dividing nothing nothing; the rest of a division is the division of the rest, but for one more or less in each part. Conditions: none. -/
import Derived.Test.YtbpibdjmffhmpaaShares
namespace Go.Proofs.Ytbpibdjmffhmpaa.exactOrders
open Go.ChangeShapes Go.WideShapes Go.ChangeAt Go.RowKit Mth
open Go.Proofs.Ytbpibdjmffhmpaa
set_option linter.unusedVariables false

section
variable {t W : Int} {z : Nat → Int} {n : Nat}
theorem bef_rank {f : Nat → Int} {i k : Nat} (h : bef f i k = true) : rank f n i ≤ rank f n k := by
  unfold rank
  apply List.countP_mono_left
  intro j _ hj
  have a := of_decide_eq_true h
  have b := of_decide_eq_true hj
  exact decide_eq_true (by omega)
theorem part_mono (hW : 0 < W) (ht : 0 ≤ t) (hs : sumF z n = W) {i k : Nat} (h : z k < z i) : part t W z n k ≤ part t W z n i := by
  have h1 := Int.mul_ediv_add_emod (t * z i) W
  have h2 := Int.mul_ediv_add_emod (t * z k) W
  have h3 : t * z k ≤ t * z i := Int.mul_le_mul_of_nonneg_left (by omega) ht
  have h4 : quo t W z k ≤ quo t W z i := Int.ediv_le_ediv hW h3
  cases hk : upB t W z n k with
  | false =>
    rw [part_down hk]
    cases hi : upB t W z n i with
    | false => rw [part_down hi]; exact h4
    | true => rw [part_up hi]; omega
  | true =>
    rw [part_up hk]
    cases hi : upB t W z n i with
    | true => rw [part_up hi]; omega
    | false =>
      rw [part_down hi]
      apply Decidable.byContradiction
      intro hlt
      have he : quo t W z k = quo t W z i := by omega
      have hp := up_pos hW hs hk
      have ht0 : 0 < t := by
        apply Decidable.byContradiction
        intro h0
        obtain rfl : t = 0 := by omega
        unfold rem at hp
        simp at hp
      have h5 : t * z k < t * z i := Int.mul_lt_mul_of_pos_left h ht0
      have h6 : rem t W z k < rem t W z i := by
        unfold quo at he
        unfold rem
        rw [he] at h2
        omega
      have h7 : bef (rem t W z) i k = true := decide_eq_true (.inl h6)
      have h8 := bef_rank (n := n) h7
      have a := of_decide_eq_true hk
      have b := of_decide_eq_false hi
      omega
theorem rest_bd (hW : 0 < W) (ht : 0 ≤ t) (htW : t ≤ W) (hs : sumF z n = W) (i : Nat) : -1 ≤ z i - part t W z n i - part (W - t) W z n i ∧ z i - part t W z n i - part (W - t) W z n i ≤ 1 := by
  have h1 := Int.mul_ediv_add_emod (t * z i) W
  have h2 := Int.mul_ediv_add_emod ((W - t) * z i) W
  have r1 := rem_bd (t := t) (z := z) hW i
  have r2 := rem_bd (t := W - t) (z := z) hW i
  have h3 : (W - t) * z i = W * z i - t * z i := by rw [Int.sub_mul]
  have h4 : W * (z i - quo t W z i - quo (W - t) W z i) = rem t W z i + rem (W - t) W z i := by
    unfold quo rem at *
    rw [Int.mul_sub, Int.mul_sub]
    omega
  generalize hd : z i - quo t W z i - quo (W - t) W z i = d at h4
  have d0 : 0 ≤ d := by
    refine Int.le_of_mul_le_mul_left (a := W) ?_ hW
    rw [Int.mul_zero]; omega
  have d1 : d < 2 := by
    refine Int.lt_of_mul_lt_mul_left (a := W) ?_ (by omega)
    omega
  have hdd : d = 0 ∨ d = 1 := by omega
  cases hu : upB t W z n i with
  | true =>
    have p1 := up_pos hW hs hu
    rw [part_up hu]
    cases hv : upB (W - t) W z n i with
    | true =>
      have p2 := up_pos hW hs hv
      rw [part_up hv]
      rcases hdd with rfl | rfl
      · rw [Int.mul_zero] at h4; omega
      · omega
    | false => rw [part_down hv]; omega
  | false =>
    rw [part_down hu]
    cases hv : upB (W - t) W z n i with
    | true =>
      have p2 := up_pos hW hs hv
      rw [part_up hv]
      omega
    | false => rw [part_down hv]; omega
theorem part_full (hW : 0 < W) (hs : sumF z n = W) (i : Nat) : part W W z n i = z i := by
  have hq : quo W W z i = z i := by unfold quo; rw [Int.mul_ediv_cancel_left _ (by omega)]
  have hr : rem W W z i = 0 := by unfold rem; rw [Int.mul_emod_right]
  cases hu : upB W W z n i with
  | true => have := up_pos hW hs hu; omega
  | false => rw [part_down hu, hq]
end

/-- What the loops need. -/
structure Facts (t : Int) (zs : List Int) : Prop where
  full : shareB (tot zs) zs = true
  none : shareB 0 zs = true
  left : shareB (tot zs - t) zs = true
  all : (List.range zs.length).map (shareF (tot zs) zs) = zs
  zero : ∀ i, shareF 0 zs i = 0
  rest : ∀ i, -1 ≤ zf zs i - shareF t zs i - shareF (tot zs - t) zs i ∧ zf zs i - shareF t zs i - shareF (tot zs - t) zs i ≤ 1
  mono : ∀ i k, zf zs k < zf zs i → shareF t zs k ≤ shareF t zs i
  bd : ∀ i, (0 ≤ zf zs i ∧ zf zs i ≤ 1125899906842624) ∧ (0 ≤ shareF t zs i ∧ shareF t zs i ≤ 1125899906842625) ∧ (0 ≤ shareF (tot zs - t) zs i ∧ shareF (tot zs - t) zs i ≤ 1125899906842625)
theorem part_bd {t : Int} {zs : List Int} (hb : shareB t zs = true) (i : Nat) : 0 ≤ shareF t zs i ∧ shareF t zs i ≤ 1125899906842625 := by
  have h := exactShares.one hb i
  unfold shareF
  cases hu : upB t (tot zs) (zf zs) zs.length i with
  | true => rw [part_up hu]; omega
  | false => rw [part_down hu]; omega
theorem zf_bd {t : Int} {zs : List Int} (hb : shareB t zs = true) (i : Nat) : 0 ≤ zf zs i ∧ zf zs i ≤ 1125899906842624 := by
  have h := exactShares.one hb i
  omega
theorem zf_zero {zs : List Int} (hn : Nonneg zs) (h0 : tot zs = 0) (i : Nat) : zf zs i = 0 := by
  have h1 := hn.getD i
  have h2 : zs.getD i 0 ≤ tot zs := by
    rw [List.getD_eq_getElem?_getD]
    by_cases hi : i < zs.length
    · rw [List.getElem?_eq_getElem hi]; exact nonneg_le hn _ (List.getElem_mem hi)
    · rw [List.getElem?_eq_none (by omega)]; simpa using nonneg_tot hn
  unfold zf
  omega
theorem facts {t : Int} {zs : List Int} (hb : shareB t zs = true) : Facts t zs := by
  obtain ⟨b1, b2, b3⟩ := of_decide_eq_true hb
  obtain ⟨c1, c2, c3⟩ := of_wholeB b1
  have hT := nonneg_tot c2
  have f1 : shareB (tot zs) zs = true := decide_eq_true ⟨b1, hT, Int.le_refl _⟩
  have f2 : shareB 0 zs = true := decide_eq_true ⟨b1, Int.le_refl _, hT⟩
  have f3 : shareB (tot zs - t) zs = true := decide_eq_true ⟨b1, by omega, by omega⟩
  have hs := sumF_all zs
  have hall : ∀ i, shareF (tot zs) zs i = zf zs i := by
    intro i
    by_cases h0 : tot zs = 0
    · rw [h0, shareF_zero zs h0, zf_zero c2 h0]
    · exact part_full (z := zf zs) (by omega) hs i
  have hzero : ∀ i, shareF 0 zs i = 0 := by
    intro i
    by_cases h0 : tot zs = 0
    · exact shareF_zero zs h0 i
    · have hu : upB 0 (tot zs) (zf zs) zs.length i = false := by
        cases hu : upB 0 (tot zs) (zf zs) zs.length i with
        | false => rfl
        | true =>
          have := up_pos (z := zf zs) (by omega) hs hu
          unfold rem at this
          simp at this
      unfold shareF
      rw [part_down hu]
      unfold quo
      simp
  refine ⟨f1, f2, f3, ?_, hzero, ?_, ?_, fun i => ⟨zf_bd hb i, part_bd hb i, part_bd f3 i⟩⟩
  · apply List.ext_getElem
    · simp
    · intro i h1 h2
      rw [List.getElem_map, List.getElem_range, hall]
      unfold zf
      rw [List.getD_eq_getElem?_getD, List.getElem?_eq_getElem h2]
      rfl
  · intro i
    by_cases h0 : tot zs = 0
    · obtain rfl : t = 0 := by omega
      rw [h0, Int.sub_zero, shareF_zero zs h0, zf_zero c2 h0]
      decide
    · exact rest_bd (z := zf zs) (by omega) b2 b3 hs i
  · intro i k h
    by_cases h0 : tot zs = 0
    · rw [zf_zero c2 h0, zf_zero c2 h0] at h; omega
    · exact part_mono (z := zf zs) (by omega) b2 hs h

set_option maxHeartbeats 1600000 in
set_option maxRecDepth 100000 in
/-- There is no division. -/
theorem walk_none (t : Int) (v : Value) (zs : List Int) (w : World) (hr : Reads w v zs) (hb : shareB t zs = false) : Calls Try.prog 6 #[.int .i64 t, v] w (IsTrue w) := by
  have hsb := of_decide_eq_false hb
  clear hb
  cases hwh : wholeB zs with
  | false =>
    clear hsb
    go_enter Try.func6, Try.ntmps6
    go_wp2_with fail
    refine (small_any _).mono ?_
    rintro e w1 ⟨rfl, hbel⟩
    have R1 := Lib.hid (hr.below hbel)
    have HBEL := Lib.hid hbel
    clear hbel
    go_wp2_with fail
    refine (lwhole_f R1.out hwh).mono ?_
    rintro e w2 ⟨rfl, rfl⟩
    clear hwh
    go_wp2_with fail
    go_ret
    exact ⟨rfl, HBEL.out⟩
  | true =>
    have H0 := Lib.hid hwh
    by_cases h0 : t < 0
    · have d0 : decide (t < 0) = true := decide_eq_true h0
      clear hsb hwh h0
      go_enter Try.func6, Try.ntmps6
      go_wp2_with fail
      refine (small_any _).mono ?_
      rintro e w1 ⟨rfl, hbel⟩
      have R1 := Lib.hid (hr.below hbel)
      have HBEL := Lib.hid hbel
      clear hbel
      go_wp2_with fail
      refine (lwhole_t R1.out H0.out).mono ?_
      rintro e w2 ⟨rfl, rfl⟩
      go_wp2_with fail
      go_ret
      exact ⟨rfl, HBEL.out⟩
    · have d0 : decide (t < 0) = false := decide_eq_false h0
      have d1 : decide (tot zs < t) = true := decide_eq_true (by
        apply Decidable.byContradiction
        intro h
        exact hsb ⟨hwh, by omega, by omega⟩)
      clear hsb hwh h0
      go_enter Try.func6, Try.ntmps6
      go_wp2_with fail
      refine (small_any _).mono ?_
      rintro e w1 ⟨rfl, hbel⟩
      have R1 := Lib.hid (hr.below hbel)
      have HBEL := Lib.hid hbel
      clear hbel
      go_wp2_with fail
      refine (lwhole_t R1.out H0.out).mono ?_
      rintro e w2 ⟨rfl, rfl⟩
      go_wp2_with fail
      go_ret
      exact ⟨rfl, HBEL.out⟩

set_option maxHeartbeats 3200000 in
set_option maxRecDepth 100000 in
/-- There is a division, and a weight. -/
theorem walk_some (t : Int) (zs : List Int) (b off c : Nat) (w : World) (hr : Reads w (.slice (some ⟨b, off, none⟩) zs.length c) zs)
    (hbl : b < w.heap.size) (hc : ∀ j, j < zs.length → w.cell? ⟨b, off + j, none⟩ = some (.int .i64 (zs.getD j 0))) (hb : shareB t zs = true) :
    Calls Try.prog 6 #[.int .i64 t, .slice (some ⟨b, off, none⟩) zs.length c] w (IsTrue w) := by
  obtain ⟨b1, b2, b3⟩ := of_decide_eq_true hb
  have hF := facts hb
  have HF := Lib.hid hF
  have HB := Lib.hid hb
  have HR := Lib.hid hr
  have HC := Lib.hid hc
  have HW := Lib.hid b1
  have hVV := (of_wholeB b1).2.2
  have d0 : decide (t < 0) = false := decide_eq_false (by omega)
  have d1 : decide (tot zs < t) = false := decide_eq_false (by omega)
  have hlen : zs.length ≤ 64 := (of_wholeB b1).1
  have hfit := hr.2.1
  have HFIT := Lib.hid hfit
  clear hb hr hc b1 hF hfit
  go_enter Try.func6, Try.ntmps6
  go_wp2_with fail
  refine (small_any _).mono ?_
  rintro e w1 ⟨rfl, hbel⟩
  have R1 := Lib.hid (HR.out.below hbel)
  have HBEL1 := Lib.hid hbel
  clear hbel
  go_wp2_with fail
  refine (lwhole_t R1.out HW.out).mono ?_
  rintro e w2 ⟨rfl, rfl⟩
  go_wp2_with fail
  refine (share_yes R1.out HB.out).mono ?_
  rintro e w2 ⟨rfl, own, hb2⟩
  have OX := Lib.hid own
  have HB2 := Lib.hid hb2
  have R2 := Lib.hid (R1.out.below hb2)
  clear own hb2
  go_wp2_with fail
  refine (share_yes R2.out HF.out.full).mono ?_
  rintro e w3 ⟨rfl, own, hb3⟩
  have OY := Lib.hid own
  have HB3 := Lib.hid hb3
  have R3 := Lib.hid (R2.out.below hb3)
  clear own hb3
  go_wp2_with fail
  refine (share_yes R3.out HF.out.none).mono ?_
  rintro e w4 ⟨rfl, own, hb4⟩
  have OZ := Lib.hid own
  have HB4 := Lib.hid hb4
  have R4 := Lib.hid (R3.out.below hb4)
  clear own hb4
  go_wp2_with fail
  refine (share_yes R4.out HF.out.left).mono ?_
  rintro e w5 ⟨rfl, own, hb5⟩
  have OU := Lib.hid own
  have HB5 := Lib.hid hb5
  have R5 := Lib.hid (R4.out.below hb5)
  clear own hb5
  go_wp2_with fail
  refine (same_true (xs := zs) ?_ R5.out).mono ?_
  · exact (own_range OY.out HF.out.all (by omega) HFIT.out _).below (bon HB4.out HB5.out)
  rintro e w6 ⟨rfl, m6, rfl⟩
  have HALL := Lib.hid (bon HBEL1.out (bon HB2.out (bon HB3.out (bon HB4.out HB5.out))))
  have hX : Own w5 w1.heap.size zs.length (shareF t zs) := Own.below OX.out (bon HB3.out (bon HB4.out HB5.out))
  have hZ : Own w5 w3.heap.size zs.length (shareF 0 zs) := Own.below OZ.out HB5.out
  have OX5 := Lib.hid hX
  have OZ5 := Lib.hid hZ
  clear hX hZ
  go_wp2_with fail
  go_loopw [16] (fun i wr => ∃ k : Nat, k ≤ zs.length ∧ i = .int .i64 k ∧ ∃ m, wr = w5.drewN m) (fun i _ => zs.length - (intOf i).toNat)
  case atStart => exact ⟨0, Nat.zero_le _, rfl, _, rfl⟩
  case round =>
    obtain ⟨k, hk, rfl, m, rfl⟩ := hrel
    by_cases hlt : k < zs.length
    · have cl : ∀ j, j < zs.length → w5.cell? ⟨b, off + j, none⟩ = some (.int .i64 (zf zs j)) := fun j hj => (HALL.out.cell (p := ⟨b, off + j, none⟩) hbl).trans (HC.out j hj)
      have CL := Lib.hid cl
      have cl1 := cl k hlt
      have cx := OX5.out.cell hlt
      have cz := OZ5.out.cell hlt
      have cu := OU.out.cell hlt
      rw [HF.out.zero] at cz
      obtain ⟨h1, h2⟩ := HF.out.rest k
      obtain ⟨h3, h4, h5⟩ := HF.out.bd k
      clear cl
      have e1 : decide (zf zs k - shareF t zs k - shareF (tot zs - t) zs k < -1) = false := decide_eq_false (by omega)
      have e2 : decide (1 < zf zs k - shareF t zs k - shareF (tot zs - t) zs k) = false := decide_eq_false (by omega)
      have i1 : IntKind.i64.wrap (zf zs k - shareF t zs k) = zf zs k - shareF t zs k := wrap_in (by unfold I64; omega)
      have i2 : IntKind.i64.wrap (zf zs k - shareF t zs k - shareF (tot zs - t) zs k) = zf zs k - shareF t zs k - shareF (tot zs - t) zs k := wrap_in (by unfold I64; omega)
      generalize shareF (tot zs - t) zs k = uk at *
      have HMONO := Lib.hid (fun j => HF.out.mono k j)
      generalize hx : shareF t zs k = xk at *
      generalize hz : zf zs k = zk at *
      have HX := Lib.hid hx
      have HZ := Lib.hid hz
      clear hx hz
      go_wp2_with fail
      go_quiet (fail)
      go_wp2_with fail
      obtain ⟨wo, hwo⟩ : ∃ wo : World, wo = w5 := ⟨_, rfl⟩
      go_loopw [18] (fun i wr => ∃ k2 : Nat, k2 ≤ zs.length ∧ i = .int .i64 k2 ∧ ∃ m, wr = w5.drewN m) (fun i _ => zs.length - (intOf i).toNat)
      case atStart => exact ⟨0, Nat.zero_le _, rfl, _, rfl⟩
      case round =>
        obtain ⟨k2, hk2, rfl, m2, rfl⟩ := hrel
        by_cases hlt2 : k2 < zs.length
        · have cl2 := CL.out k2 hlt2
          have cx2 := OX5.out.cell hlt2
          have hm := HMONO.out k2
          generalize zf zs k2 = z2 at *
          generalize shareF t zs k2 = x2 at *
          by_cases hg : z2 < zk
          · have d1 : decide (z2 < zk) = true := decide_eq_true hg
            have d2 : decide (xk < x2) = false := decide_eq_false (by have := hm hg; omega)
            clear hm hg
            go_wp2_with fail
            go_quiet (fail)
            go_wp2_with fail
            go_roundw
            case rel => exact ⟨k2 + 1, by omega, by go_num, _, rfl⟩
            case measure => simp [intOf]; omega
          · have d1 : decide (z2 < zk) = false := decide_eq_false hg
            clear hm hg
            go_wp2_with fail
            go_quiet (fail)
            go_wp2_with fail
            go_roundw
            case rel => exact ⟨k2 + 1, by omega, by go_num, _, rfl⟩
            case measure => simp [intOf]; omega
        · obtain rfl : k2 = zs.length := by omega
          go_wp2_with fail
          go_roundw
          case rel => exact ⟨k + 1, by omega, by go_num, _, rfl⟩
          case measure => simp [intOf]; omega
    · obtain rfl : k = zs.length := by omega
      go_wp2_with fail
      go_ret
      exact ⟨rfl, bon HALL.out (self_drewN _ _)⟩

set_option maxHeartbeats 1600000 in
set_option maxRecDepth 100000 in
/-- There is a division of nothing. -/
theorem walk_nil (a : Option Addr) (c : Nat) (w : World) : Calls Try.prog 6 #[.int .i64 0, .slice a 0 c] w (IsTrue w) := by
  go_enter Try.func6, Try.ntmps6
  go_wp2_with fail
  refine (small_any _).mono ?_
  rintro e w1 ⟨rfl, hbel⟩
  have HBEL := Lib.hid hbel
  clear hbel
  go_wp2_with fail
  refine (lwhole_none a c _).mono ?_
  rintro e w2 ⟨rfl, rfl⟩
  go_wp2_with fail
  refine (share_nil a c _).mono ?_
  rintro e w2 ⟨rfl, rfl⟩
  go_wp2_with fail
  refine (share_nil a c _).mono ?_
  rintro e w2 ⟨rfl, rfl⟩
  go_wp2_with fail
  refine (share_nil a c _).mono ?_
  rintro e w2 ⟨rfl, rfl⟩
  go_wp2_with fail
  refine (share_nil a c _).mono ?_
  rintro e w2 ⟨rfl, rfl⟩
  go_wp2_with fail
  refine (same_none _ a _ c _).mono ?_
  rintro e w2 ⟨rfl, rfl⟩
  go_wp2_with fail
  refine wp_loop_rounds 1 ?_
  rw [rounds_succ]
  go_wp2_with fail
  go_ret
  exact ⟨rfl, bon HBEL.out (bon (bon (bon (self_alloc _ _) (self_alloc _ _)) (self_alloc _ _)) (self_alloc _ _))⟩

theorem walk (t : Int) (ht : I64 t) {v : Value} {zs : List Int} {w : World} (hr : Reads w v zs) : Calls Try.prog 6 #[.int .i64 t, v] w (IsTrue w) := by
  cases hb : shareB t zs with
  | false => exact walk_none t v zs w hr hb
  | true =>
    have hr' := hr
    obtain ⟨h1, h2, h3⟩ := hr
    rcases h3 with ⟨rfl, a, c, rfl⟩ | ⟨b, off, c, rfl, hbl, hc⟩
    · obtain ⟨b1, b2, b3⟩ := of_decide_eq_true hb
      have b3' : t ≤ 0 := b3
      obtain rfl : t = 0 := by omega
      exact walk_nil a c w
    · exact walk_some t zs b off c w hr' hbl hc hb

theorem own : ownKnob Try.prog.godebug = none := by kernel_rfl
theorem laidOut : laidOutB Try.prog = true := by kernel_rfl
theorem cellsInt : Try.prog.cellsOf 3 = 1 := by kernel_rfl
theorem bytesInt : Try.prog.bytesOf 3 = 8 := by kernel_rfl

set_option maxRecDepth 100000 in
theorem lifted (os : Os) (started : os.Started) (H : Type) (enc : TypeId × Value → H) :
    ReturnsInHanded {} Try.checked os 6 .any (Rows.exactOrdersSpec.pre6 enc Try.prog Try.f6 Rows.exactOrdersRow.domain false) (Rows.exactOrdersSpec.post enc Try.prog Try.f6 false true false false) := by
  refine returnsInHanded_of_change_sized (C := Try.checked) own started (by kernel_rfl) Try.func6
    (ChangeSpec.witness6 (enc := enc) (C := Try.checked) false ⟨#[], #[.int .i64 0, .slice none 0 0], []⟩ 8 (by kernel_rfl) (by kernel_rfl) (by kernel_rfl) (by kernel_rfl)) ?_
  intro W base args ds gs before hval0 hW hcnd hsz0 _
  have hsz : (DataW.weightsEach Try.prog (Try.f6.params.toList ++ Rows.exactOrdersSpec.plain.varTypes Try.prog) (ds ++ gs)).all (· ≤ reachBytes) = true := hsz0
  clear hsz0
  have hval : ∀ (j : Nat) t v, Try.f6.params[j]? = some t → args[j]? = some v → Value.okWide Try.prog W .any base t v := hval0
  have hW' := hW
  obtain ⟨p, q, hA0, hV, rfl, hfz, hnd⟩ := hW
  have hA : DataW.TrodAll enc Try.prog W 0 (fun _ => true) true Try.f6.params.toList args.toList ds p := hA0
  rw [Try.params6] at hA hval hsz
  obtain ⟨v0, vs0, d0, ds0, p0, q0, hargs, rfl, rfl, h0, r0⟩ := trodAll_cons hA
  obtain ⟨v1, vs1, d1, ds1, p1, q1, rfl, rfl, rfl, h1, r1⟩ := trodAll_cons r0
  obtain ⟨rfl, rfl, rfl⟩ := trodAll_nil r1
  obtain rfl : args = #[v0, v1] := by cases args; simp_all
  obtain ⟨rfl, rfl⟩ := trodVars_none hV
  obtain ⟨a0, rfl, rfl, rfl, w0⟩ := open_int Try.underlying3 (hval 0 3 v0 rfl rfl) h0
  clear hA0 hval0
  simp only [List.append_nil] at hW'
  have hlt : ∀ x ∈ p1, x.block < W.heap.size := fun x hx => by simpa using hW'.lt x (by simpa using hx)
  obtain ⟨b1, len1, cap1, rfl⟩ := okWide_slice Try.underlying22 (hval 1 22 v1 rfl rfl)
  have hk1 := h1
  have hlt1 : ∀ x ∈ p1, x.block < W.heap.size := fun x hx => hlt x (by simp [hx])
  have trod1 : ∀ (W' : World), Below W.heap.size W W' → DataW.Trod enc Try.prog W' 0 (fun b => decide (b < W.heap.size)) true 22 (.slice b1 len1 cap1) d1 p1 :=
    fun W' hn => Below.trod laidOut (by kernel_rfl) (of_decide_eq_true (by kernel_rfl)) hk1 hn hlt1
  have reads1 : ∃ z1, Reads W (.slice b1 len1 cap1) z1 := by
    obtain ⟨fuel, hf⟩ := h1
    rcases open_ints Try.underlying22 Try.underlying3 cellsInt hf with ⟨hcs, hx⟩ | ⟨a, len, cap, zs, hcs, _, hl, hm, hz, hx, hcell, hwz⟩
    · simp [Value.cells] at hcs
      obtain ⟨rfl, rfl, rfl⟩ := hcs
      exact ⟨[], by decide, fun x hx => absurd hx List.not_mem_nil, .inl ⟨rfl, _, _, rfl⟩⟩
    · simp [Value.cells] at hcs
      obtain ⟨rfl, rfl, rfl⟩ := hcs
      simp only [Prod.mk.injEq] at hx
      obtain ⟨rfl, rfl⟩ := hx
      simp only [if_true] at hz
      have hreach : len1 * 8 ≤ 140737488351232 := by
        have := sized_slice hsz (j := 1) (t := 22) (e := 3) rfl rfl Try.underlying22
        rw [bytesInt] at this
        simp only [lits, List.length_map, List.length_take, List.length_drop, reachBytes] at this
        omega
      exact ⟨zs.take len1, reads_mk hreach hl hz hcell hwz (fun b off ha h0 => hlt1 (.cell b off) (by rw [ha]; exact MemPlace.mem_row.2 ⟨0, by omega, by simp⟩))⟩
  obtain ⟨z1, k1⟩ := reads1
  refine (walk (w := W) a0 (i64_of_wf w0) k1).mono fun e W' ⟨he, hb⟩ => ?_
  subst he
  exact ⟨_, rfl, _, _, _, [], _, [], hW', (trodAll_cons_mk (shut_bool Try.underlying4 _) trodAll_mk0), (trodAll_cons_mk (shut_int Try.underlying3 w0) (trodAll_cons_mk (trod1 _ hb) trodAll_mk0)), rfl, hb.frame _, fun h => by cases h⟩

theorem over : Rows.exactOrdersRow.holds Try.pinned (OpenSpec.ofChange Rows.exactOrdersSpec) :=
  OpenClaim.holds_of_wide 6 Try.f6 rfl rfl rfl rfl rfl rfl rfl ⟨rfl, rfl, rfl, rfl, rfl⟩ rfl rfl rfl rfl rfl (by kernel_rfl) Try.func6 (by kernel_rfl)
    (of_decide_eq_true (by kernel_rfl)) (by unfold Func.isWrapper; first | (rw [if_pos (by decide +kernel)]; kernel_rfl) | (rw [if_neg (by decide +kernel)]; exact ⟨rfl, rfl⟩))
    (fun os started H enc _ => lifted os started H enc)

theorem proved : Rows.ExactOrdersSaid := over
end Go.Proofs.Ytbpibdjmffhmpaa.exactOrders
