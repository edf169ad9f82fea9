/- The statement ExactShares: a division exists exactly within the limits; the parts sum to the total, each is its proportion rounded down or up and at most its weight, and those rounded up come first in the order of the remainders. Conditions: none. -/
import Derived.Test.YtbpibdjmffhmpaaUp
import Derived.Deep.DeepCutAuto
namespace Go.Proofs.Ytbpibdjmffhmpaa.exactShares
open Go.ChangeShapes Go.WideShapes Go.ChangeAt Go.RowKit Mth
open Go.Proofs.Ytbpibdjmffhmpaa
set_option linter.unusedVariables false

set_option maxHeartbeats 1600000 in
set_option maxRecDepth 100000 in
/-- There is no division. -/
theorem walk_none (t : Int) (ht : I64 t) (v : Value) (zs : List Int) (w : World) (hr : Reads w v zs) (hb : shareB t zs = false) : Calls Try.prog 5 #[.int .i64 t, v] w (IsTrue w) := by

  have hsb := of_decide_eq_false hb
  cases hwh : wholeB zs with
  | false =>
    go_enter Try.func5, Try.ntmps5
    go_wp2_with fail
    refine (small_any _).mono ?_
    rintro e w1 ⟨rfl, hbel⟩
    have R1 := Lib.hid (hr.below hbel)
    have HBEL := Lib.hid hbel
    clear hbel
    go_wp2_with fail
    refine (lwhole_f R1.out hwh).mono ?_
    rintro e w2 ⟨rfl, rfl⟩
    go_wp2_with fail
    refine (share_no R1.out hb).mono ?_
    rintro e w2 ⟨rfl, rfl⟩
    clear hb hsb hwh
    go_wp2_with fail
    go_ret
    exact ⟨rfl, HBEL.out⟩
  | true =>
    by_cases h0 : t < 0
    · have d0 : decide (0 ≤ t) = false := decide_eq_false (by omega)
      go_enter Try.func5, Try.ntmps5
      go_wp2_with fail
      refine (small_any _).mono ?_
      rintro e w1 ⟨rfl, hbel⟩
      have R1 := Lib.hid (hr.below hbel)
      have HBEL := Lib.hid hbel
      clear hbel h0
      go_wp2_with fail
      refine (lwhole_t R1.out hwh).mono ?_
      rintro e w2 ⟨rfl, rfl⟩
      go_wp2_with fail
      refine (share_no R1.out hb).mono ?_
      rintro e w2 ⟨rfl, rfl⟩
      clear hb hsb hwh
      go_wp2_with fail
      go_ret
      exact ⟨rfl, HBEL.out⟩
    · have d0 : decide (0 ≤ t) = true := decide_eq_true (by omega)
      have h1 : ¬ t ≤ tot zs := fun h => hsb ⟨hwh, by omega, h⟩
      have d1 : decide (t ≤ tot zs) = false := decide_eq_false h1
      clear h0 h1
      go_enter Try.func5, Try.ntmps5
      go_wp2_with fail
      refine (small_any _).mono ?_
      rintro e w1 ⟨rfl, hbel⟩
      have R1 := Lib.hid (hr.below hbel)
      have HBEL := Lib.hid hbel
      clear hbel
      go_wp2_with fail
      refine (lwhole_t R1.out hwh).mono ?_
      rintro e w2 ⟨rfl, rfl⟩
      go_wp2_with fail
      refine (share_no R1.out hb).mono ?_
      rintro e w2 ⟨rfl, rfl⟩
      clear hb hsb hwh
      go_wp2_with fail
      go_ret
      exact ⟨rfl, HBEL.out⟩

theorem up_zero {z : Nat → Int} {n i : Nat} : upB 0 0 z n i = false := by
  refine decide_eq_false ?_
  have hq : ∀ i, quo 0 0 z i = 0 := fun i => by unfold quo; simp
  have hs : ∀ n, sumF (quo 0 0 z) n = 0 := fun n => by
    induction n with
    | zero => rfl
    | succ n ih => rw [sumF, ih, hq]; rfl
  unfold over
  rw [hs]
  omega

/-- What the loop needs of one index. -/
theorem one {t : Int} {zs : List Int} (hb : shareB t zs = true) (i : Nat) :
    scB t (zf zs i) (max (tot zs) 1) = true ∧ scQ t (zf zs i) (max (tot zs) 1) = quo t (tot zs) (zf zs) i ∧ scR t (zf zs i) (max (tot zs) 1) = rem t (tot zs) (zf zs) i ∧
    (0 ≤ rem t (tot zs) (zf zs) i ∧ rem t (tot zs) (zf zs) i ≤ 1125899906842624) ∧ (0 ≤ quo t (tot zs) (zf zs) i ∧ quo t (tot zs) (zf zs) i ≤ zf zs i) ∧ zf zs i ≤ 1125899906842624 ∧
    (upB t (tot zs) (zf zs) zs.length i = true → quo t (tot zs) (zf zs) i + 1 ≤ zf zs i ∧ rem t (tot zs) (zf zs) i ≠ 0) := by
  obtain ⟨b1, b2, b3⟩ := of_decide_eq_true hb
  obtain ⟨c1, c2, c3⟩ := of_wholeB b1
  have hz0 : 0 ≤ zf zs i := c2.getD i
  have hz1 : zf zs i ≤ tot zs := by
    unfold zf
    rw [List.getD_eq_getElem?_getD]
    by_cases hi : i < zs.length
    · rw [List.getElem?_eq_getElem hi]; exact nonneg_le c2 _ (List.getElem_mem hi)
    · rw [List.getElem?_eq_none (by omega)]; simpa using nonneg_tot c2
  by_cases h0 : tot zs = 0
  · obtain rfl : t = 0 := by omega
    have hz : zf zs i = 0 := by omega
    have e1 : quo 0 (tot zs) (zf zs) i = 0 := by unfold quo; simp
    have e2 : rem 0 (tot zs) (zf zs) i = 0 := by unfold rem; simp
    rw [e1, e2, hz, h0, up_zero]
    exact ⟨by decide, by decide, by decide, by decide, by decide, by decide, fun h => absurd h (by decide)⟩
  · have hW : 0 < tot zs := by have := nonneg_tot c2; omega
    have hm : max (tot zs) 1 = tot zs := by omega
    rw [hm]
    obtain ⟨s1, s2, s3⟩ := sc_ok b2 b3 hW c3 hz0 hz1
    have hs := sumF_all zs
    have r1 := rem_bd (t := t) (z := zf zs) hW i
    have q1 := quo_le (z := zf zs) (i := i) hW b3 hz0
    refine ⟨s1, s2, s3, ⟨r1.1, by omega⟩, ⟨quo_nonneg hW b2 hz0, q1⟩, by omega, fun hu => ⟨up_le hW b3 hs hz0 hu, by have := up_pos (z := zf zs) hW hs hu; omega⟩⟩

/-- the parts' sum -/
theorem share_sum {t : Int} {zs : List Int} (hb : shareB t zs = true) : sumF (shareF t zs) zs.length = t := by
  obtain ⟨b1, b2, b3⟩ := of_decide_eq_true hb
  obtain ⟨c1, c2, c3⟩ := of_wholeB b1
  by_cases h0 : tot zs = 0
  · obtain rfl : t = 0 := by omega
    rw [sumF_congr (g := fun _ => 0) (fun i _ => shareF_zero zs h0 i)]
    generalize zs.length = n
    induction n with
    | zero => rfl
    | succ n ih => rw [sumF, ih]; rfl
  · exact part_sum (by have := nonneg_tot c2; omega) b2 b3 (sumF_all zs)

def Seen (t : Int) (zs : List Int) (up : Bool) (r l : Int) : Prop := r = -1 ∨ ∃ u : Nat, u < zs.length ∧ upB t (tot zs) (zf zs) zs.length u = up ∧ r = rem t (tot zs) (zf zs) u ∧ l = (u : Int)
theorem seen_end {t : Int} {zs : List Int} {a b c d : Int} (h1 : Seen t zs true a b) (h2 : Seen t zs false c d) : a = -1 ∨ c = -1 ∨ c < a ∨ a = c ∧ b < d := by
  rcases h1 with h1 | ⟨u, _, u1, u2, u3⟩
  · exact .inl h1
  · rcases h2 with h2 | ⟨v, _, v1, v2, v3⟩
    · exact .inr (.inl h2)
    · right; right
      have := of_decide_eq_true (up_bef u1 v1)
      omega
theorem sumF_bd {t : Int} {zs : List Int} (hb : shareB t zs = true) (k : Nat) (hk : k ≤ zs.length) : 0 ≤ sumF (shareF t zs) k ∧ sumF (shareF t zs) k ≤ 1125899906842624 := by
  obtain ⟨b1, b2, b3⟩ := of_decide_eq_true hb
  obtain ⟨c1, c2, c3⟩ := of_wholeB b1
  have hn : ∀ i, 0 ≤ shareF t zs i := fun i => by
    have h := one hb i
    unfold shareF
    cases hu : upB t (tot zs) (zf zs) zs.length i with
    | true => rw [part_up hu]; omega
    | false => rw [part_down hu]; omega
  have h1 := sumF_mono (f := shareF t zs) (fun i _ => hn i) hk
  rw [share_sum hb] at h1
  exact ⟨sumF_nonneg (fun i _ => hn i), by omega⟩

set_option maxHeartbeats 1600000 in
set_option maxRecDepth 100000 in
/-- There is a division, and a weight. -/
theorem walk_some (t : Int) (zs : List Int) (b off c : Nat) (w : World) (hr : Reads w (.slice (some ⟨b, off, none⟩) zs.length c) zs)
    (hbl : b < w.heap.size) (hc : ∀ j, j < zs.length → w.cell? ⟨b, off + j, none⟩ = some (.int .i64 (zs.getD j 0))) (hb : shareB t zs = true) :
    Calls Try.prog 5 #[.int .i64 t, .slice (some ⟨b, off, none⟩) zs.length c] w (IsTrue w) := by
  obtain ⟨b1, b2, b3⟩ := of_decide_eq_true hb
  have HB := Lib.hid hb
  have HR := Lib.hid hr
  have HC := Lib.hid hc
  have HW := Lib.hid b1
  have d0 : decide (0 ≤ t) = true := decide_eq_true b2
  have d1 : decide (t ≤ tot zs) = true := decide_eq_true b3
  have hlen : zs.length ≤ 64 := (of_wholeB b1).1
  have hone := fun i => one hb i
  have HONE := Lib.hid hone
  have hsc := fun i W => scale_any t (zf zs i) (max (tot zs) 1) W
  have HSC := Lib.hid hsc
  have hss := fun k hk => sumF_bd hb k hk
  have HSS := Lib.hid hss
  clear hb hr hc b1 b2 b3 hone hsc hss
  go_enter Try.func5, Try.ntmps5
  go_wp2_with fail
  refine (small_any _).mono ?_
  rintro e w1 ⟨rfl, hbel⟩
  have R1 := Lib.hid (HR.out.below hbel)
  have HBEL := Lib.hid hbel
  clear hbel
  go_wp2_with fail
  refine (lwhole_t R1.out HW.out).mono ?_
  rintro e w2 ⟨rfl, rfl⟩
  go_wp2_with fail
  refine (share_yes R1.out HB.out).mono ?_
  rintro e w2 ⟨rfl, own, hb2⟩
  have OWN := Lib.hid own
  have HBEL2 := Lib.hid (bon HBEL.out hb2)
  clear own hb2
  generalize hT : tot zs = T at *
  have HT := Lib.hid hT
  clear hT
  go_wp2_with fail
  go_loopw [10, 11, 12, 13, 14, 15] (fun s wv lv bv fv i wr => ∃ k : Nat, k ≤ zs.length ∧ i = .int .i64 k ∧ s = .int .i64 (sumF (shareF t zs) k) ∧
      (∃ r l : Int, Seen t zs true r l ∧ wv = .int .i64 r ∧ lv = .int .i64 l) ∧ (∃ r l : Int, Seen t zs false r l ∧ bv = .int .i64 r ∧ fv = .int .i64 l) ∧ ∃ m, wr = w2.drewN m) (fun _ _ _ _ _ i _ => zs.length - (intOf i).toNat)
  case atStart => exact ⟨0, Nat.zero_le _, rfl, rfl, ⟨-1, 0, .inl rfl, rfl, rfl⟩, ⟨-1, 0, .inl rfl, rfl, rfl⟩, 0, rfl⟩
  case round =>
    obtain ⟨k, hk, rfl, rfl, ⟨r1, l1, seen1, rfl, rfl⟩, ⟨r2, l2, seen2, rfl, rfl⟩, m, rfl⟩ := hrel
    have S1 := Lib.hid seen1
    have S2 := Lib.hid seen2
    clear seen1 seen2
    by_cases hlt : k < zs.length
    · have cl : w2.cell? ⟨b, off + k, none⟩ = some (.int .i64 (zf zs k)) := (HBEL2.out.cell (p := ⟨b, off + k, none⟩) hbl).trans (HC.out k hlt)
      have cx := OWN.out.cell hlt
      obtain ⟨o1, o2, o3, o4, o5, o6, o7⟩ := HONE.out k
      have hsc := HSC.out k
      rw [o1, o2, o3] at hsc
      have HSCK := Lib.hid hsc
      have hsum : sumF (shareF t zs) (k + 1) = sumF (shareF t zs) k + shareF t zs k := rfl
      have hs1 := HSS.out k (by omega)
      have hs2 := HSS.out (k + 1) (by omega)
      rw [hsum] at hs2
      have HSUM := Lib.hid hsum
      clear hsc hsum o1 o2 o3
      generalize hz : zf zs k = z at *
      generalize hq : quo t T (zf zs) k = q at *
      generalize hrr : rem t T (zf zs) k = r at *
      have HQ := Lib.hid hq
      have HRR := Lib.hid hrr
      clear hz hq hrr
      cases hu : upB t T (zf zs) zs.length k with
      | true =>
        obtain ⟨u1, u2⟩ := o7 hu
        have hx : shareF t zs k = q + 1 := by
          have h := HT.out
          subst h
          rw [← HQ.out]
          exact part_up hu
        rw [hx] at cx hs2
        have HX := Lib.hid hx
        have HU := Lib.hid hu
        have SU : Seen t zs true r (k : Int) := by
          have h := HT.out
          subst h
          exact .inr ⟨k, hlt, HU.out, HRR.out.symm, rfl⟩
        have SUU := Lib.hid SU
        clear hx hu o7 SU
        generalize sumF (shareF t zs) k = s at *
        have e1 : (q + 1 == q) = false := beq_eq_false_iff_ne.2 (by omega)
        have e2 : (q + 1 != q) = true := bne_iff_ne.2 (by omega)
        have e3 : (q + 1 != q + 1) = false := by simp
        have e4 : decide (z < q + 1) = false := decide_eq_false (by omega)
        have e5 : (q + 1 == q + 1) = true := by simp
        have e6 : (r == 0) = false := beq_eq_false_iff_ne.2 u2
        by_cases hw1 : r1 < 0
        · have dw : decide (r1 < 0) = true := decide_eq_true hw1
          go_wp2_with fail
          refine (HSCK.out _).mono ?_
          rintro e w3 ⟨rfl, k3, rfl⟩
          go_wp2_with fail
          go_quiet (fail)
          go_wp2_with fail
          go_roundw
          case rel => exact ⟨k + 1, by omega, by go_num, by rw [HSUM.out, HX.out], ⟨r, k, SUU.out, rfl, rfl⟩, ⟨r2, l2, S2.out, rfl, rfl⟩, _, rfl⟩
          case measure => simp [intOf]; omega
        · have dw : decide (r1 < 0) = false := decide_eq_false hw1
          by_cases hw2 : r ≤ r1
          · have dw2 : decide (r ≤ r1) = true := decide_eq_true hw2
            go_wp2_with fail
            refine (HSCK.out _).mono ?_
            rintro e w3 ⟨rfl, k3, rfl⟩
            go_wp2_with fail
            go_quiet (fail)
            go_wp2_with fail
            go_roundw
            case rel => exact ⟨k + 1, by omega, by go_num, by rw [HSUM.out, HX.out], ⟨r, k, SUU.out, rfl, rfl⟩, ⟨r2, l2, S2.out, rfl, rfl⟩, _, rfl⟩
            case measure => simp [intOf]; omega
          · have dw2 : decide (r ≤ r1) = false := decide_eq_false hw2
            go_wp2_with fail
            refine (HSCK.out _).mono ?_
            rintro e w3 ⟨rfl, k3, rfl⟩
            go_wp2_with fail
            go_quiet (fail)
            go_wp2_with fail
            go_roundw
            case rel => exact ⟨k + 1, by omega, by go_num, by rw [HSUM.out, HX.out], ⟨r1, l1, S1.out, rfl, rfl⟩, ⟨r2, l2, S2.out, rfl, rfl⟩, _, rfl⟩
            case measure => simp [intOf]; omega
      | false =>
        have hx : shareF t zs k = q := by
          have h := HT.out
          subst h
          rw [← HQ.out]
          exact part_down hu
        rw [hx] at cx hs2
        have HX := Lib.hid hx
        have HU := Lib.hid hu
        have SD : Seen t zs false r (k : Int) := by
          have h := HT.out
          subst h
          exact .inr ⟨k, hlt, HU.out, HRR.out.symm, rfl⟩
        have SDD := Lib.hid SD
        clear hx hu o7 SD
        generalize sumF (shareF t zs) k = s at *
        have e1 : (q == q + 1) = false := beq_eq_false_iff_ne.2 (by omega)
        have e2 : (q != q + 1) = true := bne_iff_ne.2 (by omega)
        have e3 : (q != q) = false := by simp
        have e4 : decide (z < q) = false := decide_eq_false (by omega)
        have e5 : (q == q) = true := by simp
        by_cases hw1 : r2 < r
        · have dw : decide (r2 < r) = true := decide_eq_true hw1
          go_wp2_with fail
          refine (HSCK.out _).mono ?_
          rintro e w3 ⟨rfl, k3, rfl⟩
          go_wp2_with fail
          go_quiet (fail)
          go_wp2_with fail
          go_roundw
          case rel => exact ⟨k + 1, by omega, by go_num, by rw [HSUM.out, HX.out], ⟨r1, l1, S1.out, rfl, rfl⟩, ⟨r, k, SDD.out, rfl, rfl⟩, _, rfl⟩
          case measure => simp [intOf]; omega
        · have dw : decide (r2 < r) = false := decide_eq_false hw1
          go_wp2_with fail
          refine (HSCK.out _).mono ?_
          rintro e w3 ⟨rfl, k3, rfl⟩
          go_wp2_with fail
          go_quiet (fail)
          go_wp2_with fail
          go_roundw
          case rel => exact ⟨k + 1, by omega, by go_num, by rw [HSUM.out, HX.out], ⟨r1, l1, S1.out, rfl, rfl⟩, ⟨r2, l2, S2.out, rfl, rfl⟩, _, rfl⟩
          case measure => simp [intOf]; omega
    · obtain rfl : k = zs.length := by omega
      rw [share_sum HB.out]
      have hend := seen_end S1.out S2.out
      have hn1 : ∀ x : Int, (x != x) = false := fun x => by simp
      have e0 := hn1 t
      clear hn1
      have HEND := Lib.hid hend
      clear hend
      by_cases h1 : r1 < 0
      · have d1' : decide (r1 < 0) = true := decide_eq_true h1
        go_wp2_with fail
        go_ret
        exact ⟨rfl, bon HBEL2.out (self_drewN _ _)⟩
      · have d1' : decide (r1 < 0) = false := decide_eq_false h1
        by_cases h2 : r2 < 0
        · have d2' : decide (r2 < 0) = true := decide_eq_true h2
          go_wp2_with fail
          go_ret
          exact ⟨rfl, bon HBEL2.out (self_drewN _ _)⟩
        · have d2' : decide (r2 < 0) = false := decide_eq_false h2
          by_cases h3 : r2 < r1
          · have d3' : decide (r2 < r1) = true := decide_eq_true h3
            go_wp2_with fail
            go_ret
            exact ⟨rfl, bon HBEL2.out (self_drewN _ _)⟩
          · have d3' : decide (r2 < r1) = false := decide_eq_false h3
            have h4 : r1 = r2 ∧ l1 < l2 := by have := HEND.out; omega
            have d4' : (r1 == r2) = true := beq_iff_eq.2 h4.1
            have d5' : decide (l1 < l2) = true := decide_eq_true h4.2
            clear h4 h1 h2 h3
            go_wp2_with fail
            go_ret
            exact ⟨rfl, bon HBEL2.out (self_drewN _ _)⟩
set_option maxHeartbeats 1600000 in
set_option maxRecDepth 100000 in
/-- There is a division of nothing. -/
theorem walk_nil (a : Option Addr) (c : Nat) (w : World) (hr : Reads w (.slice a 0 c) []) : Calls Try.prog 5 #[.int .i64 0, .slice a 0 c] w (IsTrue w) := by
  have HR := Lib.hid hr
  clear hr
  go_enter Try.func5, Try.ntmps5
  go_wp2_with fail
  refine (small_any _).mono ?_
  rintro e w1 ⟨rfl, hbel⟩
  have R1 := Lib.hid (HR.out.below hbel)
  have HBEL := Lib.hid hbel
  clear hbel
  go_wp2_with fail
  refine (lwhole_none a c _).mono ?_
  rintro e w2 ⟨rfl, rfl⟩
  go_wp2_with fail
  refine (share_nil a c _).mono ?_
  rintro e w2 ⟨rfl, rfl⟩
  go_wp2_with fail
  refine wp_loop_rounds 1 ?_
  rw [rounds_succ]
  go_wp2_with fail
  go_ret
  exact ⟨rfl, bon HBEL.out (self_alloc _ _)⟩

theorem walk (t : Int) (ht : I64 t) {v : Value} {zs : List Int} {w : World} (hr : Reads w v zs) : Calls Try.prog 5 #[.int .i64 t, v] w (IsTrue w) := by
  cases hb : shareB t zs with
  | false => exact walk_none t ht v zs w hr hb
  | true =>
    have hr' := hr
    obtain ⟨h1, h2, h3⟩ := hr
    rcases h3 with ⟨rfl, a, c, rfl⟩ | ⟨b, off, c, rfl, hbl, hc⟩
    · obtain ⟨b1, b2, b3⟩ := of_decide_eq_true hb
      have b3' : t ≤ 0 := b3
      obtain rfl : t = 0 := by omega
      exact walk_nil a c w hr'
    · exact walk_some t zs b off c w hr' hbl hc hb

theorem own : ownKnob Try.prog.godebug = none := by kernel_rfl
theorem laidOut : laidOutB Try.prog = true := by kernel_rfl
theorem cellsInt : Try.prog.cellsOf 3 = 1 := by kernel_rfl
theorem bytesInt : Try.prog.bytesOf 3 = 8 := by kernel_rfl

set_option maxRecDepth 100000 in
theorem lifted (os : Os) (started : os.Started) (H : Type) (enc : TypeId × Value → H) :
    ReturnsInHanded {} Try.checked os 5 .any (Rows.exactSharesSpec.pre6 enc Try.prog Try.f5 Rows.exactSharesRow.domain false) (Rows.exactSharesSpec.post enc Try.prog Try.f5 false true false false) := by
  refine returnsInHanded_of_change_sized (C := Try.checked) own started (by kernel_rfl) Try.func5
    (ChangeSpec.witness6 (enc := enc) (C := Try.checked) false ⟨#[], #[.int .i64 0, .slice none 0 0], []⟩ 8 (by kernel_rfl) (by kernel_rfl) (by kernel_rfl) (by kernel_rfl)) ?_
  intro W base args ds gs before hval0 hW hcnd hsz0 _
  have hsz : (DataW.weightsEach Try.prog (Try.f5.params.toList ++ Rows.exactSharesSpec.plain.varTypes Try.prog) (ds ++ gs)).all (· ≤ reachBytes) = true := hsz0
  clear hsz0
  have hval : ∀ (j : Nat) t v, Try.f5.params[j]? = some t → args[j]? = some v → Value.okWide Try.prog W .any base t v := hval0
  have hW' := hW
  obtain ⟨p, q, hA0, hV, rfl, hfz, hnd⟩ := hW
  have hA : DataW.TrodAll enc Try.prog W 0 (fun _ => true) true Try.f5.params.toList args.toList ds p := hA0
  rw [Try.params5] at hA hval hsz
  obtain ⟨v0, vs0, d0, ds0, p0, q0, hargs, rfl, rfl, h0, r0⟩ := trodAll_cons hA
  obtain ⟨v1, vs1, d1, ds1, p1, q1, rfl, rfl, rfl, h1, r1⟩ := trodAll_cons r0
  obtain ⟨rfl, rfl, rfl⟩ := trodAll_nil r1
  obtain rfl : args = #[v0, v1] := by cases args; simp_all
  obtain ⟨rfl, rfl⟩ := trodVars_none hV
  obtain ⟨a0, rfl, rfl, rfl, w0⟩ := open_int Try.underlying3 (hval 0 3 v0 rfl rfl) h0
  clear hA0 hval0
  simp only [List.append_nil] at hW'
  have hlt : ∀ x ∈ p1, x.block < W.heap.size := fun x hx => by simpa using hW'.lt x (by simpa using hx)
  obtain ⟨b1, len1, cap1, rfl⟩ := okWide_slice Try.underlying22 (hval 1 22 v1 rfl rfl)
  have hk1 := h1
  have hlt1 : ∀ x ∈ p1, x.block < W.heap.size := fun x hx => hlt x (by simp [hx])
  have trod1 : ∀ (W' : World), Below W.heap.size W W' → DataW.Trod enc Try.prog W' 0 (fun b => decide (b < W.heap.size)) true 22 (.slice b1 len1 cap1) d1 p1 :=
    fun W' hn => Below.trod laidOut (by kernel_rfl) (of_decide_eq_true (by kernel_rfl)) hk1 hn hlt1
  have reads1 : ∃ z1, Reads W (.slice b1 len1 cap1) z1 := by
    obtain ⟨fuel, hf⟩ := h1
    rcases open_ints Try.underlying22 Try.underlying3 cellsInt hf with ⟨hcs, hx⟩ | ⟨a, len, cap, zs, hcs, _, hl, hm, hz, hx, hcell, hwz⟩
    · simp [Value.cells] at hcs
      obtain ⟨rfl, rfl, rfl⟩ := hcs
      exact ⟨[], by decide, fun x hx => absurd hx List.not_mem_nil, .inl ⟨rfl, _, _, rfl⟩⟩
    · simp [Value.cells] at hcs
      obtain ⟨rfl, rfl, rfl⟩ := hcs
      simp only [Prod.mk.injEq] at hx
      obtain ⟨rfl, rfl⟩ := hx
      simp only [if_true] at hz
      have hreach : len1 * 8 ≤ 140737488351232 := by
        have := sized_slice hsz (j := 1) (t := 22) (e := 3) rfl rfl Try.underlying22
        rw [bytesInt] at this
        simp only [lits, List.length_map, List.length_take, List.length_drop, reachBytes] at this
        omega
      exact ⟨zs.take len1, reads_mk hreach hl hz hcell hwz (fun b off ha h0 => hlt1 (.cell b off) (by rw [ha]; exact MemPlace.mem_row.2 ⟨0, by omega, by simp⟩))⟩
  obtain ⟨z1, k1⟩ := reads1
  refine (walk a0 (i64_of_wf w0) k1).mono fun e W' ⟨he, hb⟩ => ?_
  subst he
  exact ⟨_, rfl, _, _, _, [], _, [], hW', (trodAll_cons_mk (shut_bool Try.underlying4 _) trodAll_mk0), (trodAll_cons_mk (shut_int Try.underlying3 w0) (trodAll_cons_mk (trod1 _ hb) trodAll_mk0)), rfl, hb.frame _, fun h => by cases h⟩

theorem over : Rows.exactSharesRow.holds Try.pinned (OpenSpec.ofChange Rows.exactSharesSpec) :=
  OpenClaim.holds_of_wide 5 Try.f5 rfl rfl rfl rfl rfl rfl rfl ⟨rfl, rfl, rfl, rfl, rfl⟩ rfl rfl rfl rfl rfl (by kernel_rfl) Try.func5 (by kernel_rfl)
    (of_decide_eq_true (by kernel_rfl)) (by unfold Func.isWrapper; first | (rw [if_pos (by decide +kernel)]; kernel_rfl) | (rw [if_neg (by decide +kernel)]; exact ⟨rfl, rfl⟩))
    (fun os started H enc _ => lifted os started H enc)

theorem proved : Rows.ExactSharesSaid := over
end Go.Proofs.Ytbpibdjmffhmpaa.exactShares
