/- The parts of a division: which are rounded up, that none exceeds its weight, and that they sum to the total; and the statements' own helper whole. Plain mathematics but for the last. -/
import Derived.Test.YtbpibdjmffhmpaaOpen
namespace Go.Proofs.Ytbpibdjmffhmpaa
open Go.RowKit Mth
set_option linter.unusedVariables false

theorem sorted_exists (f : Nat → Int) (n : Nat) : ∃ L : List Nat, L.Perm (List.range n) ∧ L.Pairwise (fun x y => bef f y x = false) := by
  refine ⟨(List.range n).mergeSort (fun x y => !bef f y x), List.mergeSort_perm _ _, ?_⟩
  refine (List.pairwise_mergeSort (le := fun x y => !bef f y x) ?_ ?_ (List.range n)).imp ?_
  · intro a b c h1 h2
    simp only [Bool.not_eq_true', bef, decide_eq_false_iff_not] at *
    omega
  · intro a b
    simp only [Bool.or_eq_true, Bool.not_eq_true', bef, decide_eq_false_iff_not]
    omega
  · intro a b h
    simpa using h

/-- how many of the first n indices lie in T -/
theorem ind_one (a n : Nat) (h : a < n) : sumF (fun i => if i ∈ [a] then 1 else 0) n = 1 := by
  induction n with
  | zero => omega
  | succ n ih =>
    simp only [sumF]
    by_cases ha : a < n
    · rw [ih ha, if_neg (by simp; omega)]; rfl
    · obtain rfl : a = n := by omega
      have : sumF (fun i => if i ∈ [a] then (1 : Int) else 0) a = 0 := by
        rw [sumF_congr (g := fun _ => 0) (fun i hi => if_neg (by simp; omega))]
        clear ih ha h
        induction a with
        | zero => rfl
        | succ a ih => rw [sumF, ih]; rfl
      rw [this, if_pos (by simp)]; rfl
theorem ind_sum (T : List Nat) (n : Nat) (hnd : T.Nodup) (hT : ∀ a ∈ T, a < n) : sumF (fun i => if i ∈ T then 1 else 0) n = T.length := by
  induction T with
  | nil =>
    simp only [List.not_mem_nil, if_false, List.length_nil]
    clear hT
    induction n with
    | zero => rfl
    | succ n ih => rw [sumF, ih]; rfl
  | cons a T ih =>
    obtain ⟨h1, h2⟩ := List.nodup_cons.1 hnd
    have h3 := ih h2 (fun b hb => hT b (by simp [hb]))
    have h4 := ind_one a n (hT a (by simp))
    rw [sumF_congr (g := fun i => (if i ∈ [a] then 1 else 0) + (if i ∈ T then 1 else 0)) ?_, sumF_add, h3, h4, List.length_cons]
    · omega
    · intro i _
      by_cases hi : i = a
      · subst hi; simp [h1]
      · simp [hi]

section
variable {t W : Int} {z : Nat → Int} {n : Nat}
/-- index i gets one more than its quotient -/
def upB (t W : Int) (z : Nat → Int) (n i : Nat) : Bool := decide ((rank (rem t W z) n i : Int) < over t W z n)
theorem part_up {i : Nat} (h : upB t W z n i = true) : part t W z n i = quo t W z i + 1 := by unfold part; rw [if_pos (of_decide_eq_true h)]
theorem part_down {i : Nat} (h : upB t W z n i = false) : part t W z n i = quo t W z i := by unfold part; rw [if_neg (of_decide_eq_false h)]; omega
theorem up_bef {i j : Nat} (hi : upB t W z n i = true) (hj : upB t W z n j = false) : bef (rem t W z) i j = true := by
  have a := of_decide_eq_true hi
  have b := of_decide_eq_false hj
  cases hb : bef (rem t W z) i j with
  | true => rfl
  | false =>
    exfalso
    -- whatever lies before j lies before i, or is i's equal: then the rank of j is at most that of i
    have hle : rank (rem t W z) n j ≤ rank (rem t W z) n i := by
      unfold rank
      apply List.countP_mono_left
      intro k _ hk
      have h1 := of_decide_eq_true hk
      have h2 := of_decide_eq_false hb
      exact decide_eq_true (by omega)
    omega
theorem count_rem (hW : 0 < W) (n : Nat) : sumF (rem t W z) n ≤ W * ((List.range n).countP (fun j => decide (0 < rem t W z j)) : Int) ∧ (0 < (List.range n).countP (fun j => decide (0 < rem t W z j)) → sumF (rem t W z) n < W * ((List.range n).countP (fun j => decide (0 < rem t W z j)) : Int)) := by
  induction n with
  | zero => simp [sumF]
  | succ n ih =>
    have hr := rem_bd (t := t) (z := z) hW n
    rw [List.range_succ, List.countP_append]
    simp only [List.countP_cons, List.countP_nil, sumF]
    by_cases hp : 0 < rem t W z n
    · simp only [hp, decide_true, if_true, Nat.zero_add, Int.natCast_add, Int.mul_add]
      omega
    · have h0 : rem t W z n = 0 := by omega
      simp only [h0, Int.lt_irrefl, decide_false, Bool.false_eq_true, if_false, Nat.add_zero, Int.add_zero]
      exact ih
theorem up_pos (hW : 0 < W) (hs : sumF z n = W) {i : Nat} (hi : upB t W z n i = true) : 0 < rem t W z i := by
  have a := of_decide_eq_true hi
  have hr := rem_bd (t := t) (z := z) hW i
  apply Decidable.byContradiction
  intro h0
  have hc : (List.range n).countP (fun j => decide (0 < rem t W z j)) ≤ rank (rem t W z) n i := by
    unfold rank
    apply List.countP_mono_left
    intro k _ hk
    have := of_decide_eq_true hk
    exact decide_eq_true (by omega)
  obtain ⟨c1, c2⟩ := count_rem (t := t) (z := z) hW n
  have c3 := over_mul (t := t) hs
  rw [← c3] at c1
  have := Int.le_of_mul_le_mul_left c1 hW
  omega
theorem up_le (hW : 0 < W) (htW : t ≤ W) (hs : sumF z n = W) {i : Nat} (hz : 0 ≤ z i) (hi : upB t W z n i = true) : quo t W z i + 1 ≤ z i := by
  have h1 := up_pos hW hs hi
  have h2 := Int.mul_ediv_add_emod (t * z i) W
  have h3 := Int.mul_le_mul_of_nonneg_right htW hz
  unfold quo rem at *
  have h4 : W * (t * z i / W) < W * z i := by omega
  have := Int.lt_of_mul_lt_mul_left h4 (by omega)
  omega
theorem part_sum (hW : 0 < W) (ht : 0 ≤ t) (htW : t ≤ W) (hs : sumF z n = W) : sumF (part t W z n) n = t := by
  obtain ⟨L, h1, h2⟩ := sorted_exists (rem t W z) n
  have ob := over_bd (t := t) hW hs
  obtain ⟨ov, hov⟩ := Int.eq_ofNat_of_zero_le ob.1
  have hlen : L.length = n := by rw [h1.length_eq, List.length_range]
  rw [← sumF_congr (fun i hi => stepF_part h1 h2 hov i hi)]
  unfold stepF
  rw [sumF_add, ind_sum (L.take ov) n ((h1.nodup_iff.2 List.nodup_range).sublist (List.take_sublist _ _)) (fun a ha => List.mem_range.1 (h1.mem_iff.1 (List.mem_of_mem_take ha)))]
  rw [List.length_take, Nat.min_eq_left (by omega)]
  have : over t W z n = t - sumF (quo t W z) n := rfl
  have e : sumF (fun i => quo t W z i) n = sumF (quo t W z) n := rfl
  omega
end

/-- the prefix's sum -/
theorem tot_take_le {zs : List Int} (h : Nonneg zs) (k : Nat) : tot (zs.take k) ≤ tot zs := by
  have h1 := tot_append (zs.take k) (zs.drop k)
  rw [List.take_append_drop] at h1
  have h2 := nonneg_tot (l := zs.drop k) (fun x hx => h x (List.mem_of_mem_drop hx))
  omega
theorem nonneg_take {zs : List Int} {k : Nat} (h : Nonneg (zs.take k)) (hk : k < zs.length) (h0 : 0 ≤ zs.getD k 0) : Nonneg (zs.take (k + 1)) := by
  rw [take_snoc zs k hk]
  intro x hx
  rcases List.mem_append.1 hx with hx | hx
  · exact h x hx
  · rw [List.mem_singleton.1 hx]; exact h0

set_option maxHeartbeats 800000 in
theorem lwhole_yes (b off c : Nat) (zs : List Int) (w : World) (hlen : zs.length * 8 ≤ 140737488351232) (hw : wholeB zs = true)
    (hc : ∀ j, j < zs.length → w.cell? ⟨b, off + j, none⟩ = some (.int .i64 (zs.getD j 0))) :
    Calls Try.prog 23 #[.slice (some ⟨b, off, none⟩) zs.length c] w fun e w' => e = .returned (.tuple #[.int .i64 (tot zs), .bool true]) ∧ w = w' := by
  have HC := Lib.hid hc
  obtain ⟨h64, hnn, hvv⟩ := of_wholeB hw
  have HNN := Lib.hid hnn
  have HVV := Lib.hid hvv
  clear hc hw hnn hvv
  have d64 : decide (64 < zs.length) = false := decide_eq_false (by omega)
  go_enter Try.func23, Try.ntmps23
  go_wp2_with fail
  go_loop [4, 5] (fun s i => ∃ k : Nat, k ≤ zs.length ∧ i = .int .i64 k ∧ s = .int .i64 (tot (zs.take k))) (fun _ i => zs.length - (intOf i).toNat)
  case atStart => exact ⟨0, Nat.zero_le _, rfl, by simp [tot]⟩
  case round =>
    obtain ⟨k, hk, rfl, rfl⟩ := hrel
    by_cases hlt : k < zs.length
    · have hcell := HC.out k hlt
      have hs := tot_snoc zs k hlt
      have h0 := HNN.out.getD k
      have h1 := tot_take_le HNN.out (k + 1)
      rw [hs] at h1
      have h2 := HVV.out
      have h3 := nonneg_tot (l := zs.take k) (fun x hx => HNN.out x (List.mem_of_mem_take hx))
      have dn : decide (zs.getD k 0 < 0) = false := decide_eq_false (by omega)
      have db : decide (1125899906842624 - tot (zs.take k) < zs.getD k 0) = false := decide_eq_false (by omega)
      have hsb : tot (zs.take k) + zs.getD k 0 ≤ 1125899906842624 := by omega
      have HS := Lib.hid hs
      clear hs h1 h2
      generalize zs.getD k 0 = x at *
      generalize tot (zs.take k) = s at *
      go_wp2_with fail
      go_round
      case rel => exact ⟨k + 1, by omega, by go_num, by rw [HS.out]⟩
      case measure => simp [intOf]; omega
    · obtain rfl : k = zs.length := by omega
      rw [List.take_length]
      go_wp2_with fail
      go_ret2
      exact ⟨rfl, rfl⟩

/-- The first index at which the sum would leave its limits. -/
theorem bad_at {zs : List Int} (h : wholeB zs = false) (h64 : zs.length ≤ 64) : ∃ m, m < zs.length ∧ (∀ k, k ≤ m → Nonneg (zs.take k) ∧ tot (zs.take k) ≤ 1125899906842624) ∧ (zs.getD m 0 < 0 ∨ 1125899906842624 - tot (zs.take m) < zs.getD m 0) := by
  have key : ∀ n, n ≤ zs.length → (∀ k, k ≤ n → Nonneg (zs.take k) ∧ tot (zs.take k) ≤ 1125899906842624) ∨ ∃ m, m < n ∧ (∀ k, k ≤ m → Nonneg (zs.take k) ∧ tot (zs.take k) ≤ 1125899906842624) ∧ (zs.getD m 0 < 0 ∨ 1125899906842624 - tot (zs.take m) < zs.getD m 0) := by
    intro n
    induction n with
    | zero => intro _; left; intro k hk; obtain rfl : k = 0 := by omega
              exact ⟨fun x hx => by simp at hx, by simp [tot]⟩
    | succ n ih =>
      intro hn
      rcases ih (by omega) with h1 | ⟨m, h1, h2⟩
      · by_cases hbad : zs.getD n 0 < 0 ∨ 1125899906842624 - tot (zs.take n) < zs.getD n 0
        · exact .inr ⟨n, by omega, h1, hbad⟩
        · left
          intro k hk
          by_cases hkn : k ≤ n
          · exact h1 k hkn
          · obtain rfl : k = n + 1 := by omega
            have h2 := h1 n (Nat.le_refl n)
            refine ⟨nonneg_take h2.1 (by omega) (by omega), ?_⟩
            rw [tot_snoc zs n (by omega)]
            omega
      · exact .inr ⟨m, by omega, h2⟩
  rcases key zs.length (Nat.le_refl _) with h1 | h1
  · have h2 := h1 zs.length (Nat.le_refl _)
    rw [List.take_length] at h2
    have : wholeB zs = true := decide_eq_true ⟨h64, h2.1, h2.2⟩
    rw [h] at this
    exact absurd this (by decide)
  · exact h1

set_option maxHeartbeats 800000 in
theorem lwhole_no (b off c : Nat) (zs : List Int) (w : World) (hlen : zs.length * 8 ≤ 140737488351232) (hw : wholeB zs = false) (hf : Fits zs)
    (hc : ∀ j, j < zs.length → w.cell? ⟨b, off + j, none⟩ = some (.int .i64 (zs.getD j 0))) :
    Calls Try.prog 23 #[.slice (some ⟨b, off, none⟩) zs.length c] w fun e w' => e = .returned (.tuple #[.int .i64 0, .bool false]) ∧ w = w' := by
  have HC := Lib.hid hc
  by_cases h64 : zs.length ≤ 64
  · obtain ⟨m, hm, hall, hbad⟩ := bad_at hw h64
    have HALL := Lib.hid hall
    have HBAD := Lib.hid hbad
    have HF := Lib.hid hf
    clear hc hw hall hbad hf
    have d64 : decide (64 < zs.length) = false := decide_eq_false (by omega)
    go_enter Try.func23, Try.ntmps23
    go_wp2_with fail
    go_loop [4, 5] (fun s i => ∃ k : Nat, k ≤ m ∧ i = .int .i64 k ∧ s = .int .i64 (tot (zs.take k))) (fun _ i => zs.length - (intOf i).toNat)
    case atStart => exact ⟨0, Nat.zero_le _, rfl, by simp [tot]⟩
    case round =>
      obtain ⟨k, hk, rfl, rfl⟩ := hrel
      have hlt : k < zs.length := by omega
      have hcell := HC.out k hlt
      obtain ⟨g1, g2⟩ := HALL.out k hk
      have g3 := nonneg_tot g1
      have hfx := HF.out.getD k
      by_cases hkm : k < m
      · obtain ⟨g4, g5⟩ := HALL.out (k + 1) (by omega)
        have hs := tot_snoc zs k hlt
        rw [hs] at g5
        have h0 : 0 ≤ zs.getD k 0 := by
          have h1 := g4.getD k
          rw [List.getD_eq_getElem?_getD, List.getElem?_take] at h1
          simpa [List.getD_eq_getElem?_getD] using h1
        have dn : decide (zs.getD k 0 < 0) = false := decide_eq_false (by omega)
        have db : decide (1125899906842624 - tot (zs.take k) < zs.getD k 0) = false := decide_eq_false (by omega)
        have HS := Lib.hid hs
        clear hs g1 g4
        generalize zs.getD k 0 = x at *
        generalize tot (zs.take k) = s at *
        go_wp2_with fail
        go_round
        case rel => exact ⟨k + 1, by omega, by go_num, by rw [HS.out]⟩
        case measure => simp [intOf]; omega
      · obtain rfl : k = m := by omega
        by_cases hneg : zs.getD k 0 < 0
        · have dn : decide (zs.getD k 0 < 0) = true := decide_eq_true hneg
          clear hneg g1
          generalize zs.getD k 0 = x at *
          generalize tot (zs.take k) = s at *
          go_wp2_with fail
          go_ret2
          exact ⟨rfl, rfl⟩
        · have dn : decide (zs.getD k 0 < 0) = false := decide_eq_false hneg
          have db : decide (1125899906842624 - tot (zs.take k) < zs.getD k 0) = true := decide_eq_true (by have := HBAD.out; omega)
          clear hneg g1
          generalize zs.getD k 0 = x at *
          generalize tot (zs.take k) = s at *
          go_wp2_with fail
          go_ret2
          exact ⟨rfl, rfl⟩
  · have d64 : decide (64 < zs.length) = true := decide_eq_true (by omega)
    clear hw hc
    go_enter Try.func23, Try.ntmps23
    go_wp2_with fail
    go_ret2
    exact ⟨rfl, rfl⟩

theorem lwhole_none (a : Option Addr) (c : Nat) (w : World) :
    Calls Try.prog 23 #[.slice a 0 c] w fun e w' => e = .returned (.tuple #[.int .i64 0, .bool true]) ∧ w = w' := by
  go_enter Try.func23, Try.ntmps23
  go_wp2_with fail
  refine wp_loop_rounds 1 ?_
  rw [rounds_succ]
  go_wp2_with fail
  go_ret2
  exact ⟨rfl, rfl⟩

/-- whole at every list. -/
theorem lwhole_t {w : World} {v : Value} {zs : List Int} (h : Reads w v zs) (hw : wholeB zs = true) :
    Calls Try.prog 23 #[v] w fun e w' => e = .returned (.tuple #[.int .i64 (tot zs), .bool true]) ∧ w = w' := by
  obtain ⟨h1, h2, h3⟩ := h
  rcases h3 with ⟨rfl, a, c, rfl⟩ | ⟨b, off, c, rfl, _, hc⟩
  · exact lwhole_none a c w
  · exact lwhole_yes b off c zs w h1 hw hc
theorem lwhole_f {w : World} {v : Value} {zs : List Int} (h : Reads w v zs) (hw : wholeB zs = false) :
    Calls Try.prog 23 #[v] w fun e w' => e = .returned (.tuple #[.int .i64 0, .bool false]) ∧ w = w' := by
  obtain ⟨h1, h2, h3⟩ := h
  rcases h3 with ⟨rfl, a, c, rfl⟩ | ⟨b, off, c, rfl, _, hc⟩
  · exact absurd hw (by decide)
  · exact lwhole_no b off c zs w h1 hw h2 hc
end Go.Proofs.Ytbpibdjmffhmpaa
