/- What the statements' own helper Same answers, and exact.Share in one contract. Conditions: the lists can be read. -/
import Derived.Test.YtbpibdjmffhmpaaShare
namespace Go.Proofs.Ytbpibdjmffhmpaa
set_option linter.unusedVariables false
open Go.RowKit Mth

/-- A value that reads as a list of ints. -/
def Reads (w : World) (v : Value) (zs : List Int) : Prop :=
  zs.length * 8 ≤ 140737488351232 ∧ Fits zs ∧ ((zs = [] ∧ ∃ a c, v = .slice a 0 c) ∨ ∃ b off c, v = .slice (some ⟨b, off, none⟩) zs.length c ∧ b < w.heap.size ∧ ∀ j, j < zs.length → w.cell? ⟨b, off + j, none⟩ = some (.int .i64 (zs.getD j 0)))
theorem Reads.below {w w' : World} {v : Value} {zs : List Int} (h : Reads w v zs) (hb : Below w.heap.size w w') : Reads w' v zs := by
  obtain ⟨h1, h2, h3⟩ := h
  refine ⟨h1, h2, ?_⟩
  rcases h3 with h3 | ⟨b, off, c, e1, e2, e3⟩
  · exact .inl h3
  · exact .inr ⟨b, off, c, e1, by have := hb.size; omega, fun j hj => (hb.cell (p := ⟨b, off + j, none⟩) e2).trans (e3 j hj)⟩
theorem Reads.len {w : World} {v : Value} {zs : List Int} (h : Reads w v zs) : ∃ a c, v = .slice a zs.length c := by
  rcases h.2.2 with ⟨rfl, a, c, rfl⟩ | ⟨b, off, c, rfl, _⟩
  · exact ⟨a, c, rfl⟩
  · exact ⟨_, c, rfl⟩
theorem Reads.own {w : World} {g n : Nat} {f : Nat → Int} (h : Own w g n f) (hn : n * 8 ≤ 140737488351232) (hf : ∀ i, i < n → -9223372036854775808 ≤ f i ∧ f i ≤ 9223372036854775807) (c : Nat) : Reads w (.slice (some ⟨g, 0, none⟩) n c) ((List.range n).map f) := by
  refine ⟨by simpa using hn, ?_, .inr ⟨g, 0, c, by simp, h.lt, ?_⟩⟩
  · intro x hx
    obtain ⟨i, hi, rfl⟩ := List.mem_map.1 hx
    exact hf i (List.mem_range.1 hi)
  · intro j hj
    simp only [List.length_map, List.length_range] at hj
    rw [Nat.zero_add, h.cell hj, List.getD_eq_getElem?_getD, List.getElem?_map, List.getElem?_range hj]
    rfl

theorem drewN2 (w : World) (m k : Nat) : (w.drewN m).drewN k = w.drewN (m + k) := by simp [World.drewN, Nat.add_assoc]
theorem same_take {xs ys : List Int} {k : Nat} (h : xs.take k = ys.take k) (hx : k < xs.length) (hy : k < ys.length) (he : xs.getD k 0 = ys.getD k 0) : xs.take (k + 1) = ys.take (k + 1) := by
  rw [take_snoc xs k hx, take_snoc ys k hy, h, he]

set_option maxHeartbeats 800000 in
theorem same_at (b o c b' o' c' : Nat) (xs ys : List Int) (w : World) (hl : xs.length = ys.length) (hlen : xs.length * 8 ≤ 140737488351232)
    (hx : ∀ j, j < xs.length → w.cell? ⟨b, o + j, none⟩ = some (.int .i64 (xs.getD j 0))) (hy : ∀ j, j < xs.length → w.cell? ⟨b', o' + j, none⟩ = some (.int .i64 (ys.getD j 0))) :
    Calls Try.prog 16 #[.slice (some ⟨b, o, none⟩) xs.length c, .slice (some ⟨b', o', none⟩) xs.length c'] w fun e w' => e = .returned (.bool (decide (xs = ys))) ∧ ∃ m, w' = w.drewN m := by
  have HX := Lib.hid hx
  have HY := Lib.hid hy
  have HL := Lib.hid hl
  clear hx hy hl
  have d0 : ((xs.length : Int) != (xs.length : Int)) = false := by simp
  go_enter Try.func16, Try.ntmps16
  go_wp2_with fail
  go_loopw [5] (fun i wr => ∃ k : Nat, k ≤ xs.length ∧ i = .int .i64 k ∧ Hid (xs.take k = ys.take k) ∧ ∃ m, wr = w.drewN m) (fun i _ => xs.length - (intOf i).toNat)
  case atStart => exact ⟨0, Nat.zero_le _, rfl, Lib.hid rfl, 0, rfl⟩
  case round =>
    obtain ⟨k, hk, rfl, ht, m, rfl⟩ := hrel
    by_cases hlt : k < xs.length
    · have cx := HX.out k hlt
      have cy := HY.out k hlt
      by_cases he : xs.getD k 0 = ys.getD k 0
      · have ht' := Lib.hid (same_take ht.out hlt (by have := HL.out; omega) he)
        rw [← he] at cy
        have b0 : ∀ x : Int, (x != x) = false := fun x => by simp
        have HE := Lib.hid he
        clear he
        generalize xs.getD k 0 = x at *
        have e1 := b0 x
        go_wp2_with fail
        go_quiet (fail)
        go_wp2_with fail
        go_roundw
        case rel => exact ⟨k + 1, by omega, by go_num, ht', _, rfl⟩
        case measure => simp [intOf]; omega
      · have hne : decide (xs = ys) = false := decide_eq_false (by rintro rfl; exact he rfl)
        have HNE := Lib.hid hne
        have e1 : (xs.getD k 0 != ys.getD k 0) = true := by simpa using he
        have e2 : (xs.getD k 0 == ys.getD k 0) = false := by simpa using he
        clear hne he
        generalize xs.getD k 0 = x at *
        generalize ys.getD k 0 = y at *
        go_wp2_with fail
        go_quiet (fail)
        go_wp2_with fail
        go_ret
        exact ⟨by rw [HNE.out]; rfl, _, drewN2 _ _ _⟩
    · obtain rfl : k = xs.length := by omega
      have heq : decide (xs = ys) = true := decide_eq_true (by
        have := ht.out
        rw [List.take_length, HL.out, List.take_length] at this
        exact this)
      have HEQ := Lib.hid heq
      clear heq
      go_wp2_with fail
      go_ret
      exact ⟨by rw [HEQ.out]; rfl, _, rfl⟩

theorem same_lens (a a' : Option Addr) (n n' c c' : Nat) (h : n ≠ n') (w : World) :
    Calls Try.prog 16 #[.slice a n c, .slice a' n' c'] w fun e w' => e = .returned (.bool false) ∧ w = w' := by
  have d0 : ((n : Int) != (n' : Int)) = true := bne_iff_ne.2 (by omega)
  have d1 : ((n : Int) == (n' : Int)) = false := beq_eq_false_iff_ne.2 (by omega)
  have d2 : (n == n') = false := by simpa using h
  have d3 : (n != n') = true := by simpa using h
  clear h
  go_enter Try.func16, Try.ntmps16
  go_wp2_with fail
  go_ret
  exact ⟨rfl, rfl⟩

theorem same_none (a a' : Option Addr) (c c' : Nat) (w : World) :
    Calls Try.prog 16 #[.slice a 0 c, .slice a' 0 c'] w fun e w' => e = .returned (.bool true) ∧ w = w' := by
  go_enter Try.func16, Try.ntmps16
  go_wp2_with fail
  refine wp_loop_rounds 1 ?_
  rw [rounds_succ]
  go_wp2_with fail
  go_ret
  exact ⟨rfl, rfl⟩

/-- Same at every two lists. -/
theorem same_any {w : World} {v v' : Value} {xs ys : List Int} (h : Reads w v xs) (h' : Reads w v' ys) :
    Calls Try.prog 16 #[v, v'] w fun e w' => e = .returned (.bool (decide (xs = ys))) ∧ ∃ m, w' = w.drewN m := by
  by_cases hl : xs.length = ys.length
  · by_cases h0 : xs.length = 0
    · obtain rfl : xs = [] := List.length_eq_zero_iff.1 h0
      obtain rfl : ys = [] := List.length_eq_zero_iff.1 (by omega)
      obtain ⟨a, c, rfl⟩ := h.len
      obtain ⟨a', c', rfl⟩ := h'.len
      exact (same_none a a' c c' w).mono fun e w' ⟨he, hw⟩ => ⟨he, 0, hw.symm⟩
    · obtain ⟨h1, h2, h3⟩ := h
      obtain ⟨h1', h2', h3'⟩ := h'
      rcases h3 with ⟨rfl, _⟩ | ⟨b, off, c, rfl, _, hc⟩
      · exact absurd rfl h0
      · rcases h3' with ⟨rfl, _⟩ | ⟨b', off', c', rfl, _, hc'⟩
        · exact absurd hl h0
        · have := same_at b off c b' off' c' xs ys w hl h1 hc (fun j hj => hc' j (by omega))
          rw [← hl]
          exact this
  · obtain ⟨a, c, rfl⟩ := h.len
    obtain ⟨a', c', rfl⟩ := h'.len
    exact (same_lens a a' _ _ c c' hl w).mono fun e w' ⟨he, hw⟩ => ⟨by rw [he, decide_eq_false (by rintro rfl; exact hl rfl)], 0, hw.symm⟩

def shareB (t : Int) (zs : List Int) : Bool := decide (wholeB zs = true ∧ 0 ≤ t ∧ t ≤ tot zs)
def shareF (t : Int) (zs : List Int) (i : Nat) : Int := part t (tot zs) (zf zs) zs.length i
theorem shareF_zero (zs : List Int) (h : tot zs = 0) (i : Nat) : shareF 0 zs i = 0 := by
  unfold shareF part over
  have hq : ∀ i, quo 0 (tot zs) (zf zs) i = 0 := fun i => by unfold quo; simp
  have hs : ∀ n, sumF (quo 0 (tot zs) (zf zs)) n = 0 := fun n => by
    induction n with
    | zero => rfl
    | succ n ih => rw [sumF, ih, hq]; rfl
  rw [hs, hq]
  simp

/-- exact.Share: the division exists. -/
theorem share_yes {w : World} {v : Value} {zs : List Int} {t : Int} (h : Reads w v zs) (hb : shareB t zs = true) :
    Calls Try.prog 12 #[.int .i64 t, v] w fun e w' => e = .returned (.tuple #[.slice (some ⟨w.heap.size, 0, none⟩) zs.length zs.length, .bool true]) ∧ Own w' w.heap.size zs.length (shareF t zs) ∧ Below w.heap.size w w' := by
  obtain ⟨b1, b2, b3⟩ := of_decide_eq_true hb
  obtain ⟨h1, h2, h3⟩ := h
  rcases h3 with ⟨rfl, a, c, rfl⟩ | ⟨b, off, c, rfl, hbl, hc⟩
  · have ht : t = 0 := by
      have b3' : t ≤ 0 := b3
      omega
    subst ht
    refine (share_nil a c w).mono ?_
    rintro e w' ⟨rfl, rfl⟩
    exact ⟨rfl, Own.congr (Own.new w 0 _) (fun i hi => absurd hi (Nat.not_lt_zero i)), (Below.refl _ _).alloc (Nat.le_refl _) _⟩
  · by_cases h0 : tot zs = 0
    · obtain rfl : t = 0 := by omega
      refine (share_zero b off c zs w h1 h2 hc b1 h0).mono ?_
      rintro e w' ⟨rfl, rfl⟩
      exact ⟨rfl, Own.congr (Own.new w _ _) (fun i hi => (shareF_zero zs h0 i).symm), (Below.refl _ _).alloc (Nat.le_refl _) _⟩
    · exact share_main b off c t zs w h1 h2 hbl hc b1 (by omega) b2 b3

/-- exact.Share: no division. -/
theorem share_no {w : World} {v : Value} {zs : List Int} {t : Int} (h : Reads w v zs) (hb : shareB t zs = false) :
    Calls Try.prog 12 #[.int .i64 t, v] w fun e w' => e = .returned (.tuple #[.slice none 0 0, .bool false]) ∧ w = w' := by
  have b0 := of_decide_eq_false hb
  obtain ⟨h1, h2, h3⟩ := h
  rcases h3 with ⟨rfl, a, c, rfl⟩ | ⟨b, off, c, rfl, hbl, hc⟩
  · refine share_nil_no a c t ?_ w
    intro ht
    subst ht
    exact b0 ⟨rfl, Int.le_refl _, by simp [tot]⟩
  · refine share_bad b off c t zs w h1 h2 hc ?_
    cases hw : wholeB zs with
    | false => exact .inl rfl
    | true => right; rw [hw] at b0; simp only [true_and] at b0; omega
end Go.Proofs.Ytbpibdjmffhmpaa
