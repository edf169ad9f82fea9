/- The sum of the weights of a division, and whether they are in range. Conditions: the list can be read. -/
import Derived.Test.YtbpibdjmffhmpaaSum
namespace Go.Proofs.Ytbpibdjmffhmpaa
open Go.RowKit Mth

def Nonneg (l : List Int) : Prop := ∀ x ∈ l, 0 ≤ x
theorem nonneg_tot {l : List Int} (h : Nonneg l) : 0 ≤ tot l := by
  induction l with
  | nil => simp [tot]
  | cons x l ih =>
    have := h x (by simp)
    have := ih (fun y hy => h y (by simp [hy]))
    simp only [tot]; omega
theorem nonneg_le {l : List Int} (h : Nonneg l) : ∀ x ∈ l, x ≤ tot l := by
  induction l with
  | nil => intro x hx; simp at hx
  | cons y l ih =>
    intro x hx
    have h0 := h y (by simp)
    have ht := nonneg_tot (l := l) (fun z hz => h z (by simp [hz]))
    have hi := ih (fun z hz => h z (by simp [hz]))
    simp only [tot]
    rcases List.mem_cons.1 hx with rfl | hx
    · omega
    · have := hi x hx; omega
def negAt (l : List Int) (k : Nat) : Prop := k < l.length ∧ l.getD k 0 < 0 ∧ ∀ j, j < k → 0 ≤ l.getD j 0
theorem nonneg_or (l : List Int) : Nonneg l ∨ ∃ k, negAt l k := by
  induction l with
  | nil => exact .inl (fun x hx => by simp at hx)
  | cons x l ih =>
    by_cases hx : 0 ≤ x
    · rcases ih with h | ⟨k, h1, h2, h3⟩
      · left; intro y hy
        rcases List.mem_cons.1 hy with rfl | hy
        · exact hx
        · exact h y hy
      · right
        refine ⟨k + 1, by simp; omega, by simpa using h2, ?_⟩
        intro j hj
        match j with
        | 0 => simpa using hx
        | j + 1 => simpa using h3 j (by omega)
    · right
      exact ⟨0, by simp, by simp; omega, fun j hj => by omega⟩
theorem Nonneg.getD {l : List Int} (h : Nonneg l) (k : Nat) : 0 ≤ l.getD k 0 := by
  rw [List.getD_eq_getElem?_getD]
  by_cases hk : k < l.length
  · rw [List.getElem?_eq_getElem hk]; exact h _ (List.getElem_mem hk)
  · rw [List.getElem?_eq_none (by omega)]; simp

instance (l : List Int) : Decidable (Nonneg l) := inferInstanceAs (Decidable (∀ x ∈ l, 0 ≤ x))
def wholeB (l : List Int) : Bool := decide (l.length ≤ 64 ∧ Nonneg l ∧ tot l ≤ 1125899906842624)
theorem of_wholeB {l : List Int} (h : wholeB l = true) : l.length ≤ 64 ∧ Nonneg l ∧ tot l ≤ 1125899906842624 := of_decide_eq_true h

set_option maxHeartbeats 800000 in
theorem whole_some (b off c : Nat) (zs : List Int) (w : World) (hlen : zs.length * 8 ≤ 140737488351232) (hf : Fits zs)
    (hc : ∀ j, j < zs.length → w.cell? ⟨b, off + j, none⟩ = some (.int .i64 (zs.getD j 0))) :
    Calls Try.prog 27 #[.slice (some ⟨b, off, none⟩) zs.length c] w fun e w' => ∃ x : Int, (wholeB zs = true → x = tot zs) ∧ e = .returned (.tuple #[.int .i64 x, .bool (wholeB zs)]) ∧ w = w' := by
  have hsum := fun W hc => sum_some b off c zs W hlen hf hc
  have HSUM := Lib.hid hsum
  have HC := Lib.hid hc
  clear hsum hc
  by_cases h64 : zs.length ≤ 64
  · have d64 : decide (64 < zs.length) = false := decide_eq_false (by omega)
    rcases nonneg_or zs with hn | ⟨m, hm, hneg, hbefore⟩
    · have HN := Lib.hid hn
      have HF := Lib.hid hf
      clear hf hn
      go_enter Try.func27, Try.ntmps27
      go_wp2
      go_loop [13] (fun i => ∃ k : Nat, k ≤ zs.length ∧ i = .int .i64 k) (fun i => zs.length - (intOf i).toNat)
      case atStart => exact ⟨0, Nat.zero_le _, rfl⟩
      case round =>
        obtain ⟨k, hk, rfl⟩ := hrel
        by_cases hlt : k < zs.length
        · have hcell := HC.out k hlt
          have h0 := HN.out.getD k
          generalize zs.getD k 0 = n at *
          go_wp2
          go_round
          case rel => exact ⟨k + 1, by omega, by go_num⟩
          case measure => simp [intOf]; omega
        · have hb1 := tot_bound HF.out
          have hb2 := nonneg_tot HN.out
          cases hs : sumB zs with
          | false =>
            have hs' := of_decide_eq_false hs
            have hw : wholeB zs = false := decide_eq_false (by rintro ⟨_, _, h⟩; omega)
            have HW := Lib.hid hw
            have HS := Lib.hid hs
            clear hw hs hs'
            go_wp2_with (go_at_call 14; refine (HSUM.out _ HC.out).mono ?_; rw [HS.out]; rintro e w' ⟨rfl, rfl⟩)
            go_ret2
            exact ⟨sumN zs, by rw [HW.out]; intro h; exact absurd h (by decide), ret_ib rfl (by rw [HW.out]), rfl⟩
          | true =>
            have hs' := of_decide_eq_true hs
            have hsn : sumN zs = tot zs := by rw [sumN, hs]; rfl
            have HS := Lib.hid hs
            have HSN := Lib.hid hsn
            by_cases hv : tot zs ≤ 1125899906842624
            · have hw : wholeB zs = true := decide_eq_true ⟨h64, HN.out, hv⟩
              have HW := Lib.hid hw
              have dv : decide (tot zs ≤ 1125899906842624) = true := decide_eq_true hv
              clear hw hs hs' hsn hv
              go_wp2_with (go_at_call 14; refine (HSUM.out _ HC.out).mono ?_; rw [HS.out, HSN.out]; rintro e w' ⟨rfl, rfl⟩)
              go_ret2
              exact ⟨tot zs, fun _ => rfl, ret_ib rfl (by rw [HW.out]), rfl⟩
            · have hw : wholeB zs = false := decide_eq_false (by rintro ⟨_, _, h⟩; omega)
              have HW := Lib.hid hw
              have dv : decide (tot zs ≤ 1125899906842624) = false := decide_eq_false hv
              clear hw hs hs' hsn hv
              go_wp2_with (go_at_call 14; refine (HSUM.out _ HC.out).mono ?_; rw [HS.out, HSN.out]; rintro e w' ⟨rfl, rfl⟩)
              go_ret2
              exact ⟨tot zs, fun _ => rfl, ret_ib rfl (by rw [HW.out]), rfl⟩
    · have hw : wholeB zs = false := decide_eq_false (by
        rintro ⟨_, h, _⟩
        have := h.getD m
        omega)
      have HW := Lib.hid hw
      have HB := Lib.hid hbefore
      have HNEG := Lib.hid hneg
      clear hw hbefore hneg
      go_enter Try.func27, Try.ntmps27
      go_wp2
      go_loop [13] (fun i => ∃ k : Nat, k ≤ m ∧ i = .int .i64 k) (fun i => zs.length - (intOf i).toNat)
      case atStart => exact ⟨0, Nat.zero_le _, rfl⟩
      case round =>
        obtain ⟨k, hk, rfl⟩ := hrel
        have hlt : k < zs.length := by omega
        have hcell := HC.out k hlt
        by_cases hkm : k < m
        · have h0 := HB.out k hkm
          generalize zs.getD k 0 = n at *
          go_wp2
          go_round
          case rel => exact ⟨k + 1, by omega, by go_num⟩
          case measure => simp [intOf]; omega
        · obtain rfl : k = m := by omega
          have h0 := HNEG.out
          generalize zs.getD k 0 = n at *
          go_wp2
          go_ret2
          exact ⟨0, by rw [HW.out]; intro h; exact absurd h (by decide), ret_ib rfl (by rw [HW.out]), rfl⟩
  · have d64 : decide (64 < zs.length) = true := decide_eq_true (by omega)
    have hw : wholeB zs = false := decide_eq_false (by rintro ⟨h, _, _⟩; omega)
    have HW := Lib.hid hw
    clear hw
    go_enter Try.func27, Try.ntmps27
    go_wp2
    go_ret2
    exact ⟨0, by rw [HW.out]; intro h; exact absurd h (by decide), ret_ib rfl (by rw [HW.out]), rfl⟩

theorem whole_none (a : Option Addr) (c : Nat) (w : World) :
    Calls Try.prog 27 #[.slice a 0 c] w fun e w' => e = .returned (.tuple #[.int .i64 0, .bool true]) ∧ w = w' := by
  go_enter Try.func27, Try.ntmps27
  go_wp2
  refine wp_loop_rounds 1 ?_
  rw [rounds_succ]
  go_wp2_with (go_at_call 14; refine (sum_none _ _ _).mono ?_; rintro e w' ⟨rfl, rfl⟩)
  go_ret2
  exact ⟨rfl, rfl⟩
end Go.Proofs.Ytbpibdjmffhmpaa
