/- Begins and Same of the reference: whether a list of texts begins with another one, and whether they are the same. Conditions: at most 10^6 texts. -/
import Derived.Test.YtdjchpejhfkknaaLAt
namespace Go.Proofs.Ytdjchpejhfkknaa.Lw
open Go.RowKit Km Dk
open Lm hiding Bs
set_option linter.unusedVariables false
set_option maxRecDepth 100000

theorem below_nq {w wr : World} (h : Below w.heap.size w wr) (k : Nat) : Below w.heap.size w (wr.drewN k) := h.trans ⟨rfl, rfl, rfl, Nat.le_refl _, fun _ _ => rfl⟩
theorem prefix_more {a b : List Bs} {k : Nat} (hl : b.length ≤ a.length) (hk : ∀ j, j < k → a[j]? = b[j]?) (hb : b.length ≤ k) : b <+: a := by
  refine ⟨a.drop b.length, ?_⟩
  have e : b = a.take b.length := by
    apply List.ext_getElem?
    intro j
    by_cases h : j < b.length
    · rw [List.getElem?_take_of_lt h, hk j (by omega)]
    · rw [List.getElem?_eq_none (by omega), List.getElem?_eq_none (by rw [List.length_take]; omega)]
  have h2 := List.take_append_drop b.length a
  rw [← e] at h2
  exact h2
theorem prefix_at {a b : List Bs} (h : b <+: a) {j : Nat} (hj : j < b.length) : a[j]? = b[j]? := by
  obtain ⟨t, rfl⟩ := h
  rw [List.getElem?_append_left hj]
set_option maxHeartbeats 2000000 in
theorem begins_any {w : World} {va vb : Value} {a b : List Bs} (ha : Texts w va a) (hb : Texts w vb b) (hla : a.length ≤ 1000000) (hlb : b.length ≤ 1000000) : Calls Try.prog 33 #[va, vb] w fun e w' => e = .returned (.bool (decide (b <+: a))) ∧ Below w.heap.size w w' := by
  obtain ⟨aa, ca, rfl, _, _, hca⟩ := ha
  obtain ⟨ab, cb, rfl, _, _, hcb⟩ := hb
  obtain ⟨R, hR⟩ : ∃ R, decide (b <+: a) = R := ⟨_, rfl⟩
  rw [hR]
  have HR := Lib.hid hR
  clear hR
  by_cases hlt : a.length < b.length
  · have hr : R = false := by
      rw [← HR.out]
      exact decide_eq_false fun h => by have := h.length_le; omega
    have HRF := Lib.hid hr
    clear hr hca hcb
    generalize a.length = na at *
    generalize b.length = nb at *
    go_enter Try.func33, Try.ntmps33
    go_wp2_with fail
    go_ret
    exact ⟨ret_b HRF.out.symm, below_self _⟩
  · have HCA := Lib.hid hca
    have HCB := Lib.hid hcb
    have hle : b.length ≤ a.length := by omega
    have HLE := Lib.hid hle
    obtain ⟨na, hna⟩ : ∃ n, a.length = n := ⟨_, rfl⟩
    obtain ⟨nb, hnb⟩ : ∃ n, b.length = n := ⟨_, rfl⟩
    have HNA := Lib.hid hna
    have HNB := Lib.hid hnb
    rw [hna] at hla hlt hle
    rw [hnb] at hlb hlt hle
    rw [hna, hnb]
    have dl : decide (na < nb) = false := decide_eq_false hlt
    clear hca hcb hna hnb hlt
    go_enter Try.func33, Try.ntmps33
    go_wp2_with fail
    go_loopw [5] (fun i wr => ∃ k : Nat, k ≤ nb ∧ i = .int .i64 k ∧ Hid (Below w.heap.size w wr ∧ ∀ j, j < k → a[j]? = b[j]?)) (fun i _ => nb - (intOf i).toNat)
    case atStart => exact ⟨0, Nat.zero_le _, rfl, Lib.hid ⟨below_self _, fun j hj => by omega⟩⟩
    case round =>
      obtain ⟨k, hk, rfl, HB⟩ := hrel
      by_cases hlt : k < nb
      · obtain ⟨x, hx⟩ : ∃ x, a[k]? = some x := ⟨a[k]'(by have := HNA.out; omega), List.getElem?_eq_getElem _⟩
        obtain ⟨y, hy⟩ : ∃ y, b[k]? = some y := ⟨b[k]'(by have := HNB.out; omega), List.getElem?_eq_getElem _⟩
        obtain ⟨ga, oa, rfl, hga, hcella⟩ := HCA.out (by have := HNA.out; omega)
        obtain ⟨gb, ob, rfl, hgb, hcellb⟩ := HCB.out (by have := HNB.out; omega)
        have c1 : wr.cell? ⟨ga, oa + k, none⟩ = some (.string (sv x)) := (HB.out.1.cell (p := ⟨ga, oa + k, none⟩) hga).trans (hcella k x hx)
        have c2 : wr.cell? ⟨gb, ob + k, none⟩ = some (.string (sv y)) := (HB.out.1.cell (p := ⟨gb, ob + k, none⟩) hgb).trans (hcellb k y hy)
        have hka : (k : Int) < (na : Int) := by omega
        have hkb : (k : Int) < (nb : Int) := by omega
        have HX := Lib.hid hx
        have HY := Lib.hid hy
        clear hcella hcellb hx hy hga hgb
        by_cases hxy : x = y
        · have d1 : ((sv x).toList == (sv y).toList) = true := by rw [hxy]; exact beq_self_eq_true _
          have HXY := Lib.hid hxy
          clear hxy
          go_wp2_with fail
          go_quiet (fail)
          go_wp2_with fail
          go_roundw
          case rel =>
            refine ⟨k + 1, hlt, by go_num, Lib.hid ⟨by (first | exact HB.out.1 | exact below_nq HB.out.1 _), fun j hj => ?_⟩⟩
            rcases Nat.lt_or_ge j k with h1 | h1
            · exact HB.out.2 j h1
            · obtain rfl : j = k := by omega
              rw [HX.out, HY.out, HXY.out]
          case measure => simp [intOf]; omega
        · have d1 : ((sv x).toList == (sv y).toList) = false := by
            rw [sv_toList, sv_toList]
            simpa using hxy
          have hr : R = false := by
            rw [← HR.out]
            refine decide_eq_false fun h => hxy ?_
            have := prefix_at h (j := k) (by have := HNB.out; omega)
            rw [HX.out, HY.out] at this
            injection this
          have HRF := Lib.hid hr
          clear hxy hr
          go_wp2_with fail
          go_quiet (fail)
          go_wp2_with fail
          go_ret
          exact ⟨ret_b HRF.out.symm, by (first | exact HB.out.1 | exact below_nq HB.out.1 _)⟩
      · obtain rfl : k = nb := by omega
        have hr : R = true := by
          rw [← HR.out]
          exact decide_eq_true (prefix_more HLE.out HB.out.2 (by have := HNB.out; omega))
        have HRT := Lib.hid hr
        clear hr
        go_wp2_with fail
        go_ret
        exact ⟨ret_b HRT.out.symm, HB.out.1⟩
theorem same_any {w : World} {va vb : Value} {a b : List Bs} (ha : Texts w va a) (hb : Texts w vb b) (hla : a.length ≤ 1000000) (hlb : b.length ≤ 1000000) : Calls Try.prog 17 #[va, vb] w fun e w' => e = .returned (.bool (decide (a = b))) ∧ Below w.heap.size w w' := by
  have HG := Lib.hid (begins_any ha hb hla hlb)
  obtain ⟨aa, ca, rfl, _⟩ := ha
  obtain ⟨ab, cb, rfl, _⟩ := hb
  obtain ⟨R, hR⟩ : ∃ R, decide (a = b) = R := ⟨_, rfl⟩
  obtain ⟨Q, hQ⟩ : ∃ Q, decide (b <+: a) = Q := ⟨_, rfl⟩
  rw [hR]
  rw [hQ] at HG
  by_cases hl : a.length = b.length
  · have hr : Q = R := by
      rw [← hQ, ← hR, Bool.eq_iff_iff, decide_eq_true_iff, decide_eq_true_iff]
      constructor
      · exact fun h => (h.eq_of_length hl.symm).symm
      · rintro rfl; exact List.prefix_rfl
    have HRQ := Lib.hid hr
    rw [hl] at HG ⊢
    clear hr hR hQ hl hla
    generalize b.length = nb at *
    go_enter Try.func17, Try.ntmps17
    go_wp2_with fail
    refine HG.out.mono ?_
    rintro e w1 ⟨rfl, hb⟩
    go_wp2_with fail
    go_ret
    exact ⟨ret_b HRQ.out, hb⟩
  · have hr : R = false := by rw [← hR]; exact decide_eq_false fun h => hl (by rw [h])
    have HRF := Lib.hid hr
    clear hr hR hQ HG
    generalize a.length = na at *
    generalize b.length = nb at *
    have dl : (((na : Nat) : Int) == ((nb : Nat) : Int)) = false := by simp; omega
    clear hl
    go_enter Try.func17, Try.ntmps17
    go_wp2_with fail
    go_ret
    exact ⟨ret_b HRF.out.symm, below_self _⟩
end Go.Proofs.Ytdjchpejhfkknaa.Lw
