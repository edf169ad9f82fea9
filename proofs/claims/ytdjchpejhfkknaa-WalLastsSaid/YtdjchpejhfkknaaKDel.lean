/- slices.DeleteFunc with the closure of fit: the pending appends of size 0 go. Conditions: the list lies in a row of its own; it has at most 2^27 elements. -/
import Derived.Test.YtdjchpejhfkknaaKClone
namespace Go.Proofs.Ytdjchpejhfkknaa.Dk
open Go.RowKit Km
set_option linter.unusedVariables false
set_option maxRecDepth 100000

theorem del1_any (a b : Nat) (w : World) : Calls Try.prog 92 #[.agg #[.int .i64 (a : Nat), .int .i64 (b : Nat)]] w fun e w' => e = .returned (.bool (((b : Nat) : Int) == 0)) ∧ Below w.heap.size w w' := by
  go_enter Try.func92, Try.ntmps92
  go_wp2
  go_ret
  exact ⟨rfl, by repeat first | exact below_alloc _ _ | refine Below.setCell ?_ (Nat.le_refl _) _⟩

/-- The index of the first pending append of size 0, or the length. -/
def idxN (l : Pd) : Nat := l.findIdx fun p => p.2 == 0
def idxZ (l : Pd) : Int := if idxN l < l.length then (idxN l : Nat) else -1
set_option maxHeartbeats 2000000 in
theorem idx_any {w : World} {v : Value} {l : Pd} (h : w.ownsRow 0 98 2 v l.length (pc l)) (hl : l.length ≤ 134217728) :
    Calls Try.prog 95 #[v, .func (.func 92) #[] #[]] w fun e w' => e = .returned (.int .i64 (idxZ l)) ∧ Below w.heap.size w w' := by
  obtain ⟨a, c, rfl⟩ := owns_slice h
  have HO := Lib.hid h
  have HL := Lib.hid hl
  clear h
  go_enter Try.func95, Try.ntmps95
  go_wp2_with fail
  go_loopw [8] (fun i wr => ∃ k : Nat, k ≤ l.length ∧ i = .int .i64 k ∧ Hid (Below w.heap.size w wr ∧ k ≤ idxN l)) (fun i _ => l.length - (intOf i).toNat)
  case atStart => exact ⟨0, Nat.zero_le _, rfl, Lib.hid ⟨below_self _, Nat.zero_le _⟩⟩
  case round =>
    obtain ⟨k, hk, rfl, HB⟩ := hrel
    by_cases hlt : k < l.length
    · obtain ⟨g, cur, hv, hg⟩ : ∃ g cur, a = some ⟨g, 0, none⟩ ∧ w.heap[g]? = some (.cells cur 98 (0, 0)) := by
        rcases HO.out.2 with ⟨_, h2⟩ | ⟨g, cap, cur, h1, _, h3, h4, h5, h6, h7⟩
        · omega
        · injection h1 with e1 e2 e3
          exact ⟨g, cur, e1, h3⟩
      subst hv
      obtain ⟨p, hp⟩ : ∃ p, l[k]? = some p := ⟨l[k], List.getElem?_eq_getElem hlt⟩
      have hcell : ∀ j u, (pc l)[j]? = some u → wr.cell? ⟨g, j, none⟩ = some u := by
        intro j u hu
        have hg' : g < w.heap.size := (Array.getElem?_eq_some_iff.1 hg).1
        rw [HB.out.1.cell (p := ⟨g, j, none⟩) hg']
        have := HO.out.cells (g := g) rfl j u hu
        rw [add_zero_addr] at this
        exact this
      obtain ⟨q1, q2⟩ := pc_at l k p hp
      have c1 := hcell _ _ q1
      have c2 := hcell _ _ q2
      have hd := fun W => del1_any p.1 p.2 W
      have HD := Lib.hid hd
      have HP := Lib.hid hp
      clear hcell q1 q2 hd hp hg
      cases hz : ((p.2 : Nat) : Int) == 0 with
      | true =>
        have hz0 : p.2 = 0 := by simpa using hz
        have hi : idxN l = k := by
          have h1 := HB.out.2
          have h2 : idxN l ≤ k := by
            rcases Nat.lt_or_ge k (idxN l) with h3 | h3
            · have := List.not_of_lt_findIdx h3
              have hpp := HP.out
              rw [List.getElem?_eq_getElem hlt] at hpp
              injection hpp with hpp
              rw [hpp] at this
              simp [hz0] at this
            · exact h3
          omega
        have hr : idxZ l = (k : Nat) := by unfold idxZ; rw [hi, if_pos hlt]
        have HR := Lib.hid hr
        have HZ := Lib.hid hz
        clear hz hz0 hi hr
        generalize p.1 = p1 at *
        generalize p.2 = p2 at *
        go_wp2_with fail
        refine (HD.out _).mono ?_
        rintro e w2 ⟨rfl, hb2⟩
        rw [HZ.out]
        have HB2 := Lib.hid hb2
        clear hb2
        go_wp2_with fail
        go_ret
        exact ⟨ret_i HR.out.symm, below_trans HB.out.1 HB2.out⟩
      | false =>
        have hz0 : p.2 ≠ 0 := by simpa using hz
        have hi : k + 1 ≤ idxN l := by
          have h1 := HB.out.2
          rcases Nat.lt_or_ge k (idxN l) with h3 | h3
          · omega
          · have e : idxN l = k := by omega
            have h4 : l.findIdx (fun p => p.2 == 0) < l.length := by show idxN l < _; omega
            have h5 := List.findIdx_getElem (w := h4)
            have hpp := HP.out
            have e' : l.findIdx (fun p => p.2 == 0) = k := e
            simp only [e'] at h5
            rw [List.getElem?_eq_getElem hlt] at hpp
            injection hpp with hpp
            rw [hpp] at h5
            simp [hz0] at h5
        have HI := Lib.hid hi
        have HZ := Lib.hid hz
        clear hz hz0 hi
        generalize p.1 = p1 at *
        generalize p.2 = p2 at *
        go_wp2_with fail
        refine (HD.out _).mono ?_
        rintro e w2 ⟨rfl, hb2⟩
        rw [HZ.out]
        have HB2 := Lib.hid hb2
        clear hb2
        go_wp2_with fail
        go_roundw
        case rel => exact ⟨k + 1, by omega, by go_num, Lib.hid ⟨below_trans HB.out.1 HB2.out, HI.out⟩⟩
        case measure => simp [intOf]; omega
    · obtain rfl : k = l.length := by omega
      have hr : idxZ l = -1 := by unfold idxZ; rw [if_neg (by have := HB.out.2; omega)]
      have HR := Lib.hid hr
      clear hr
      go_wp2_with fail
      go_ret
      exact ⟨ret_i HR.out.symm, HB.out.1⟩
end Go.Proofs.Ytdjchpejhfkknaa.Dk
