/- few: what is known of a list of acts of which it says true. Conditions: the acts read. -/
import Derived.Test.YtdjchpejhfkknaaLActs
namespace Go.Proofs.Ytdjchpejhfkknaa.Lw
open Go.RowKit Km Dk
open Lm hiding Bs
set_option linter.unusedVariables false
set_option maxRecDepth 100000

theorem ax_cells {w W : World} {v : Value} {l : List (Ax × Value × Value)} {a : Option Addr} {c : Nat} (h : Axs w v l) (hb : ∀ b, b < w.heap.size → W.heap[b]? = w.heap[b]?) (hv : v = .slice a l.length c) {j : Nat} {p : Ax × Value × Value} (hp : l[j]? = some p) :
    ∃ b o, a = some ⟨b, o, none⟩ ∧ b < w.heap.size ∧ W.cell? ⟨b, o + j * 5, none⟩ = some (.int .i64 p.1.d) ∧ W.cell? ⟨b, o + j * 5 + 1, none⟩ = some (.string (sv p.1.s)) ∧ W.cell? ⟨b, o + j * 5 + 2, none⟩ = some p.2.1 ∧
      W.cell? ⟨b, o + j * 5 + 3, none⟩ = some (.int .i64 p.1.n) ∧ W.cell? ⟨b, o + j * 5 + 4, none⟩ = some p.2.2 := by
  obtain ⟨a', c', e, _, _, hc⟩ := h
  have hj := (List.getElem?_eq_some_iff.1 hp).1
  obtain ⟨b, o, e2, h1, h2⟩ := hc (by omega)
  rw [hv] at e
  injection e with e3 e4 e5
  have key : ∀ i, i < 5 → W.cell? ⟨b, o + j * 5 + i, none⟩ = (axC p.1 p.2.1 p.2.2)[i]? := fun i hi => (World.cell?_of_block (w := w) (a := ⟨b, o + j * 5 + i, none⟩) (hb b h1)).trans (h2 j p hp i hi)
  exact ⟨b, o, by rw [e3, e2], h1, key 0 (by decide), key 1 (by decide), key 2 (by decide), key 3 (by decide), key 4 (by decide)⟩
theorem wrapOk {x : Int} (h1 : 0 ≤ x) (h2 : x ≤ 1000000000) : wrap64 x = x := by unfold wrap64; omega
theorem wr1 {j : Nat} (h : j ≤ 1000) : wrap64 (((j : Nat) : Int) + 1) = ((j + 1 : Nat) : Int) := (wrapOk (by omega) (by omega)).trans (by omega)
theorem wr2 {z s : Nat} (h : z ≤ 10000000) (h2 : s ≤ 3000) : wrap64 (((z : Nat) : Int) + ((s : Nat) : Int)) = ((z + s : Nat) : Int) := (wrapOk (by omega) (by omega)).trans (by omega)
theorem zs1 {z j x n : Nat} (h : z ≤ j * 39000 + 3000 + x * 3000) (h1 : x ≤ n) (h2 : n ≤ 12) : z ≤ (j + 1) * 39000 := by omega
theorem zs2 {z j x t : Nat} (h : z ≤ j * 39000 + 3000 + x * 3000) (h1 : t ≤ 3000) : z + t ≤ j * 39000 + 3000 + (x + 1) * 3000 := by omega
theorem zs3 {z j x n N : Nat} (h : z ≤ j * 39000 + 3000 + x * 3000) (h1 : x ≤ n) (h2 : n ≤ 12) (h3 : j < N) (h4 : N ≤ 30) : z ≤ 10000000 := by omega
theorem zs4 {z j N : Nat} (h : z ≤ j * 39000) (h3 : j < N) (h4 : N ≤ 30) : z ≤ 10000000 := by omega
theorem min_cast (a c : Nat) : min ((a : Nat) : Int) ((c : Nat) : Int) = ((min a c : Nat) : Int) := by omega
theorem min_le (a c : Nat) : min a c ≤ c := Nat.min_le_right a c
structure FewP (l : List (Ax × Value × Value)) : Prop where
  len : l.length ≤ 30
  all : ∀ p ∈ l, p.1.l.length ≤ 12 ∧ p.1.k.length ≤ 8 ∧ p.1.s.length ≤ 2000 ∧ ∀ t ∈ p.1.l, t.length ≤ 2000
/-- What is known of the first i acts where the sum stands at z. -/
def Bd (l : List (Ax × Value × Value)) (i z : Nat) : Prop := ∀ p ∈ l.take i, p.1.l.length ≤ 12 ∧ p.1.k.length ≤ 8 ∧ min p.1.s.length 3000 ≤ z ∧ ∀ t ∈ p.1.l, min t.length 3000 ≤ z
theorem Bd.mono {l : List (Ax × Value × Value)} {i z z' : Nat} (h : Bd l i z) (hz : z ≤ z') : Bd l i z' := fun p hp => by
  obtain ⟨h1, h2, h3, h4⟩ := h p hp
  exact ⟨h1, h2, by omega, fun t ht => by have := h4 t ht; omega⟩
theorem Bd.next {l : List (Ax × Value × Value)} {i z : Nat} {p : Ax × Value × Value} (h : Bd l i z) (hp : l[i]? = some p) (h1 : p.1.l.length ≤ 12) (h2 : p.1.k.length ≤ 8) (h3 : min p.1.s.length 3000 ≤ z) (h4 : ∀ t ∈ p.1.l, min t.length 3000 ≤ z) : Bd l (i + 1) z := fun q hq => by
  rw [take_snoc hp] at hq
  rcases List.mem_append.1 hq with hq | hq
  · exact h q hq
  · rw [List.mem_singleton] at hq; subst hq; exact ⟨h1, h2, h3, h4⟩
theorem Bd.few {l : List (Ax × Value × Value)} {z : Nat} (h : Bd l l.length z) (hl : l.length ≤ 30) (hz : z ≤ 2000) : FewP l := ⟨hl, fun p hp => by
  obtain ⟨h1, h2, h3, h4⟩ := h p (by rw [List.take_length]; exact hp)
  exact ⟨h1, h2, by omega, fun t ht => by have := h4 t ht; omega⟩⟩
theorem few_many7 {w : World} {v : Value} {l : List (Ax × Value × Value)} (h : Axs w v l) (hm : 30 < l.length) : Calls Try.prog 12 #[v] w fun e w' => ∃ b, e = .returned (.bool b) ∧ (b = true → FewP l) ∧ Below w.heap.size w w' := by
  obtain ⟨a, c, hv, hl, hr, _⟩ := h
  obtain ⟨N, hN⟩ : ∃ N, l.length = N := ⟨_, rfl⟩
  rw [hv, hN]
  have d1 : decide (30 < ((N : Nat) : Int)) = true := decide_eq_true (by omega)
  have d2 : decide (30 < N) = true := decide_eq_true (by omega)
  clear hv hl hr hN hm
  go_enter Try.func12, Try.ntmps12
  go_wp2_with fail
  go_ret
  exact ⟨false, rfl, (fun h => by cases h), below_self _⟩
set_option maxHeartbeats 4000000 in
theorem few_less7 {w : World} {v : Value} {l : List (Ax × Value × Value)} (h : Axs w v l) (hm : l.length ≤ 30) : Calls Try.prog 12 #[v] w fun e w' => ∃ b, e = .returned (.bool b) ∧ (b = true → FewP l) ∧ Below w.heap.size w w' := by
  have HA := Lib.hid h
  obtain ⟨a, c, hv, hl, hr, _⟩ := h
  have HVV := Lib.hid hv
  have HR := Lib.hid hr
  obtain ⟨N, hN⟩ : ∃ N, l.length = N := ⟨_, rfl⟩
  have HN := Lib.hid hN
  rw [hv, hN]
  rw [hN] at hm
  have d1 : decide (30 < ((N : Nat) : Int)) = false := decide_eq_false (by omega)
  have d2 : decide (30 < N) = false := decide_eq_false (by omega)
  have HMM := Lib.hid hm
  clear hv hl hr hN hm
  go_enter Try.func12, Try.ntmps12
  go_wp2_with fail
  go_loopw [3, 4] (fun s i W => ∃ (j z : Nat), j ≤ N ∧ i = .int .i64 j ∧ s = .int .i64 z ∧ Hid (Below w.heap.size w W ∧ z ≤ j * 39000 ∧ Bd l j z)) (fun _ i _ => N - (intOf i).toNat)
  case atStart => exact ⟨0, 0, Nat.zero_le _, rfl, rfl, Lib.hid ⟨below_self _, Nat.zero_le _, fun p hp => by simp at hp⟩⟩
  case round =>
    obtain ⟨j, z, hj, rfl, rfl, HW⟩ := hrel
    by_cases hlt : j < N
    · obtain ⟨p, hp⟩ : ∃ p, l[j]? = some p := ⟨l[j]'(by have := HN.out; omega), List.getElem?_eq_getElem _⟩
      have HP := Lib.hid hp
      obtain ⟨b, o, rfl, hb, _, c1, c2, _, c4⟩ := ax_cells HA.out (W := wr) (fun b hb => HW.out.1.block b hb) HVV.out hp
      have hra := HR.out p (List.mem_of_getElem? hp)
      have HT := Lib.hid hra.2.2.2.1
      obtain ⟨la, lc, hlv, hlm, _⟩ := hra.2.2.2.1
      obtain ⟨ka, kc, hk, _⟩ := hra.2.2.2.2.2.2.1
      have HLV := Lib.hid hlv
      rw [hk] at c4
      rw [hlv] at c2
      obtain ⟨ln, hln⟩ : ∃ n, p.1.l.length = n := ⟨_, rfl⟩
      obtain ⟨kn, hkn⟩ : ∃ n, p.1.k.length = n := ⟨_, rfl⟩
      have HLN := Lib.hid hln
      have HKN := Lib.hid hkn
      rw [hln] at c2 hlm
      rw [hkn] at c4
      by_cases hl12 : 12 < ln
      · have e1 : decide (12 < ((ln : Nat) : Int)) = true := decide_eq_true (by omega)
        have e2 : decide (12 < ln) = true := decide_eq_true hl12
        clear hra hp hlv hk hln hkn hl12 hlm
        go_wp2_with fail
        go_ret
        exact ⟨false, rfl, (fun h => by cases h), HW.out.1⟩
      · have e1 : decide (12 < ((ln : Nat) : Int)) = false := decide_eq_false (by omega)
        have e2 : decide (12 < ln) = false := decide_eq_false hl12
        by_cases hk8 : 8 < kn
        · have e3 : decide (8 < ((kn : Nat) : Int)) = true := decide_eq_true (by omega)
          have e4 : decide (8 < kn) = true := decide_eq_true hk8
          clear hra hp hlv hk hln hkn hl12 hk8 hlm
          go_wp2_with fail
          go_ret
          exact ⟨false, rfl, (fun h => by cases h), HW.out.1⟩
        · have e3 : decide (8 < ((kn : Nat) : Int)) = false := decide_eq_false (by omega)
          have e4 : decide (8 < kn) = false := decide_eq_false hk8
          have hsz : (sv p.1.s).size = p.1.s.length := rfl
          have hmin : min (((sv p.1.s).size : Nat) : Int) 3000 = ((min p.1.s.length 3000 : Nat) : Int) := by rw [hsz]; exact min_cast _ 3000
          have hsl : min p.1.s.length 3000 ≤ 3000 := min_le _ _
          obtain ⟨sn, hsn⟩ : ∃ n, min p.1.s.length 3000 = n := ⟨_, rfl⟩
          rw [hsn] at hmin hsl
          have HSN := Lib.hid hsn
          clear hsn
          have hsum : wrap64 (((z : Nat) : Int) + ((sn : Nat) : Int)) = ((z + sn : Nat) : Int) := wr2 (zs4 HW.out.2.1 hlt HMM.out) hsl
          have HK12 := Lib.hid (show ln ≤ 12 ∧ kn ≤ 8 ∧ sn ≤ 3000 from ⟨Nat.le_of_not_lt hl12, Nat.le_of_not_lt hk8, hsl⟩)
          have HSUM := Lib.hid hsum
          clear hra hp hlv hk hln hkn hl12 hk8 hsz hsl hlm
          generalize sv p.1.s = S at *
          go_wp2_with fail
          clear c1 c2 c4
          go_loopw [3, 5] (fun s k W => ∃ (x z' : Nat), x ≤ ln ∧ k = .int .i64 x ∧ s = .int .i64 z' ∧ Hid (Below w.heap.size w W ∧ z + sn ≤ z' ∧ z' ≤ j * 39000 + 3000 + x * 3000 ∧ ∀ t ∈ p.1.l.take x, min t.length 3000 ≤ z')) (fun _ k _ => ln - (intOf k).toNat)
          case atStart => exact ⟨0, z + sn, Nat.zero_le _, rfl, by rw [HSUM.out], Lib.hid ⟨HW.out.1, Nat.le_refl _, by have h1 := HW.out.2.1; have h2 := HK12.out; omega, fun t ht => by simp at ht⟩⟩
          case round =>
            obtain ⟨x, z', hx, rfl, rfl, HV⟩ := hrel
            obtain ⟨b', o', ha', hb', _, _, c2, _, _⟩ := ax_cells HA.out (W := wr) (fun b hb => HV.out.1.block b hb) HVV.out HP.out
            rw [HLV.out, HLN.out] at c2
            injection ha' with ha'
            injection ha' with ha1 ha2
            subst ha1 ha2
            by_cases hxl : x < ln
            · obtain ⟨t, ht⟩ : ∃ t, p.1.l[x]? = some t := ⟨p.1.l[x]'(by have := HLN.out; omega), List.getElem?_eq_getElem _⟩
              obtain ⟨_, _, hv2, _, hts, htc⟩ := HT.out
              rw [HLV.out] at hv2
              injection hv2 with hv3
              subst hv3
              obtain ⟨b2, o2, rfl, hb2, hc2⟩ := htc (by have := HLN.out; omega)
              have ct := (HV.out.1.cell (show (⟨b2, o2 + x, none⟩ : Addr).block < w.heap.size from hb2)).trans (hc2 x t ht)
              have hsz : (sv t).size = t.length := rfl
              have hmin : min (((sv t).size : Nat) : Int) 3000 = ((min t.length 3000 : Nat) : Int) := by rw [hsz]; exact min_cast _ 3000
              have htl : min t.length 3000 ≤ 3000 := min_le _ _
              obtain ⟨tn, htn⟩ : ∃ n, min t.length 3000 = n := ⟨_, rfl⟩
              rw [htn] at hmin htl
              have hsum : wrap64 (((z' : Nat) : Int) + ((tn : Nat) : Int)) = ((z' + tn : Nat) : Int) := wr2 (zs3 HV.out.2.2.1 hx HK12.out.1 hlt HMM.out) htl
              have hx1 : wrap64 (((x : Nat) : Int) + 1) = ((x + 1 : Nat) : Int) := wr1 (Nat.le_trans hx (Nat.le_trans HK12.out.1 (by decide)))
              have HX1 := Lib.hid hx1
              have HSUM2 := Lib.hid hsum
              have HTN := Lib.hid (show tn ≤ 3000 ∧ ∀ q ∈ p.1.l.take (x + 1), min q.length 3000 ≤ z' + tn from ⟨htl, fun q hq => by
                rw [take_snoc ht] at hq
                rcases List.mem_append.1 hq with hq | hq
                · exact Nat.le_trans (HV.out.2.2.2 q hq) (Nat.le_add_right _ _)
                · rw [List.mem_singleton] at hq
                  subst hq
                  rw [htn]
                  exact Nat.le_add_left _ _⟩)
              have HXL := Lib.hid (show x + 1 ≤ ln from Nat.succ_le_of_lt hxl)
              have hr1 : z + sn ≤ z' + tn := Nat.le_trans HV.out.2.1 (Nat.le_add_right _ _)
              have hr2 : z' + tn ≤ j * 39000 + 3000 + (x + 1) * 3000 := zs2 HV.out.2.2.1 HTN.out.1
              have HREL := Lib.hid (show z + sn ≤ z' + tn ∧ z' + tn ≤ j * 39000 + 3000 + (x + 1) * 3000 ∧ ∀ q ∈ p.1.l.take (x + 1), min q.length 3000 ≤ z' + tn from ⟨hr1, hr2, HTN.out.2⟩)
              clear hr1 hr2
              clear ht hts htc hc2 hb2 hsz htn htl
              generalize sv t = T at *
              go_wp2_with fail
              go_roundw
              case rel => exact ⟨x + 1, z' + tn, HXL.out, by rw [HX1.out], by rw [HSUM2.out], Lib.hid ⟨HV.out.1, HREL.out⟩⟩
              case measure =>
                rw [HX1.out]
                show ln - ((x + 1 : Nat) : Int).toNat < ln - ((x : Nat) : Int).toNat
                rw [Int.toNat_natCast, Int.toNat_natCast]
                exact Nat.sub_lt_sub_left hxl (Nat.lt_succ_self _)
            · have hxe : x = ln := Nat.le_antisymm hx (Nat.le_of_not_lt hxl)
              have hj1 : wrap64 (((j : Nat) : Int) + 1) = ((j + 1 : Nat) : Int) := wr1 (Nat.le_trans hj (Nat.le_trans HMM.out (by decide)))
              have HJ1 := Lib.hid hj1
              have hz2 : z ≤ z' := Nat.le_trans (Nat.le_add_right _ _) HV.out.2.1
              have hz3 : z' ≤ (j + 1) * 39000 := zs1 HV.out.2.2.1 hx HK12.out.1
              have h4 : ∀ t ∈ p.1.l, min t.length 3000 ≤ z' := by
                have h4 := HV.out.2.2.2
                rw [hxe, ← HLN.out, List.take_length] at h4
                exact h4
              have HBD := Lib.hid (show Bd l (j + 1) z' from (HW.out.2.2.mono hz2).next HP.out (by rw [HLN.out]; exact HK12.out.1) (by rw [HKN.out]; exact HK12.out.2.1) (by rw [HSN.out]; exact Nat.le_trans (Nat.le_add_left _ _) HV.out.2.1) h4)
              have HZ3 := Lib.hid hz3
              have HJL := Lib.hid (show j + 1 ≤ N from Nat.succ_le_of_lt hlt)
              clear h4 hz2 hz3
              go_wp2_with fail
              go_roundw
              case rel => exact ⟨j + 1, z', HJL.out, by rw [HJ1.out], rfl, Lib.hid ⟨HV.out.1, HZ3.out, HBD.out⟩⟩
              case measure =>
                rw [HJ1.out]
                show N - ((j + 1 : Nat) : Int).toNat < N - ((j : Nat) : Int).toNat
                rw [Int.toNat_natCast, Int.toNat_natCast]
                exact Nat.sub_lt_sub_left hlt (Nat.lt_succ_self _)
    · have hjN : j = N := by omega
      subst hjN
      by_cases hz : z ≤ 2000
      · have e1 : decide (((z : Nat) : Int) ≤ 2000) = true := decide_eq_true (by omega)
        have e2 : decide (z ≤ 2000) = true := decide_eq_true hz
        have HF := Lib.hid (show FewP l by
          have h1 := HW.out.2.2
          have h2 := HMM.out
          rw [← HN.out] at h1 h2
          exact h1.few h2 hz)
        clear hz
        go_wp2_with fail
        go_ret
        exact ⟨_, rfl, fun _ => HF.out, HW.out.1⟩
      · have e1 : decide (((z : Nat) : Int) ≤ 2000) = false := decide_eq_false (by omega)
        have e2 : decide (z ≤ 2000) = false := decide_eq_false hz
        have HZ := Lib.hid hz
        clear hz
        go_wp2_with fail
        go_ret
        exact ⟨_, rfl, (fun h => absurd h (by simp)), HW.out.1⟩
theorem few_any7 {w : World} {v : Value} {l : List (Ax × Value × Value)} (h : Axs w v l) : Calls Try.prog 12 #[v] w fun e w' => ∃ b, e = .returned (.bool b) ∧ (b = true → FewP l) ∧ Below w.heap.size w w' := by
  by_cases hm : 30 < l.length
  · exact few_many7 h hm
  · exact few_less7 h (by omega)
end Go.Proofs.Ytdjchpejhfkknaa.Lw
