/- few: whether there are at most 200 acts with at most 100000 bytes. Conditions: the acts read. -/
import Derived.Test.YtjgedopbcopnkaaKLaO
namespace Go.Proofs.Ytjgedopbcopnkaa.Dk
open Go.RowKit Km
set_option linter.unusedVariables false

def szA (l : List (Ac × Value)) : Nat := (l.map fun p => p.1.s.length + p.1.k.length).sum
theorem szA_take (l : List (Ac × Value)) (j : Nat) (p : Ac × Value) (h : l[j]? = some p) : szA (l.take (j + 1)) = szA (l.take j) + p.1.s.length + p.1.k.length := by
  unfold szA
  rw [take_snoc h]
  simp
  omega
def fewB (l : List (Ac × Value)) : Bool := decide (l.length ≤ 200) && decide (szA l ≤ 100000)
theorem szA_bound {w : World} {l : List (Ac × Value)} (h : ∀ p ∈ l, ActR w p) (j : Nat) : szA (l.take j) ≤ j * 158329674399744 := by
  induction j with
  | zero => simp [szA]
  | succ j ih =>
    rcases Nat.lt_or_ge j l.length with hj | hj
    · have := szA_take l j _ (List.getElem?_eq_getElem hj)
      have h2 := h _ (List.getElem_mem hj)
      have h3 := h2.2.2.2.2.1
      have h4 := h2.2.2.2.2.2.1
      rw [Nat.succ_mul, this, Nat.add_assoc]
      exact Nat.add_le_add ih (by omega)
    · rw [List.take_of_length_le (by omega)]
      rw [List.take_of_length_le (by omega)] at ih
      rw [Nat.succ_mul]
      exact Nat.le_trans ih (Nat.le_add_right _ _)
theorem wrapF (z j s : Nat) (hz : z ≤ j * 158329674399744) (hj : j ≤ 200) (hs : s ≤ 140737488355328) : IntKind.i64.wrap (((z : Nat) : Int) + ((s : Nat) : Int)) = ((z + s : Nat) : Int) ∧ z + s ≤ 31806672368304128 := by
  have h : z ≤ 31665934879948800 := Nat.le_trans hz (Nat.le_trans (Nat.mul_le_mul_right _ hj) (by decide))
  refine ⟨?_, by omega⟩
  rw [IntKind.wrap_i64]
  omega
theorem wrapG (z s : Nat) (hz : z ≤ 31806672368304128) (hs : s ≤ 17592186044416) : IntKind.i64.wrap (((z : Nat) : Int) + ((s : Nat) : Int)) = ((z + s : Nat) : Int) := by
  rw [IntKind.wrap_i64]
  omega
theorem wrapK (k : Nat) (h : k ≤ 9223372036854775806) : wrap64 (((k : Nat) : Int) + 1) = ((k + 1 : Nat) : Int) := by unfold wrap64; omega
theorem act_cells {w W : World} {v : Value} {l : List (Ac × Value)} {a : Option Addr} {c : Nat} (h : Acts w v l) (hb : ∀ b, b < w.heap.size → W.heap[b]? = w.heap[b]?) (hv : v = .slice a l.length c) {j : Nat} {p : Ac × Value} (hp : l[j]? = some p) :
    ∃ b o, a = some ⟨b, o, none⟩ ∧ b < w.heap.size ∧ W.cell? ⟨b, o + j * 6, none⟩ = some (.int .i64 p.1.d) ∧ W.cell? ⟨b, o + j * 6 + 1, none⟩ = some (.int .i64 p.1.f) ∧ W.cell? ⟨b, o + j * 6 + 2, none⟩ = some (.int .i64 p.1.g) ∧
      W.cell? ⟨b, o + j * 6 + 3, none⟩ = some (.int .i64 p.1.n) ∧ W.cell? ⟨b, o + j * 6 + 4, none⟩ = some (.string (sv p.1.s)) ∧ W.cell? ⟨b, o + j * 6 + 5, none⟩ = some p.2 := by
  obtain ⟨a', c', e, _, _, hc⟩ := h
  have hj := (List.getElem?_eq_some_iff.1 hp).1
  obtain ⟨b, o, e2, h1, h2⟩ := hc (by omega)
  rw [hv] at e
  injection e with e3 e4 e5
  have key : ∀ i, i < 6 → W.cell? ⟨b, o + j * 6 + i, none⟩ = (actC p.1 p.2)[i]? := fun i hi => (World.cell?_of_block (w := w) (a := ⟨b, o + j * 6 + i, none⟩) (hb b h1)).trans (h2 j p hp i hi)
  exact ⟨b, o, by rw [e3, e2], h1, key 0 (by decide), key 1 (by decide), key 2 (by decide), key 3 (by decide), key 4 (by decide), key 5 (by decide)⟩
set_option maxHeartbeats 4000000 in
set_option maxRecDepth 100000 in
theorem few_many {w : World} {v : Value} {l : List (Ac × Value)} (h : Acts w v l) (hm : 200 < l.length) : Calls Try.prog 9 #[v] w fun e w' => e = .returned (.bool false) ∧ Below w.heap.size w w' := by
  have HA := Lib.hid h
  obtain ⟨a, c, hv, hl, hr, _⟩ := h
  have HVV := Lib.hid hv
  have HL := Lib.hid hl
  have HR := Lib.hid hr
  obtain ⟨N, hN⟩ : ∃ N, l.length = N := ⟨_, rfl⟩
  have HN := Lib.hid hN
  rw [hv, hN]
  rw [hN] at hm
  have dm : ¬ ((N : Nat) : Int) ≤ 200 := by omega
  clear hv hl hr hN hm
  go_enter Try.func9, Try.ntmps9
  go_wp2_with fail
  go_loopw [3, 4] (fun s i W => ∃ (j : Nat) (z : Int), j ≤ N ∧ i = .int .i64 j ∧ s = .int .i64 z ∧ Hid (Below w.heap.size w W)) (fun _ i _ => N - (intOf i).toNat)
  case atStart => exact ⟨0, 0, Nat.zero_le _, rfl, rfl, Lib.hid (below_self _)⟩
  case round =>
    obtain ⟨j, z, hj, rfl, rfl, HW⟩ := hrel
    by_cases hlt : j < N
    · obtain ⟨p, hp⟩ : ∃ p, l[j]? = some p := ⟨l[j]'(by have := HN.out; omega), List.getElem?_eq_getElem _⟩
      obtain ⟨b, o, rfl, hb, _, _, _, _, c4, c5⟩ := act_cells HA.out (W := wr) (fun b hb => HW.out.block b hb) HVV.out hp
      obtain ⟨ka, kc, hk, _⟩ := (HR.out p (List.mem_of_getElem? hp)).2.2.2.2.2.2.2.1
      rw [hk] at c5
      have hwi := wrapK j (by have := HL.out; have := HN.out; omega)
      have HWI := Lib.hid hwi
      clear hp hk hwi hb
      generalize sv p.1.s = S at *
      generalize p.1.k.length = kn at *
      obtain ⟨z1, hz1⟩ : ∃ z1, IntKind.i64.wrap (z + ((S.size : Nat) : Int)) = z1 := ⟨_, rfl⟩
      obtain ⟨z2, hz2⟩ : ∃ z2, IntKind.i64.wrap (z1 + ((kn : Nat) : Int)) = z2 := ⟨_, rfl⟩
      go_upto_region 5 with fail
      go_region
      have HZ2 := Lib.hid hz2
      clear hz1 hz2
      go_wp2_with fail
      go_roundw
      case rel => exact ⟨j + 1, z2, Nat.succ_le_of_lt hlt, by rw [HWI.out], rfl, Lib.hid HW.out.drew⟩
      case measure =>
        rw [HWI.out]
        simp [intOf]
        omega
    · obtain rfl : j = N := by omega
      go_wp2_with fail
      go_ret
      exact ⟨rfl, HW.out⟩
set_option maxHeartbeats 4000000 in
set_option maxRecDepth 100000 in
theorem few_less {w : World} {v : Value} {l : List (Ac × Value)} (h : Acts w v l) (hm : l.length ≤ 200) : Calls Try.prog 9 #[v] w fun e w' => e = .returned (.bool (decide (szA l ≤ 100000))) ∧ Below w.heap.size w w' := by
  have HA := Lib.hid h
  obtain ⟨a, c, hv, hl, hr, _⟩ := h
  have HVV := Lib.hid hv
  have HR := Lib.hid hr
  obtain ⟨N, hN⟩ : ∃ N, l.length = N := ⟨_, rfl⟩
  have HN := Lib.hid hN
  rw [hv, hN]
  rw [hN] at hm
  clear hv hl hr hN
  go_enter Try.func9, Try.ntmps9
  go_wp2_with fail
  go_loopw [3, 4] (fun s i W => ∃ j : Nat, j ≤ N ∧ i = .int .i64 j ∧ s = .int .i64 ((szA (l.take j) : Nat) : Int) ∧ Hid (Below w.heap.size w W)) (fun _ i _ => N - (intOf i).toNat)
  case atStart => exact ⟨0, Nat.zero_le _, rfl, by simp [szA], Lib.hid (below_self _)⟩
  case round =>
    obtain ⟨j, hj, rfl, rfl, HW⟩ := hrel
    by_cases hlt : j < N
    · obtain ⟨p, hp⟩ : ∃ p, l[j]? = some p := ⟨l[j]'(by have := HN.out; omega), List.getElem?_eq_getElem _⟩
      obtain ⟨b, o, rfl, hb, _, _, _, _, c4, c5⟩ := act_cells HA.out (W := wr) (fun b hb => HW.out.block b hb) HVV.out hp
      have hra := HR.out p (List.mem_of_getElem? hp)
      obtain ⟨ka, kc, hk, _⟩ := hra.2.2.2.2.2.2.2.1
      have hs1 := hra.2.2.2.2.1
      have hk1 := hra.2.2.2.2.2.1
      rw [hk] at c5
      have hnx := szA_take l j p hp
      obtain ⟨hz1, hzb⟩ := wrapF (szA (l.take j)) j p.1.s.length (szA_bound HR.out j) (Nat.le_trans hj hm) hs1
      have hz2 := wrapG _ p.1.k.length hzb hk1
      have hsz : (sv p.1.s).size = p.1.s.length := rfl
      rw [← hsz] at hz1 hz2 hnx
      rw [← hnx] at hz2
      clear hp hk hb hra hs1 hk1 hzb hsz hnx
      generalize sv p.1.s = S at *
      generalize p.1.k.length = kn at *
      generalize hgz : szA (l.take (j + 1)) = Z2 at *
      have HGZ := Lib.hid hgz
      clear hgz
      generalize szA (l.take j) = Z0 at *
      generalize hZ1 : ((Z0 + S.size : Nat) : Int) = Z1 at *
      go_upto_region 5 with fail
      go_region
      have HZ2 := Lib.hid hz2
      clear hz1 hz2 hZ1
      go_wp2_with fail
      go_roundw
      case rel => exact ⟨j + 1, by omega, by go_num, by rw [HGZ.out], Lib.hid HW.out.drew⟩
      case measure => simp [intOf]; omega
    · obtain rfl : j = N := by omega
      have htk : szA (l.take j) = szA l := by rw [← HN.out, List.take_length]
      rw [htk]
      clear htk
      have dn : ((j : Nat) : Int) ≤ 200 := by omega
      by_cases hz : szA l ≤ 100000
      · have dz : ((szA l : Nat) : Int) ≤ 100000 := by omega
        have HZ := Lib.hid hz
        clear hz
        go_wp2_with fail
        go_ret
        exact ⟨ret_b (decide_eq_true HZ.out).symm, HW.out⟩
      · have dz : ¬ ((szA l : Nat) : Int) ≤ 100000 := by omega
        have HZ := Lib.hid hz
        clear hz
        go_wp2_with fail
        go_ret
        exact ⟨ret_b (decide_eq_false HZ.out).symm, HW.out⟩
end Go.Proofs.Ytjgedopbcopnkaa.Dk
