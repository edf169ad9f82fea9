/- The statement DiskArms: the walk where the bounds do not hold. Conditions: each text has at most 2^47 bytes. -/
import Derived.Test.YtjgedopbcopnkaaKOpenT
import Derived.Test.YtjgedopbcopnkaaKArF
import Derived.Test.YtjgedopbcopnkaaKStr
namespace Go.Proofs.Ytjgedopbcopnkaa.diskArms
open Go.RowKit Km Dk
set_option linter.unusedVariables false

def IsTrue (w : World) (e : Ending) (w' : World) : Prop := e = .returned (.bool true) ∧ Below w.heap.size w w'
theorem wrapI (k : Nat) (h : k ≤ 9223372036854775806) : wrap64 (((k : Nat) : Int) + 1) = ((k + 1 : Nat) : Int) := by unfold wrap64; omega
theorem sumFit (z j s : Nat) (hz : z ≤ j * 140737488355328) (hj : j ≤ 50) (hs : s ≤ 140737488355328) : wrap64 (((z : Nat) : Int) + ((s : Nat) : Int)) = ((z + s : Nat) : Int) := by
  have h : z ≤ 7036874417766400 := Nat.le_trans hz (Nat.le_trans (Nat.mul_le_mul_right _ hj) (by decide))
  unfold wrap64
  omega
theorem wrapS (a b : Nat) (h : a + b ≤ 9223372036854775807) : wrap64 (((a : Nat) : Int) + ((b : Nat) : Int)) = ((a + b : Nat) : Int) := by unfold wrap64; omega
section
variable {w : World} {ts : List Bs} {n k : Int} {v : Value}
set_option maxHeartbeats 4000000 in
set_option maxRecDepth 100000 in
theorem many (hv : Texts w v ts) (hm : 50 < ts.length) : Calls Try.prog 5 #[v, .int .i64 n, .int .i64 k] w (IsTrue w) := by
  have SM := Lib.hid (fun W => small_any W)
  obtain ⟨a, c, rfl, h1, h2, hc⟩ := hv
  obtain ⟨b, o, rfl, hb, hcell⟩ := hc (by omega)
  have HCELL := Lib.hid hcell
  have HB := Lib.hid hb
  have HL : ∃ N, ts.length = N := ⟨_, rfl⟩
  obtain ⟨N, hN⟩ := HL
  have HN := Lib.hid hN
  clear hc hcell hb
  rw [hN] at hm h1 ⊢
  have H1 := Lib.hid h1
  clear hN h1
  have dm : decide ((50 : Int) < ((N : Nat) : Int)) = true := decide_eq_true (by omega)
  clear hm
  go_enter Try.func5, Try.ntmps5
  go_wp2_with fail
  refine (SM.out _).mono ?_
  rintro e w1 ⟨rfl, hb1⟩
  go_wp2_with fail
  refine (new_any (A := fun b => w1.heap.size ≤ b) (fun b hb => hb)).mono ?_
  rintro e w2 ⟨rfl, _, hb2⟩
  have HBL := Lib.hid (below_trans hb1 hb2)
  clear hb1 hb2
  go_wp2_with fail
  go_loop [9, 10] (fun s i => ∃ (j : Nat) (z : Int), j ≤ N ∧ i = .int .i64 j ∧ s = .int .i64 z) (fun _ i => N - (intOf i).toNat)
  case atStart => exact ⟨0, 0, Nat.zero_le _, rfl, rfl⟩
  case round =>
    obtain ⟨j, z, hj, rfl, rfl⟩ := hrel
    by_cases hlt : j < N
    · obtain ⟨t, ht⟩ : ∃ t, ts[j]? = some t := ⟨ts[j]'(by have := HN.out; omega), List.getElem?_eq_getElem _⟩
      have ct : w2.cell? ⟨b, o + j, none⟩ = some (.string (sv t)) := (HBL.out.cell (p := ⟨b, o + j, none⟩) HB.out).trans (HCELL.out j t ht)
      have hwi := wrapI j (by have := H1.out; omega)
      clear ht
      generalize sv t = T at *
      obtain ⟨z', hz'⟩ : ∃ z', wrap64 (z + ((T.size : Nat) : Int)) = z' := ⟨_, rfl⟩
      go_wp2_with fail
      have HWI := Lib.hid hwi
      have HZ' := Lib.hid hz'
      clear hz' hwi
      go_round
      case rel => exact ⟨j + 1, z', Nat.succ_le_of_lt hlt, by rw [HWI.out], by rw [HZ'.out]⟩
      case measure =>
        rw [HWI.out]
        simp [intOf]
        omega
    · obtain rfl : j = N := by omega
      go_wp2_with fail
      go_ret
      exact ⟨rfl, HBL.out⟩

theorem len_bound {ts : List Bs} (h : ∀ t ∈ ts, t.length ≤ 140737488355328) (j : Nat) : len (ts.take j) ≤ j * 140737488355328 := by
  induction j with
  | zero => simp [len]
  | succ j ih =>
    rcases Nat.lt_or_ge j ts.length with hj | hj
    · have := len_take ts j _ (List.getElem?_eq_getElem hj)
      have h2 := h _ (List.getElem_mem hj)
      rw [Nat.succ_mul, this]
      exact Nat.add_le_add ih h2
    · rw [List.take_of_length_le (by omega)]
      rw [List.take_of_length_le (by omega)] at ih
      rw [Nat.succ_mul]
      exact Nat.le_trans ih (Nat.le_add_right _ _)
set_option maxHeartbeats 4000000 in
set_option maxRecDepth 100000 in
theorem bad (hv : Texts w v ts) (hm : ts.length ≤ 50) (hbad : 20000 < len ts ∨ (len ts ≤ 20000 ∧ n < 1) ∨ (len ts ≤ 20000 ∧ 1 ≤ n ∧ 100 < n)) : Calls Try.prog 5 #[v, .int .i64 n, .int .i64 k] w (IsTrue w) := by
  have SM := Lib.hid (fun W => small_any W)
  have HTX := Lib.hid hv
  obtain ⟨a, c, rfl, h1, h2, hc⟩ := hv
  have HL : ∃ N, ts.length = N := ⟨_, rfl⟩
  obtain ⟨N, hN⟩ := HL
  have HN := Lib.hid hN
  have H2 := Lib.hid h2
  have HC := Lib.hid hc
  clear hc h2 h1
  rw [hN] at hm ⊢
  rw [hN] at HTX
  clear hN
  have dm : decide ((50 : Int) < ((N : Nat) : Int)) = false := decide_eq_false (by omega)
  go_enter Try.func5, Try.ntmps5
  go_wp2_with fail
  refine (SM.out _).mono ?_
  rintro e w1 ⟨rfl, hb1⟩
  have HB1 := Lib.hid hb1
  clear hb1
  go_wp2_with fail
  refine (new_any (A := fun b => w.heap.size ≤ b) (fun b hb => by have := HB1.out.size; omega)).mono ?_
  rintro e w2 ⟨rfl, hd, hf⟩
  have D := Lib.hid hd
  have FF := Lib.hid (((Fr.refl (fun b => w.heap.size ≤ b) w).below HB1.out).below hf)
  have HBL := Lib.hid (FF.out.to_below (Nat.le_refl _))
  clear hd hf
  go_wp2_with fail
  go_loop [9, 10] (fun s i => ∃ j : Nat, j ≤ N ∧ i = .int .i64 j ∧ s = .int .i64 ((len (ts.take j) : Nat) : Int)) (fun _ i => N - (intOf i).toNat)
  case atStart => exact ⟨0, Nat.zero_le _, rfl, by simp [len]⟩
  case round =>
    obtain ⟨j, hj, rfl, rfl⟩ := hrel
    by_cases hlt : j < N
    · obtain ⟨t, ht⟩ : ∃ t, ts[j]? = some t := ⟨ts[j]'(by have := HN.out; omega), List.getElem?_eq_getElem _⟩
      obtain ⟨b, o, e, hb, hcell⟩ := HC.out (by have := HN.out; omega)
      subst e
      have ct : w2.cell? ⟨b, o + j, none⟩ = some (.string (sv t)) := (HBL.out.cell (p := ⟨b, o + j, none⟩) hb).trans (hcell j t ht)
      have hwi := wrapI j (by omega)
      have hts := H2.out t (List.mem_of_getElem? ht)
      have hbd := len_bound H2.out j
      have hws := sumFit (len (ts.take j)) j (sv t).size hbd (Nat.le_trans hj hm) hts
      have hnx := len_take ts j t ht
      rw [← sv_size] at hnx
      have HNX := Lib.hid hnx
      clear ht hnx hcell hb hts hbd
      generalize sv t = T at *
      generalize len (ts.take j) = z at *
      go_wp2_with fail
      go_round
      case rel => exact ⟨j + 1, by omega, by go_num, by rw [HNX.out]; go_num⟩
      case measure => simp [intOf]; omega
    · obtain rfl : j = N := by omega
      have htk : len (ts.take j) = len ts := by rw [← HN.out, List.take_length]
      rw [htk]
      clear htk
      rcases hbad with h | ⟨h, h'⟩ | ⟨h, h', h''⟩
      · have d1 : decide ((20000 : Int) < ((len ts : Nat) : Int)) = true := decide_eq_true (by omega)
        clear h
        go_wp2_with fail
        go_ret
        exact ⟨rfl, HBL.out⟩
      · have d1 : decide ((20000 : Int) < ((len ts : Nat) : Int)) = false := decide_eq_false (by omega)
        have d2 : decide (n < 1) = true := decide_eq_true h'
        clear h h'
        go_wp2_with fail
        go_ret
        exact ⟨rfl, HBL.out⟩
      · have d1 : decide ((20000 : Int) < ((len ts : Nat) : Int)) = false := decide_eq_false (by omega)
        have d2 : decide (n < 1) = false := decide_eq_false (by omega)
        have d3 : decide ((100 : Int) < n) = true := decide_eq_true h''
        clear h h' h''
        go_wp2_with fail
        go_ret
        exact ⟨rfl, HBL.out⟩

end
end Go.Proofs.Ytjgedopbcopnkaa.diskArms
