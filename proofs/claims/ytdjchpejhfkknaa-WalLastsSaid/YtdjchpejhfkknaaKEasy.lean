/- The methods of a disk that read or write a field alone: known, check, due, Down, Start, Size, Lose. Conditions: the disk lies in memory of its own. -/
import Derived.Test.YtdjchpejhfkknaaKWords
namespace Go.Proofs.Ytdjchpejhfkknaa.Dk
open Go.RowKit Km
set_option linter.unusedVariables false
set_option maxRecDepth 100000

theorem known_any (n : Int) (w : World) : Calls Try.prog 55 #[.int .i64 n] w fun e w' => e = .returned (.bool (okF n)) ∧ w = w' := by
  by_cases h0 : 0 ≤ n
  · have d0 : decide (0 ≤ n) = true := decide_eq_true h0
    have hr : okF n = decide (n < 8) := by unfold okF; rw [d0]; rfl
    have HR := Lib.hid hr
    clear hr
    by_cases h8 : n < 8
    · have d8 : decide (n < 8) = true := decide_eq_true h8
      go_enter Try.func55, Try.ntmps55
      go_wp2
      go_ret
      exact ⟨ret_b (by rw [HR.out, d8]), rfl⟩
    · have d8 : decide (n < 8) = false := decide_eq_false h8
      go_enter Try.func55, Try.ntmps55
      go_wp2
      go_ret
      exact ⟨ret_b (by rw [HR.out, d8]), rfl⟩
  · have d0 : decide (0 ≤ n) = false := decide_eq_false h0
    have hr : okF n = false := by unfold okF; rw [d0]; rfl
    have HR := Lib.hid hr
    clear hr
    go_enter Try.func55, Try.ntmps55
    go_wp2
    go_ret
    exact ⟨ret_b (by rw [HR.out]), rfl⟩

section
variable {A : Nat → Prop} {r : Nat} {s : St} {K : Nat → Value} {w : World}
theorem down_any (h : Lay A r s K w) : Calls Try.prog 24 #[.pointer (some ⟨r, 0, none⟩)] w fun e w' => e = .returned (.bool s.down) ∧ w = w' := by
  have c17 := h.cell (i := 17) (by decide)
  rw [h.cont.dn] at c17
  clear h
  go_enter Try.func24, Try.ntmps24
  go_wp2
  go_ret
  exact ⟨rfl, rfl⟩
theorem start_lay (h : Lay A r s K w) : Calls Try.prog 38 #[.pointer (some ⟨r, 0, none⟩)] w fun e w' => e = .returned (.tuple #[]) ∧ Lay A r (startS s) (upd K 17 (.bool false)) w' ∧ Fr A w w' := by
  have c17 := h.cell (i := 17) (by decide)
  rw [h.cont.dn] at c17
  have f17 := h.row.frozen 17
  have hp := h.setDown false
  have hf := (Fr.refl A w).setCell (p := ⟨r, 17, none⟩) h.sep.rA.1 (.bool false)
  have HP := Lib.hid hp
  have HF := Lib.hid hf
  clear h hp hf
  go_enter Try.func38, Try.ntmps38
  go_wp2
  go_end0
  exact ⟨rfl, HP.out, HF.out⟩
theorem lose_lay (h : Lay A r s K w) (n : Int) (hn : J64 n) : Calls Try.prog 50 #[.pointer (some ⟨r, 0, none⟩), .int .i64 n] w fun e w' => e = .returned (.tuple #[]) ∧ (∃ K', Lay A r (loseS s n) K' w') ∧ Fr A w w' := by
  have c18 := h.cell (i := 18) (by decide)
  rw [h.cont.lo] at c18
  have f18 := h.row.frozen 18
  by_cases h0 : n < 0
  · have d0 : decide (n < 0) = true := decide_eq_true h0
    have hp := h.setLose 0
    have hf := (Fr.refl A w).setCell (p := ⟨r, 18, none⟩) h.sep.rA.1 (.int .i64 0)
    have e : (max n 0).toNat = 0 := by omega
    have HP := Lib.hid hp
    have HF := Lib.hid hf
    have HE := Lib.hid e
    clear h hp hf e
    go_enter Try.func50, Try.ntmps50
    go_wp2
    go_end0
    refine ⟨rfl, ?_, HF.out⟩
    unfold loseS
    rw [HE.out]
    exact ⟨_, HP.out⟩
  · have d0 : decide (n < 0) = false := decide_eq_false h0
    obtain ⟨m, hm⟩ : ∃ m : Nat, n = m := ⟨n.toNat, by omega⟩
    have hp := h.setLose m
    have hf := (Fr.refl A w).setCell (p := ⟨r, 18, none⟩) h.sep.rA.1 (.int .i64 n)
    have e : (max n 0).toNat = m := by omega
    rw [← hm] at hp
    have HP := Lib.hid hp
    have HF := Lib.hid hf
    have HE := Lib.hid e
    clear h hp hf e hm
    have hle : 0 ≤ n := by omega
    clear h0
    go_enter Try.func50, Try.ntmps50
    go_wp2
    go_end0
    refine ⟨rfl, ?_, HF.out⟩
    unfold loseS
    rw [HE.out]
    exact ⟨_, HP.out⟩
theorem size_any (h : Lay A r s K w) (f : Int) : Calls Try.prog 22 #[.pointer (some ⟨r, 0, none⟩), .int .i64 f] w fun e w' => e = .returned (.int .i64 (sizeN s f : Nat)) ∧ w = w' := by
  have hk := known_any f w
  cases hb : okF f with
  | false =>
    rw [hb] at hk
    have hz : sizeN s f = 0 := by unfold sizeN; rw [hb]; rfl
    have HZ := Lib.hid hz
    have HK := Lib.hid hk
    clear h hk hz hb
    go_enter Try.func22, Try.ntmps22
    go_wp2_with fail
    refine HK.out.mono ?_
    rintro e w1 ⟨rfl, rfl⟩
    go_wp2_with fail
    go_ret
    exact ⟨ret_i (by rw [HZ.out]; rfl), rfl⟩
  | true =>
    rw [hb] at hk
    obtain ⟨h0, h8, hfn⟩ := okF_lt hb
    have hz : sizeN s f = (s.F f.toNat).length := by unfold sizeN; rw [hb]; rfl
    have HZ := Lib.hid hz
    have HK := Lib.hid hk
    clear hk hz hb h0
    generalize f.toNat = k at *
    subst hfn
    have hc := h.cell (i := k * 2) (by omega)
    have ho := h.cont.fil k h8
    obtain ⟨a, c, hv⟩ : ∃ a c, K (k * 2) = .slice a (s.F k).length c := by
      rcases ho.2 with ⟨h1, h2⟩ | ⟨g, cap, cur, h1, _⟩
      · exact ⟨none, 0, by rw [h1, h2]⟩
      · exact ⟨_, _, h1⟩
    rw [hv] at hc
    have d8 : decide (((k : Nat) : Int) < 8) = true := decide_eq_true (by omega)
    clear h ho hv
    generalize (s.F k).length = n at *
    go_enter Try.func22, Try.ntmps22
    go_wp2_with fail
    refine HK.out.mono ?_
    rintro e w1 ⟨rfl, rfl⟩
    --GG
    go_wp2_with fail
    go_ret
    exact ⟨ret_i (by rw [HZ.out]), rfl⟩

/-- A slice of ints that reads as a list. -/
def Ints (w : World) (v : Value) (l : List Int) : Prop := ∃ a c, v = .slice a l.length c ∧ (0 < l.length → ∃ b o, a = some ⟨b, o, none⟩ ∧ b < w.heap.size ∧ ∀ j z, l[j]? = some z → w.cell? ⟨b, o + j, none⟩ = some (.int .i64 z))
/-- The block where a slice lies that is not empty. -/
def vblock : Value → Option Nat
  | .slice (some a) n _ => if n = 0 then none else some a.block
  | _ => none
theorem vblock_some {a : Addr} {n c : Nat} (h : 0 < n) : vblock (.slice (some a) n c) = some a.block := by
  show (if n = 0 then none else some a.block) = some a.block
  rw [if_neg (by omega)]
theorem check_any (h : Lay A r s K w) {v : Value} {l : List Int} (hl : l.length ≤ 2) (hv : Ints w v l) : Calls Try.prog 66 #[.pointer (some ⟨r, 0, none⟩), v] w fun e w' => e = .returned (.int .i64 (chk s (l.all okF))) ∧ w = w' := by
  have c17 := h.cell (i := 17) (by decide)
  rw [h.cont.dn] at c17
  have hr : chk s (l.all okF) = if s.down then 9 else if l.all okF then 0 else 1 := rfl
  have HR := Lib.hid hr
  clear h hr
  cases hd : s.down with
  | true =>
    rw [hd] at c17 HR
    obtain ⟨a, c, rfl, _⟩ := hv
    go_enter Try.func66, Try.ntmps66
    go_wp2
    go_ret
    exact ⟨ret_i (by rw [HR.out]; rfl), rfl⟩
  | false =>
    rw [hd] at c17 HR
    clear hd
    obtain ⟨a, c, rfl, hc⟩ := hv
    match l, hl, hc, HR with
    | [], _, _, HR =>
      go_enter Try.func66, Try.ntmps66
      go_wp2
      refine wp_loop_rounds 1 ?_
      rw [rounds_succ]
      go_wp2
      go_ret
      exact ⟨ret_i (by rw [HR.out]; rfl), rfl⟩
    | [x], _, hc, HR =>
      obtain ⟨b, o, rfl, _, hx⟩ := hc (by simp)
      have c0 : w.cell? ⟨b, o, none⟩ = some (.int .i64 x) := hx 0 x rfl
      have hk := known_any x w
      clear hc hx
      cases hb : okF x with
      | true =>
        rw [hb] at hk
        have HK := Lib.hid hk
        have HB := Lib.hid hb
        clear hk hb
        go_enter Try.func66, Try.ntmps66
        go_wp2
        refine wp_loop_rounds 2 ?_
        rw [rounds_succ]
        go_wp2_with fail
        refine HK.out.mono ?_
        rintro e w1 ⟨rfl, rfl⟩
        go_wp2_with fail
        rw [rounds_succ]
        go_wp2_with fail
        go_ret
        exact ⟨ret_i (by rw [HR.out]; simp [HB.out]), rfl⟩
      | false =>
        rw [hb] at hk
        have HK := Lib.hid hk
        have HB := Lib.hid hb
        clear hk hb
        go_enter Try.func66, Try.ntmps66
        go_wp2
        refine wp_loop_rounds 2 ?_
        rw [rounds_succ]
        go_wp2_with fail
        refine HK.out.mono ?_
        rintro e w1 ⟨rfl, rfl⟩
        go_wp2_with fail
        go_ret
        exact ⟨ret_i (by rw [HR.out]; simp [HB.out]), rfl⟩
    | [x, y], _, hc, HR =>
      obtain ⟨b, o, rfl, _, hx⟩ := hc (by simp)
      have c0 : w.cell? ⟨b, o, none⟩ = some (.int .i64 x) := hx 0 x rfl
      have c1 := hx 1 y rfl
      have hk := known_any x w
      have hk2 := known_any y w
      clear hc hx
      cases hb : okF x with
      | true =>
        rw [hb] at hk
        have HK := Lib.hid hk
        have HB := Lib.hid hb
        clear hk hb
        cases hb2 : okF y with
        | true =>
          rw [hb2] at hk2
          have HK2 := Lib.hid hk2
          have HB2 := Lib.hid hb2
          clear hk2 hb2
          go_enter Try.func66, Try.ntmps66
          go_wp2
          refine wp_loop_rounds 3 ?_
          rw [rounds_succ]
          go_wp2_with fail
          refine HK.out.mono ?_
          rintro e w1 ⟨rfl, rfl⟩
          go_wp2_with fail
          rw [rounds_succ]
          go_wp2_with fail
          refine HK2.out.mono ?_
          rintro e w1 ⟨rfl, rfl⟩
          go_wp2_with fail
          rw [rounds_succ]
          go_wp2_with fail
          go_ret
          exact ⟨ret_i (by rw [HR.out]; simp [HB.out, HB2.out]), rfl⟩
        | false =>
          rw [hb2] at hk2
          have HK2 := Lib.hid hk2
          have HB2 := Lib.hid hb2
          clear hk2 hb2
          go_enter Try.func66, Try.ntmps66
          go_wp2
          refine wp_loop_rounds 3 ?_
          rw [rounds_succ]
          go_wp2_with fail
          refine HK.out.mono ?_
          rintro e w1 ⟨rfl, rfl⟩
          go_wp2_with fail
          rw [rounds_succ]
          go_wp2_with fail
          refine HK2.out.mono ?_
          rintro e w1 ⟨rfl, rfl⟩
          go_wp2_with fail
          go_ret
          exact ⟨ret_i (by rw [HR.out]; simp [HB.out, HB2.out]), rfl⟩
      | false =>
        rw [hb] at hk
        have HK := Lib.hid hk
        have HB := Lib.hid hb
        clear hk hb hk2
        go_enter Try.func66, Try.ntmps66
        go_wp2
        refine wp_loop_rounds 3 ?_
        rw [rounds_succ]
        go_wp2_with fail
        refine HK.out.mono ?_
        rintro e w1 ⟨rfl, rfl⟩
        go_wp2_with fail
        go_ret
        exact ⟨ret_i (by rw [HR.out]; simp [HB.out]), rfl⟩
theorem due_lay (h : Lay A r s K w) (hc : s.crash ≤ 9223372036854775807) : Calls Try.prog 39 #[.pointer (some ⟨r, 0, none⟩)] w fun e w' => e = .returned (.bool (dueB s)) ∧ (∃ K', Lay A r (dueS s) K' w' ∧ ∀ i, i ≠ 19 → K' i = K i) ∧ Fr A w w' := by
  have c17 := h.cell (i := 17) (by decide)
  have c19 := h.cell (i := 19) (by decide)
  have f19 := h.row.frozen 19
  rw [h.cont.dn] at c17
  rw [h.cont.cr] at c19
  cases hd : s.down with
  | true =>
    have e1 : dueB s = false := by unfold dueB; rw [hd]; rfl
    have e2 : dueS s = s := by unfold dueS; rw [hd]; rfl
    rw [e1, e2]
    rw [hd] at c17
    have HL := Lib.hid h
    clear h e1 e2 hd hc
    go_enter Try.func39, Try.ntmps39
    go_wp2
    go_ret
    exact ⟨rfl, ⟨_, HL.out, fun _ _ => rfl⟩, Fr.refl _ _⟩
  | false =>
    rw [hd] at c17
    by_cases h0 : s.crash = 0
    · have e1 : dueB s = false := by unfold dueB; rw [hd, h0]; rfl
      have e2 : dueS s = s := by unfold dueS; rw [hd, h0]; cases s; simp_all
      rw [e1, e2]
      rw [h0] at c19
      have HL := Lib.hid h
      clear h e1 e2 hd hc h0
      go_enter Try.func39, Try.ntmps39
      go_wp2
      go_ret
      exact ⟨rfl, ⟨_, HL.out, fun _ _ => rfl⟩, Fr.refl _ _⟩
    · obtain ⟨m, hm⟩ : ∃ m, s.crash = m + 1 := ⟨s.crash - 1, by omega⟩
      have hp := h.setCrash m
      have e2 : dueS s = { s with crash := m } := by unfold dueS; rw [hd, hm]; rfl
      have e1 : dueB s = decide (m = 0) := by
        unfold dueB
        rw [hd, hm]
        by_cases e : m = 0 <;> simp [e]
      have hf := (Fr.refl A w).setCell (p := ⟨r, 19, none⟩) h.sep.rA.1 (.int .i64 (m : Nat))
      rw [e1, e2]
      rw [hm] at c19
      have HP := Lib.hid hp
      have HF := Lib.hid hf
      have d0 : ((((m + 1 : Nat) : Int)) == 0) = false := by simp; omega
      have d1 : wrap64 (((m + 1 : Nat) : Int) - 1) = (m : Nat) := by unfold wrap64; omega
      clear h e1 e2 hd hc h0 hp hf
      generalize ((m + 1 : Nat) : Int) = M at *
      by_cases hz : m = 0
      · subst hz
        go_enter Try.func39, Try.ntmps39
        go_wp2
        go_ret
        exact ⟨rfl, ⟨_, HP.out, fun i hi => upd_other _ _ _ _ hi⟩, HF.out⟩
      · have hz' : decide (m = 0) = false := decide_eq_false hz
        rw [hz']
        have d2 : (((m : Nat) : Int) == 0) = false := by simp; omega
        clear hz hz'
        generalize hMM : ((m : Nat) : Int) = MM at *
        go_enter Try.func39, Try.ntmps39
        go_wp2
        go_ret
        exact ⟨rfl, ⟨_, HP.out, fun i hi => upd_other _ _ _ _ hi⟩, HF.out⟩
end
end Go.Proofs.Ytdjchpejhfkknaa.Dk
