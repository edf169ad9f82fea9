/- slices.Clone of a list of ints, and Arm. Conditions: the disk lies in memory of its own; the list has at most 2^44 elements. -/
import Derived.Test.YtdjchpejhfkknaaKEasy
namespace Go.Proofs.Ytdjchpejhfkknaa.Dk
open Go.RowKit Km
set_option linter.unusedVariables false
set_option maxRecDepth 100000

theorem infoInt : (Try.prog.info? 3).map (fun i => (i.zero, i.size, i.bytes)) = some (some (.int .i64 0), 1, 8) := by kernel_rfl
set_option maxRecDepth 100000 in
theorem clone_any {w : World} {v : Value} {l : List Int} (hv : Ints w v l) (hl : l.length ≤ 17592186044416) : Calls Try.prog 75 #[v] w fun e w' =>
    ∃ v', e = .returned v' ∧ w'.ownsRow 0 3 1 v' l.length (ic l) ∧ (∀ b, v'.ownBlock = some b → w.heap.size ≤ b ∧ b < w'.heap.size) ∧ Below w.heap.size w w' := by
  obtain ⟨a, c, rfl, hc⟩ := hv
  have q22 : ∀ (w : World) (a : Option Addr) (n c n' c' : Nat), (binOp .eql 39 (.slice a n c) (.slice none n' c')).run Try.prog w = .ok (.bool a.isNone) w := fun w a n c n' c' => Lib.run_eql_slice_nil w _ _ a n c n' c' Try.underlying39
  obtain ⟨i0, hi, hz0, hz1, hz2⟩ := info_parts infoInt
  cases a with
  | none =>
    have hn : l = [] := by
      rcases l with _ | ⟨x, t⟩
      · rfl
      · obtain ⟨b, o, h, _⟩ := hc (by simp)
        cases h
    subst hn
    clear hc
    go_enter Try.func75, Try.ntmps75
    go_wp2
    go_ret
    refine ⟨_, rfl, World.ownsRow_nil _ _ _ _, ?_, below_self _⟩
    intro b hb
    cases hb
  | some ad =>
    have hnews : ∀ j u, (ic l)[j]? = some u → w.cell? (ad.add j) = some u := by
      intro j u hj
      have hjl := (List.getElem?_eq_some_iff.1 hj).1
      rw [ic_length] at hjl
      obtain ⟨b, o, e, _, h2⟩ := hc (by omega)
      injection e with e
      subst e
      rw [ic, List.getElem?_map] at hj
      obtain ⟨z, hz, rfl⟩ := Option.map_eq_some_iff.1 hj
      rw [Addr.add_lit]
      exact h2 j z hz
    have hb : 0 < l.length → ad.block < w.heap.size := by
      intro h0
      obtain ⟨b, o, e, h1, _⟩ := hc h0
      injection e with e
      subst e
      exact h1
    have HN := Lib.hid hnews
    have HL := Lib.hid hl
    have HB := Lib.hid hb
    clear hc hnews hl hb
    go_enter Try.func75, Try.ntmps75
    go_wp2_with (at_builtin; refine wpList_append_own _ rfl _ _ 39 rfl w.heap.size 3 i0 (.int .i64 0) 1 8 Try.underlying39 hi hz0 hz1 hz2 rfl (by decide) _ _ _ rfl (World.ownsRow_made w #[] 0 (Nat.le_refl _) (Nat.zero_le _) rfl) ad l.length c (ic l) rfl ?qc1 ?qc2 ?qc3 ?qc4 ?qc5 ?qc6 ?_)
    case qc1 => rw [ic_length, Nat.mul_one]
    case qc2 =>
      intro j u hj
      exact Lib.cell?_alloc_some _ (HN.out j u hj)
    case qc3 => intro u hu; obtain ⟨x, _, rfl⟩ := List.mem_map.1 hu; rfl
    case qc4 => have := HL.out; unfold maxLen; omega
    case qc5 => have := HL.out; omega
    case qc6 => simp
    intro v' w1 hown hgrow hnil
    have HO := Lib.hid hown
    have HG := Lib.hid hgrow
    clear hown hgrow hnil
    go_wp2
    go_ret
    have ho : w1.ownsRow w.heap.size 3 1 v' l.length (ic l) := by simpa using HO.out
    exact ⟨v', rfl, owns_base ho, fun b hb => ho.lt b hb, ((Below.refl _ w).alloc (Nat.le_refl _) _).grown HG.out (by simp) (by intro k hk; simp [Value.ownBlock] at hk; omega)⟩

section
variable {A : Nat → Prop} {r : Nat} {s : St} {K : Nat → Value} {w : World}
/-- The schedule is struck. -/
theorem Lay.disarm (h : Lay A r s K w) : Lay A r { s with crash := 0, keep := [] } (upd (upd K 19 (.int .i64 0)) 20 (.slice none 0 0)) ((w.setCell ⟨r, 19, none⟩ (.int .i64 0)).setCell ⟨r, 20, none⟩ (.slice none 0 0)) :=
  (h.setCrash 0).setKeep (v := .slice none 0 0) (l := []) (Nat.le_refl _) (fun _ _ _ => rfl) (Free.none rfl) (World.ownsRow_nil _ _ _ _)
theorem Lay.disarmed (h : Lay A r s K w) : Fr A w ((w.setCell ⟨r, 19, none⟩ (.int .i64 0)).setCell ⟨r, 20, none⟩ (.slice none 0 0)) :=
  ((Fr.refl A w).setCell (p := ⟨r, 19, none⟩) h.sep.rA.1 _).setCell (p := ⟨r, 20, none⟩) h.sep.rA.1 _
theorem setCell_size (w : World) (p : Addr) (u : Value) : (w.setCell p u).heap.size = w.heap.size := by simp [World.setCell]
theorem arm_lay (h : Lay A r s K w) {n : Int} (hn : J64 n) {v : Value} {l : List Int} (hl : l.length ≤ 17592186044416) (hv : Ints w v l) (hb : ∀ b, vblock v = some b → b ≠ r) :
    Calls Try.prog 52 #[.pointer (some ⟨r, 0, none⟩), .int .i64 n, v] w fun e w' => e = .returned (.tuple #[]) ∧ (∃ K', Lay A r (armS s n l) K' w') ∧ Fr A w w' := by
  have c19 := h.cell (i := 19) (by decide)
  have c20 := h.cell (i := 20) (by decide)
  have f19 := h.row.frozen 19
  have f20 := h.row.frozen 20
  have hp := h.disarm
  have hf := h.disarmed
  have f19' := hp.row.frozen 19
  have f20' := hp.row.frozen 20
  have c19' := hp.cell (i := 19) (by decide)
  have c20' := hp.cell (i := 20) (by decide)
  by_cases h1 : 1 ≤ n
  · have d1 : decide (1 ≤ n) = true := decide_eq_true h1
    have hv' : Ints ((w.setCell ⟨r, 19, none⟩ (.int .i64 0)).setCell ⟨r, 20, none⟩ (.slice none 0 0)) v l := by
      obtain ⟨a, c, e, hc⟩ := hv
      refine ⟨a, c, e, fun h0 => ?_⟩
      obtain ⟨b, o, e2, h2, h3⟩ := hc h0
      subst e2 e
      refine ⟨b, o, rfl, by rw [setCell_size, setCell_size]; exact h2, fun j z hz => ?_⟩
      have hbr : b ≠ r := hb b (vblock_some h0)
      rw [World.cell?_of_block (w := w)]
      · exact h3 j z hz
      · rw [heap_setCell_other _ _ _ _ hbr, heap_setCell_other _ _ _ _ hbr]
    have hcl := clone_any hv' hl
    obtain ⟨m, hm⟩ : ∃ m : Nat, n = m := ⟨n.toNat, by omega⟩
    have e2 : armS s n l = { s with crash := m, keep := l } := by unfold armS; rw [if_pos h1, hm]; rfl
    rw [e2]
    obtain ⟨a, c, e, _⟩ := hv
    subst e
    have HC := Lib.hid hcl
    have HP := Lib.hid hp
    have HF := Lib.hid hf
    have HM := Lib.hid hm
    clear h hp hf hcl hv' hl hb e2 h1 hm
    generalize hW : (w.setCell ⟨r, 19, none⟩ (.int .i64 0)).setCell ⟨r, 20, none⟩ (.slice none 0 0) = W at *
    go_enter Try.func52, Try.ntmps52
    go_wp2_with fail
    refine HC.out.mono ?_
    rintro e w1 ⟨v', rfl, ho, hb', hbel⟩
    obtain ⟨a', c', rfl⟩ := owns_slice ho
    generalize hV : Value.slice a' l.length c' = v' at *
    have hl1 := HP.out.below hbel
    have k19 := hl1.cell (i := 19) (by decide)
    have k20 := hl1.cell (i := 20) (by decide)
    have g19 := hl1.row.frozen 19
    have g20 := hl1.row.frozen 20
    have hl2 := hl1.setCrash m
    have hfree : Free A r (upd (upd (upd K 19 (.int .i64 0)) 20 (.slice none 0 0)) 19 (.int .i64 (m : Nat))) (w1.setCell ⟨r, 19, none⟩ (.int .i64 (m : Nat))).heap.size 20 v' := by
      intro b hb
      obtain ⟨x1, x2⟩ := hb' b hb
      refine ⟨⟨HP.out.sep.new b x1, ?_, by rw [setCell_size]; exact x2⟩, fun j hj hne e => ?_⟩
      · have := HP.out.sep.rA.2; omega
      · by_cases e19 : j = 19
        · subst e19; rw [upd_same] at e; cases e
        · rw [upd_other _ _ _ _ e19] at e
          have := (HP.out.sep.own j hj b e).2.2
          omega
    have ho2 : (w1.setCell ⟨r, 19, none⟩ (.int .i64 (m : Nat))).ownsRow 0 3 1 v' l.length (ic l) := owns_block ho fun b hb => heap_setCell_other _ _ b _ (fun e => by
      obtain ⟨x1, x2⟩ := hb' b hb
      have := HP.out.sep.rA.2
      simp at e
      omega)
    have hl3 := hl2.setKeep (w' := w1.setCell ⟨r, 19, none⟩ (.int .i64 (m : Nat))) (l := l) (Nat.le_refl _) (fun _ _ _ => rfl) hfree ho2
    have hf3 := (((HF.out.below hbel).setCell (p := ⟨r, 19, none⟩) HP.out.sep.rA.1 (.int .i64 (m : Nat))).setCell (p := ⟨r, 20, none⟩) HP.out.sep.rA.1 v')
    rw [← HM.out] at hl3 hf3
    have HL3 := Lib.hid hl3
    have HF3 := Lib.hid hf3
    clear ho hb' hbel hl1 hl2 hfree ho2 hl3 hf3
    subst hV
    go_wp2
    --GG
    go_end0
    exact ⟨rfl, ⟨_, HL3.out⟩, HF3.out⟩
  · have d1 : decide (1 ≤ n) = false := decide_eq_false h1
    have e2 : armS s n l = { s with crash := 0, keep := [] } := by unfold armS; rw [if_neg h1]
    rw [e2]
    obtain ⟨a, c, e, _⟩ := hv
    subst e
    have HP := Lib.hid hp
    have HF := Lib.hid hf
    clear h hp hf hl hb e2 h1
    go_enter Try.func52, Try.ntmps52
    go_wp2
    go_end0
    exact ⟨rfl, ⟨_, HP.out⟩, HF.out⟩
end
end Go.Proofs.Ytdjchpejhfkknaa.Dk
