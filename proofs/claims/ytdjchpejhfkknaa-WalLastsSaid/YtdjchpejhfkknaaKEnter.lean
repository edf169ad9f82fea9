/- How a call begins: the schedule counts it, the crash may come, the first errors; and the smaller methods with the disk as a whole. Conditions: the disk lies in memory of its own, and slices that are handed in lie elsewhere. -/
import Derived.Test.YtdjchpejhfkknaaKCrashW
namespace Go.Proofs.Ytdjchpejhfkknaa.Dk
open Go.RowKit Km
set_option linter.unusedVariables false
set_option maxRecDepth 100000

section
variable {A A' : Nat → Prop} {r : Nat} {s : St} {K : Nat → Value} {w w' : World}
theorem Fr.mono (h : Fr A w w') (ha : ∀ b, A b → A' b) : Fr A' w w' := ⟨h.os, h.tape, h.output, h.size, fun k hk hn => h.block k hk (fun e => hn (ha k e))⟩
theorem Lay.mono (h : Lay A r s K w) (ha : ∀ b, A b → A' b) : Lay A' r s K w :=
  ⟨h.row, ⟨fun i hi b hb => by obtain ⟨x, y⟩ := h.sep.own i hi b hb; exact ⟨ha b x, y⟩, h.sep.dif, ⟨ha r h.sep.rA.1, h.sep.rA.2⟩, fun b hb => ha b (h.sep.new b hb)⟩, h.cont⟩
theorem Dsk.mono (h : Dsk A r s w) (ha : ∀ b, A b → A' b) : Dsk A' r s w := ⟨h.1, h.2.choose, h.2.choose_spec.mono ha⟩
/-- A new block is kept out of the disk's hands. -/
theorem Lay.hide (h : Lay A r s K w) (hb : Below w.heap.size w w') {g : Nat} (h1 : w.heap.size ≤ g) (h2 : g < w'.heap.size) : Lay (fun b => A b ∧ b ≠ g) r s K w' := by
  have hl := h.below hb
  refine ⟨hl.row, ⟨fun i hi b hbb => ?_, hl.sep.dif, ⟨⟨hl.sep.rA.1, by have := h.sep.rA.2; omega⟩, hl.sep.rA.2⟩, fun b hbb => ⟨hl.sep.new b hbb, by omega⟩⟩, hl.cont⟩
  obtain ⟨x, y, z⟩ := h.sep.own i hi b hbb
  exact ⟨⟨x, by omega⟩, y, by have := hb.size; omega⟩
theorem Dsk.hide (h : Dsk A r s w) (hb : Below w.heap.size w w') {g : Nat} (h1 : w.heap.size ≤ g) (h2 : g < w'.heap.size) : Dsk (fun b => A b ∧ b ≠ g) r s w' := ⟨h.1, h.2.choose, h.2.choose_spec.hide hb h1 h2⟩
theorem ints_of_owns {v : Value} {l : List Int} (h : w.ownsRow 0 3 1 v l.length (ic l)) : Ints w v l := by
  obtain ⟨a, c, rfl⟩ := owns_slice h
  refine ⟨a, c, rfl, fun h0 => ?_⟩
  obtain ⟨g, rfl, hg, _, _, _, hc⟩ := owns_row h h0
  refine ⟨g, 0, rfl, hg, fun j z hz => ?_⟩
  rw [Nat.zero_add]
  exact hc j _ (by rw [ic, List.getElem?_map, hz]; rfl)
theorem vblock_own {v : Value} {b : Nat} (h : vblock v = some b) : v.ownBlock = some b := by
  unfold vblock at h
  split at h
  · split at h
    · cases h
    · exact h
  · cases h
theorem Ints.fr {v : Value} {l : List Int} (h : Ints w v l) (hf : Fr A w w') (hb : ∀ b, vblock v = some b → ¬ A b) : Ints w' v l := by
  obtain ⟨a, c, rfl, hc⟩ := h
  refine ⟨a, c, rfl, fun h0 => ?_⟩
  obtain ⟨b, o, rfl, h1, h2⟩ := hc h0
  exact ⟨b, o, rfl, Nat.lt_of_lt_of_le h1 hf.size, fun j z hz => hf.cell (p := ⟨b, o + j, none⟩) (h2 j z hz) (hb b (vblock_some h0))⟩
theorem crash_lay' (h : Lay A r s K w) (hwf : Wf s) {v : Value} {ks : List Int} (hv : Ints w v ks) (hj : ∀ z ∈ ks, J64 z) (hvb : ∀ b, vblock v = some b → ¬ A b) :
    Calls Try.prog 28 #[.pointer (some ⟨r, 0, none⟩), v] w fun e w' => e = .returned (.tuple #[]) ∧ (∃ K', Lay A r (crashS ks s) K' w') ∧ Fr A w w' :=
  crash_lay h hwf hv hj fun b hb => ⟨fun e => hvb b hb (by rw [e]; exact h.sep.rA.1), by
    rcases Nat.lt_or_ge b w.heap.size with h1 | h1
    · exact h1
    · exact absurd (h.sep.new b h1) (hvb b hb), fun i hi e => hvb b hb (h.sep.own i (by omega) b e).1⟩
theorem crash_dsk (h : Dsk A r s w) {v : Value} {ks : List Int} (hv : Ints w v ks) (hj : ∀ z ∈ ks, J64 z) (hvb : ∀ b, vblock v = some b → ¬ A b) :
    Calls Try.prog 28 #[.pointer (some ⟨r, 0, none⟩), v] w fun e w' => e = .returned (.tuple #[]) ∧ Dsk A r (crashS ks s) w' ∧ Fr A w w' := by
  obtain ⟨hwf, K, hl⟩ := h
  exact (crash_lay' hl hwf hv hj hvb).mono fun e w' ⟨h1, h2, h3⟩ => ⟨h1, ⟨wf_crash hwf ks, h2⟩, h3⟩
theorem crash_kept (h : Lay A r s K w) (hwf : Wf s) :
    Calls Try.prog 28 #[.pointer (some ⟨r, 0, none⟩), K 20] w fun e w' => e = .returned (.tuple #[]) ∧ (∃ K', Lay A r (crashS s.keep s) K' w') ∧ Fr A w w' :=
  crash_lay h hwf (ints_of_owns h.cont.kp) hwf.keep fun b hb => by
    replace hb := vblock_own hb
    obtain ⟨x, y, z⟩ := h.sep.own 20 (by decide) b hb
    exact ⟨y, z, fun i hi => h.sep.dif 20 i (by decide) (by omega) (by omega) b hb⟩
set_option maxHeartbeats 1000000 in
theorem enter_dsk (h : Dsk A r s w) {v : Value} {l : List Int} (hl : l.length ≤ 2) (hv : Ints w v l) (hvb : ∀ b, vblock v = some b → ¬ A b) :
    Calls Try.prog 79 #[.pointer (some ⟨r, 0, none⟩), v] w fun e w' => e = .returned (.int .i64 (chk (entS s) (l.all okF))) ∧ Dsk A r (entS s) w' ∧ Fr A w w' := by
  obtain ⟨hwf, K, hlay⟩ := h
  have hd := due_lay hlay hwf.crash
  have hwd := wf_due hwf
  have hV := hv
  obtain ⟨a, c, hve, _⟩ := hV
  have HD := Lib.hid hd
  have HWD := Lib.hid hwd
  have HV := Lib.hid hv
  have HVB := Lib.hid hvb
  have HL := Lib.hid hl
  have HWF := Lib.hid hwf
  have HVE := Lib.hid hve
  have hE : entS s = if dueB s then crashS s.keep (dueS s) else dueS s := rfl
  have HE := Lib.hid hE
  have hkeep : (dueS s).keep = s.keep := by unfold dueS; split <;> rfl
  have HK := Lib.hid hkeep
  clear hd hwd hv hvb hl hwf hE hkeep hlay
  cases hb : dueB s with
  | false =>
    rw [hb] at HD HE
    rw [hve]
    go_enter Try.func79, Try.ntmps79
    go_wp2_with fail
    refine HD.out.mono ?_
    rintro e w1 ⟨rfl, ⟨K1, hl1, hk1⟩, hf1⟩
    have hc := check_any hl1 HL.out (HV.out.fr hf1 HVB.out)
    rw [HVE.out] at hc
    have HC := Lib.hid hc
    have H1 := Lib.hid hl1
    have HF1 := Lib.hid hf1
    clear hc hl1 hf1 hk1
    go_wp2_with fail
    refine HC.out.mono ?_
    rintro e w2 ⟨rfl, rfl⟩
    go_wp2_with fail
    go_ret
    rw [show entS s = dueS s from HE.out]
    exact ⟨rfl, ⟨HWD.out, K1, H1.out⟩, HF1.out⟩
  | true =>
    rw [hb] at HD HE
    rw [hve]
    go_enter Try.func79, Try.ntmps79
    go_wp2_with fail
    refine HD.out.mono ?_
    rintro e w1 ⟨rfl, ⟨K1, hl1, hk1⟩, hf1⟩
    have hcr := crash_kept hl1 HWD.out
    have c20 := hl1.cell (i := 20) (by decide)
    obtain ⟨a20, x20, h20⟩ := owns_slice hl1.cont.kp
    rw [HK.out] at h20 hcr
    rw [h20] at c20 hcr
    have HCR := Lib.hid hcr
    have HF1 := Lib.hid hf1
    clear hcr hl1 hf1 hk1 h20
    go_wp2_with fail
    refine HCR.out.mono ?_
    rintro e w2 ⟨rfl, ⟨K2, hl2⟩, hf2⟩
    have hc := check_any hl2 HL.out (HV.out.fr (HF1.out.trans hf2) HVB.out)
    rw [HVE.out] at hc
    have HC := Lib.hid hc
    have H2 := Lib.hid hl2
    have HF2 := Lib.hid hf2
    clear hc hl2 hf2
    go_wp2_with fail
    refine HC.out.mono ?_
    rintro e w3 ⟨rfl, rfl⟩
    go_wp2_with fail
    go_ret
    rw [show entS s = crashS s.keep (dueS s) from HE.out]
    exact ⟨rfl, ⟨wf_crash HWD.out _, K2, H2.out⟩, HF1.out.trans HF2.out⟩
theorem start_dsk (h : Dsk A r s w) : Calls Try.prog 38 #[.pointer (some ⟨r, 0, none⟩)] w fun e w' => e = .returned (.tuple #[]) ∧ Dsk A r (startS s) w' ∧ Fr A w w' := by
  obtain ⟨hwf, K, hl⟩ := h
  exact (start_lay hl).mono fun e w' ⟨h1, h2, h3⟩ => ⟨h1, ⟨wf_start hwf, _, h2⟩, h3⟩
theorem down_dsk (h : Dsk A r s w) : Calls Try.prog 24 #[.pointer (some ⟨r, 0, none⟩)] w fun e w' => e = .returned (.bool s.down) ∧ w = w' := by
  obtain ⟨hwf, K, hl⟩ := h
  exact down_any hl
theorem size_dsk (h : Dsk A r s w) (f : Int) : Calls Try.prog 22 #[.pointer (some ⟨r, 0, none⟩), .int .i64 f] w fun e w' => e = .returned (.int .i64 (sizeN s f : Nat)) ∧ w = w' := by
  obtain ⟨hwf, K, hl⟩ := h
  exact size_any hl f
theorem lose_dsk (h : Dsk A r s w) (n : Int) (hn : J64 n) : Calls Try.prog 50 #[.pointer (some ⟨r, 0, none⟩), .int .i64 n] w fun e w' => e = .returned (.tuple #[]) ∧ Dsk A r (loseS s n) w' ∧ Fr A w w' := by
  obtain ⟨hwf, K, hl⟩ := h
  exact (lose_lay hl n hn).mono fun e w' ⟨h1, h2, h3⟩ => ⟨h1, ⟨wf_lose hwf hn, h2⟩, h3⟩
theorem arm_dsk (h : Dsk A r s w) {n : Int} (hn : J64 n) {v : Value} {l : List Int} (hl : l.length ≤ 17592186044416) (hj : ∀ z ∈ l, J64 z) (hv : Ints w v l) (hvb : ∀ b, vblock v = some b → ¬ A b) :
    Calls Try.prog 52 #[.pointer (some ⟨r, 0, none⟩), .int .i64 n, v] w fun e w' => e = .returned (.tuple #[]) ∧ Dsk A r (armS s n l) w' ∧ Fr A w w' := by
  obtain ⟨hwf, K, hlay⟩ := h
  exact (arm_lay hlay hn hl hv (fun b hb e => hvb b hb (by rw [e]; exact hlay.sep.rA.1))).mono fun e w' ⟨h1, h2, h3⟩ => ⟨h1, ⟨wf_arm hwf hn hj hl, h2⟩, h3⟩
end
end Go.Proofs.Ytdjchpejhfkknaa.Dk
