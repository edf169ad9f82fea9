/- sign.Verify: what it returns is that of the plain mathematics. Conditions: the texts have at most 2000 bytes together; the listed variables hold what they are laid with, and the library's own variable holds some int. -/
import Derived.Test.YtfmjankmfddefaaDoorSSign
namespace Go.Proofs.YtfmjankmfddefaaDoor.Sg
set_option linter.unusedVariables false
open Go.RowKit Gp Gp.Grp Wr.Wm
open Dg (sv)

/-- A public key or a number out of range. -/
theorem verify_out {y e s : Int} (h : rng y e s = false) (c m : Bs) (w : World) (hw : Wd w) : Calls Tryd.prog 18 #[.int .i64 y, .string (sv c), .string (sv m), kv e s] w (Ret (.bool false) w) := by
  have C1 := Lib.hid (held (w := w) (g := w.heap.size) (a := .int .i64 e) (b := .int .i64 s) (fun W hW => in_c y W hW))
  have C2 := Lib.hid (held (w := w) (g := w.heap.size) (a := .int .i64 e) (b := .int .i64 s) (fun W _ => residue_any e W))
  have C3 := Lib.hid (held (w := w) (g := w.heap.size) (a := .int .i64 e) (b := .int .i64 s) (fun W _ => residue_any s W))
  obtain ⟨g, hg⟩ : ∃ g, w.heap.size = g := ⟨_, rfl⟩
  have HS := Lib.hid (s2_new (a := .int .i64 e) (b := .int .i64 s) (t := 25) hg hw)
  rw [hg] at C1 C2 C3
  unfold kv rng at *
  generalize inB y = b1 at *
  generalize inR e = b2 at *
  generalize inR s = b3 at *
  obtain ⟨b0, hb0⟩ : ∃ b, (y == 1) = b := ⟨_, rfl⟩
  rw [hb0] at h
  clear hw
  cases b0
  case true =>
    clear h
    go_enter Tryd.func18, Tryd.ntmps18
    go_wp2_with fail
    subst hg
    go_ret
    exact ⟨rfl, HS.out.2.2.1⟩
  cases b1
  case false.false =>
    clear h
    go_enter Tryd.func18, Tryd.ntmps18
    go_wp2_with fail
    refine (C1.out _ HS.out).mono ?_
    rintro e' w1 ⟨rfl, h1⟩
    have H1 := Lib.hid h1
    clear h1
    go_wp2_with fail
    subst hg
    go_ret
    exact ⟨rfl, H1.out.2.2.1⟩
  cases b2
  case false.true.false =>
    clear h
    go_enter Tryd.func18, Tryd.ntmps18
    go_wp2_with fail
    refine (C1.out _ HS.out).mono ?_
    rintro e' w1 ⟨rfl, h1⟩
    have H1 := Lib.hid h1
    obtain ⟨c0, c1, _⟩ := h1
    go_wp2_with fail
    refine (C2.out _ H1.out).mono ?_
    rintro e' w2 ⟨rfl, h1⟩
    have H2 := Lib.hid h1
    clear h1 c0 c1 H1
    go_wp2_with fail
    subst hg
    go_ret
    exact ⟨rfl, H2.out.2.2.1⟩
  obtain rfl : b3 = false := by cases b3; rfl; exact h
  clear h
  go_enter Tryd.func18, Tryd.ntmps18
  go_wp2_with fail
  refine (C1.out _ HS.out).mono ?_
  rintro e' w1 ⟨rfl, h1⟩
  have H1 := Lib.hid h1
  obtain ⟨c0, c1, _⟩ := h1
  go_wp2_with fail
  refine (C2.out _ H1.out).mono ?_
  rintro e' w2 ⟨rfl, h1⟩
  have H2 := Lib.hid h1
  clear c0 c1 H1
  obtain ⟨c0, c1, _⟩ := h1
  go_wp2_with fail
  refine (C3.out _ H2.out).mono ?_
  rintro e' w2 ⟨rfl, h1⟩
  have H3 := Lib.hid h1
  clear c0 c1 H2 h1
  go_wp2_with fail
  subst hg
  go_ret
  exact ⟨rfl, H3.out.2.2.1⟩
set_option maxHeartbeats 4000000 in
set_option maxRecDepth 100000 in
theorem verify_in {y e s : Int} (h : rng y e s = true) (c m : Bs) (hl : c.length + m.length ≤ 2000) (w : World) (hw : Wd w) : Calls Tryd.prog 18 #[.int .i64 y, .string (sv c), .string (sv m), kv e s] w (Ret (.bool (chS (elt y e s) y c m == e)) w) := by
  unfold rng at h
  simp only [Bool.and_eq_true, Bool.not_eq_true'] at h
  obtain ⟨b0, b1, b2, b3⟩ := h
  have C1 := Lib.hid (held (w := w) (g := w.heap.size) (a := .int .i64 e) (b := .int .i64 s) (fun W hW => in_c y W hW))
  have C2 := Lib.hid (held (w := w) (g := w.heap.size) (a := .int .i64 e) (b := .int .i64 s) (fun W _ => residue_any e W))
  have C3 := Lib.hid (held (w := w) (g := w.heap.size) (a := .int .i64 e) (b := .int .i64 s) (fun W _ => residue_any s W))
  have hi := of_inB b1
  rw [b1] at C1
  rw [b2] at C2
  rw [b3] at C3
  rw [inR_iff] at b2 b3
  have C4 := Lib.hid (held (w := w) (g := w.heap.size) (a := .int .i64 e) (b := .int .i64 s) (fun W _ => exp_c 4 s (by unfold I64; omega) W))
  have C5 := Lib.hid (held (w := w) (g := w.heap.size) (a := .int .i64 e) (b := .int .i64 s) (fun W _ => exp_c y (1152921504606845789 - e) (by unfold I64; omega) W))
  have C6 := Lib.hid (held (w := w) (g := w.heap.size) (a := .int .i64 e) (b := .int .i64 s) (fun W hW => mul_c (xe 4 s) (xe y (1152921504606845789 - e)) W hW))
  have e1 : mu (xe 4 s) (xe y (1152921504606845789 - e)) = elt y e s := rfl
  rw [e1] at C6
  have hel : 0 ≤ elt y e s ∧ elt y e s < 2305843009213691579 := mu_bd _ _
  have C7 := Lib.hid (held (w := w) (g := w.heap.size) (a := .int .i64 e) (b := .int .i64 s) (fun W hW => challenge_any (elt y e s) y c m hel.1 hel.2 (by omega) hi.2.1 hl W hW))
  obtain ⟨d, hd⟩ : ∃ d, 1152921504606845789 - e = d := ⟨_, rfl⟩
  have w1 : wrap64 (1152921504606845789 - e) = d := by rw [← hd]; unfold wrap64; omega
  have w2 : IntKind.i64.wrap (1152921504606845789 - e) = d := by rw [← hd, IntKind.wrap_i64]; omega
  rw [hd] at C5 C6
  obtain ⟨g, hg⟩ : ∃ g, w.heap.size = g := ⟨_, rfl⟩
  have HS := Lib.hid (s2_new (a := .int .i64 e) (b := .int .i64 s) (t := 25) hg hw)
  rw [hg] at C1 C2 C3 C4 C5 C6 C7
  unfold kv at *
  clear hw b1 b2 b3 hi e1 hel hd hl
  generalize chS (elt y e s) y c m = E at *
  generalize elt y e s = r at *
  generalize xe 4 s = u at *
  generalize xe y d = v at *
  go_enter Tryd.func18, Tryd.ntmps18
  go_wp2_with fail
  refine (C1.out _ HS.out).mono ?_
  rintro e' w1 ⟨rfl, h1⟩
  have H1 := Lib.hid h1
  obtain ⟨c0, c1, _⟩ := h1
  clear C1 HS
  go_wp2_with fail
  refine (C2.out _ H1.out).mono ?_
  rintro e' w2 ⟨rfl, h1⟩
  have H2 := Lib.hid h1
  clear c0 c1 H1 C2
  obtain ⟨c0, c1, _⟩ := h1
  go_wp2_with fail
  refine (C3.out _ H2.out).mono ?_
  rintro e' w3 ⟨rfl, h1⟩
  clear c0 c1 H2 C3
  obtain ⟨s1, s2, s3, s4, s5⟩ := h1
  go_wp2_with fail
  go_region_held3 (fun W => W.cell? ⟨g, 0, none⟩ = some (.int .i64 e) ∧ W.cell? ⟨g, 1, none⟩ = some (.int .i64 s) ∧ Below g w W ∧ g < W.heap.size ∧ Wd W)
    (((try dsimp only); (refine ⟨?_, ?_, ?_, ?_, ?_⟩ <;> (first | assumption | go_keep | exact ⟨s3.os, s3.tape, s3.output, s3.size, s3.block⟩))))
    ((first
      | (go_at_call 24; with_reducible refine (C4.out _ ?_).mono ?_; assumption; rintro e' w4 ⟨rfl, h1, h2, h3, h4, h5⟩)
      | (go_at_call 24; with_reducible refine (C5.out _ ?_).mono ?_; assumption; rintro e' w5 ⟨rfl, h1, h2, h3, h4, h5⟩)
      | (go_at_call 25; refine (C6.out _ ?_).mono ?_; assumption; rintro e' w6 ⟨rfl, h1, h2, h3, h4, h5⟩)))
  clear s1 s2 s3 s4 s5 C4 C5 C6
  obtain ⟨b, hb⟩ : ∃ b, (E == e) = b := ⟨_, rfl⟩
  go_wp2_with fail
  go_region_held3 (fun W => W.cell? ⟨g, 0, none⟩ = some (.int .i64 e) ∧ W.cell? ⟨g, 1, none⟩ = some (.int .i64 s) ∧ Below g w W ∧ g < W.heap.size ∧ Wd W)
    (((try dsimp only); (refine ⟨?_, ?_, ?_, ?_, ?_⟩ <;> (first | assumption | go_keep | exact ⟨h3.os, h3.tape, h3.output, h3.size, h3.block⟩))))
    ((first
      | (go_at_call 34; refine (C7.out _ ?_).mono ?_; assumption; rintro e' w7 ⟨rfl, k1, k2, k3, k4, k5⟩)))
  go_wp2_with fail
  subst hg
  go_ret
  rw [hb]
  exact ⟨rfl, k3⟩
theorem verify_any (y e s : Int) (c m : Bs) (hl : c.length + m.length ≤ 2000) (w : World) (hw : Wd w) : Calls Tryd.prog 18 #[.int .i64 y, .string (sv c), .string (sv m), kv e s] w (Ret (.bool (verB y c m e s)) w) := by
  unfold verB
  by_cases h : rng y e s = true
  · rw [h, Bool.true_and]; exact verify_in h c m hl w hw
  · have h := Bool.eq_false_iff.2 h
    rw [h, Bool.false_and]; exact verify_out h c m w hw
end Go.Proofs.YtfmjankmfddefaaDoor.Sg
