/- sign.Sign: what it returns is that of the plain mathematics. Conditions: the texts have at most 2000 bytes together; the listed variables hold what they are laid with, and the library's own variable holds some int. -/
import Derived.Test.YtfmjankmfddefaaDoorSRight
namespace Go.Proofs.YtfmjankmfddefaaDoor.Sg
set_option linter.unusedVariables false
open Go.RowKit Gp Gp.Grp Wr.Wm
open Dg (sv)

section
variable {w W W' : World} {g : Nat} {a b : Value} {t : TypeId} {cs : Array Value}
theorem s3_below (h : W.cell? ⟨g, 0, none⟩ = some a ∧ W.cell? ⟨g, 1, none⟩ = some b ∧ Below g w W ∧ g + 1 < W.heap.size ∧ Wd W ∧ Dg.Blk W (g + 1) t cs) (hb : Below W.heap.size W W') :
    W'.cell? ⟨g, 0, none⟩ = some a ∧ W'.cell? ⟨g, 1, none⟩ = some b ∧ Below g w W' ∧ g + 1 < W'.heap.size ∧ Wd W' ∧ Dg.Blk W' (g + 1) t cs :=
  have hg : g < W.heap.size := by have := h.2.2.2.1; omega
  ⟨(hb.cell (p := ⟨g, 0, none⟩) hg).trans h.1, (hb.cell (p := ⟨g, 1, none⟩) hg).trans h.2.1, h.2.2.1.trans (hb.mono (by omega)), Nat.lt_of_lt_of_le h.2.2.2.1 hb.size, h.2.2.2.2.1.below hb, h.2.2.2.2.2.below hb h.2.2.2.1⟩
/-- A call beside a block of two numbers that is read, and one that will be written. -/
theorem held3 {f : FuncId} {args : Array Value} {v : Value} (C : ∀ W, Wd W → Calls Tryd.prog f args W (Ret v W)) (W : World)
    (h : W.cell? ⟨g, 0, none⟩ = some a ∧ W.cell? ⟨g, 1, none⟩ = some b ∧ Below g w W ∧ g + 1 < W.heap.size ∧ Wd W ∧ Dg.Blk W (g + 1) t cs) :
    Calls Tryd.prog f args W fun e W' => e = .returned v ∧ (W'.cell? ⟨g, 0, none⟩ = some a ∧ W'.cell? ⟨g, 1, none⟩ = some b ∧ Below g w W' ∧ g + 1 < W'.heap.size ∧ Wd W' ∧ Dg.Blk W' (g + 1) t cs) :=
  (C W h.2.2.2.2.1).mono fun e W' hr => ⟨hr.1, s3_below h hr.2⟩
theorem s3_new {u : TypeId} {c d : Value} (hg : w.heap.size = g) (hw : Wd w) :
    ((w.alloc (.cells #[a, b] u)).alloc (.cells #[c, d] t)).cell? ⟨g, 0, none⟩ = some a ∧ ((w.alloc (.cells #[a, b] u)).alloc (.cells #[c, d] t)).cell? ⟨g, 1, none⟩ = some b ∧ Below g w ((w.alloc (.cells #[a, b] u)).alloc (.cells #[c, d] t)) ∧
      g + 1 < ((w.alloc (.cells #[a, b] u)).alloc (.cells #[c, d] t)).heap.size ∧ Wd ((w.alloc (.cells #[a, b] u)).alloc (.cells #[c, d] t)) ∧ Dg.Blk ((w.alloc (.cells #[a, b] u)).alloc (.cells #[c, d] t)) (g + 1) t #[c, d] := by
  subst hg
  have K0 := Dg.Blk.new w u #[a, b]
  have B1 := below_alloc w (.cells #[a, b] u)
  have B2 := below_alloc (w.alloc (.cells #[a, b] u)) (.cells #[c, d] t)
  have K1 := K0.below B2 K0.lt
  have K2 := Dg.Blk.new (w.alloc (.cells #[a, b] u)) t #[c, d]
  have e : (w.alloc (.cells #[a, b] u)).heap.size = w.heap.size + 1 := by simp
  rw [e] at K2
  exact ⟨K1.cell 0, K1.cell 1, below_trans B1 B2, K2.lt, (hw.below B1).below B2, K2⟩
end

theorem mulq_c (a b : Int) (w : World) (hw : Wd w) : Calls Tryd.prog 36 #[.int .i64 a, .int .i64 b] w (Ret (.int .i64 (rq (a * b))) w) := (mulq_any a b w).mono fun _ _ h => ret_drew h
theorem addq_c (a b : Int) (w : World) (hw : Wd w) : Calls Tryd.prog 35 #[.int .i64 a, .int .i64 b] w (Ret (.int .i64 (rq (a + b))) w) := (addq_any a b w).mono fun _ _ h => ret_same h
theorem mul_c (a b : Int) (w : World) (hw : Wd w) : Calls Tryd.prog 25 #[.int .i64 a, .int .i64 b] w (Ret (.int .i64 (mu a b)) w) := (mul_any a b w).mono fun _ _ h => ret_drew h
theorem in_c (y : Int) (w : World) (hw : Wd w) : Calls Tryd.prog 22 #[.int .i64 y] w (Ret (.bool (inB y)) w) := (in_any y w).mono fun _ _ h => ret_drew h

set_option maxHeartbeats 4000000 in
set_option maxRecDepth 100000 in
theorem sign_no {x y : Int} (h : rightB x y = false) (c m : Bs) (w : World) (hw : Wd w) : Calls Tryd.prog 16 #[kv x y, .string (sv c), .string (sv m)] w (Ret (kv 0 0) w) := by
  have C1 := Lib.hid (held3 (w := w) (g := w.heap.size) (a := .int .i64 x) (b := .int .i64 y) (t := 25) (cs := #[.int .i64 0, .int .i64 0]) (fun W hW => right_any x y W hW))
  rw [h] at C1
  obtain ⟨g, hg⟩ : ∃ g, w.heap.size = g := ⟨_, rfl⟩
  have HS := Lib.hid (s3_new (a := .int .i64 x) (b := .int .i64 y) (u := 23) (c := .int .i64 0) (d := .int .i64 0) (t := 25) hg hw)
  rw [hg] at C1
  unfold kv at *
  clear h hw
  go_enter Tryd.func16, Tryd.ntmps16
  go_wp2_with fail
  refine (C1.out _ HS.out).mono ?_
  rintro e w1 ⟨rfl, s1, s2, s3, s4, s5, s6⟩
  have c0 := s6.cell 0
  have c1 := s6.cell 1
  have f0 := s6.frozen 0
  have f1 := s6.frozen 1
  have HB := Lib.hid s3
  have HK := Lib.hid s6
  clear s1 s2 s3 s4 s5 s6 C1
  go_wp2_with fail
  subst hg
  exact ret_sig rfl rfl rfl (blk_two HK.out _ _) (below_two HB.out (by omega) _ _)
set_option maxHeartbeats 4000000 in
set_option maxRecDepth 100000 in
theorem sign_yes {x : Int} (h : okx x = true) (c m : Bs) (hl : c.length + m.length ≤ 2000) (w : World) (hw : Wd w) : Calls Tryd.prog 16 #[kv x (xe 4 x), .string (sv c), .string (sv m)] w (Ret (kv (sgE x c m) (sgS x c m)) w) := by
  have hx := h
  rw [okx_iff] at hx
  have hy := xe_bd 4 x
  have hr := xe_bd 4 (nonS x c m)
  have hn := nonS_bd x c m
  have C1 := Lib.hid (held3 (w := w) (g := w.heap.size) (a := .int .i64 x) (b := .int .i64 (xe 4 x)) (t := 25) (cs := #[.int .i64 0, .int .i64 0]) (fun W hW => right_any x (xe 4 x) W hW))
  rw [right_of h] at C1
  have C2 := Lib.hid (held3 (w := w) (g := w.heap.size) (a := .int .i64 x) (b := .int .i64 (xe 4 x)) (t := 25) (cs := #[.int .i64 0, .int .i64 0]) (fun W hW => nonce_any x c m (by omega) (by omega) hl W hW))
  have C3 := Lib.hid (held3 (w := w) (g := w.heap.size) (a := .int .i64 x) (b := .int .i64 (xe 4 x)) (t := 25) (cs := #[.int .i64 0, .int .i64 0]) (fun W _ => exp_c 4 (nonS x c m) (by unfold I64; omega) W))
  have C4 := Lib.hid (held3 (w := w) (g := w.heap.size) (a := .int .i64 x) (b := .int .i64 (xe 4 x)) (t := 25) (cs := #[.int .i64 0, .int .i64 0]) (fun W hW => challenge_any (xe 4 (nonS x c m)) (xe 4 x) c m hr.1 hr.2 hy.1 hy.2 hl W hW))
  have e1 : chS (xe 4 (nonS x c m)) (xe 4 x) c m = sgE x c m := rfl
  rw [e1] at C4
  have C5 := Lib.hid (held3 (w := w) (g := w.heap.size) (a := .int .i64 x) (b := .int .i64 (xe 4 x)) (t := 25) (cs := #[.int .i64 0, .int .i64 0]) (fun W hW => mulq_c (sgE x c m) x W hW))
  have C6 := Lib.hid (held3 (w := w) (g := w.heap.size) (a := .int .i64 x) (b := .int .i64 (xe 4 x)) (t := 25) (cs := #[.int .i64 0, .int .i64 0]) (fun W hW => addq_c (nonS x c m) (rq (sgE x c m * x)) W hW))
  have e2 : rq (nonS x c m + rq (sgE x c m * x)) = sgS x c m := rfl
  rw [e2] at C6
  obtain ⟨g, hg⟩ : ∃ g, w.heap.size = g := ⟨_, rfl⟩
  have HS := Lib.hid (s3_new (a := .int .i64 x) (b := .int .i64 (xe 4 x)) (u := 23) (c := .int .i64 0) (d := .int .i64 0) (t := 25) hg hw)
  rw [hg] at C1 C2 C3 C4 C5 C6
  unfold kv at *
  clear h hw hx hy hr hn e1 e2 hl
  generalize xe 4 (nonS x c m) = r at *
  generalize xe 4 x = y at *
  generalize rq (sgE x c m * x) = p at *
  generalize sgE x c m = E at *
  generalize sgS x c m = S at *
  generalize nonS x c m = n at *
  go_enter Tryd.func16, Tryd.ntmps16
  go_wp2_with fail
  refine (C1.out _ HS.out).mono ?_
  rintro e w1 ⟨rfl, h1⟩
  have H1 := Lib.hid h1
  obtain ⟨c0, c1, _⟩ := h1
  clear C1 HS
  go_wp2_with fail
  refine (C2.out _ H1.out).mono ?_
  rintro e w2 ⟨rfl, h2⟩
  obtain ⟨s1, s2, s3, s4, s5, s6⟩ := h2
  clear C2 H1 c0 c1
  go_wp2_with fail
  go_region_held3 (fun W => W.cell? ⟨g, 0, none⟩ = some (.int .i64 x) ∧ W.cell? ⟨g, 1, none⟩ = some (.int .i64 y) ∧ Below g w W ∧ g + 1 < W.heap.size ∧ Wd W ∧ Dg.Blk W (g + 1) 25 #[.int .i64 0, .int .i64 0])
    (((try dsimp only); (refine ⟨?_, ?_, ?_, ?_, ?_, ?_⟩ <;> (first | assumption | go_keep | exact ⟨s3.os, s3.tape, s3.output, s3.size, s3.block⟩))))
    ((first
      | (go_at_call 24; refine (C3.out _ ?_).mono ?_; assumption; rintro e w4 ⟨rfl, h1, h2, h3, h4, h5, h6⟩)
      | (go_at_call 34; refine (C4.out _ ?_).mono ?_; assumption; rintro e w5 ⟨rfl, h1, h2, h3, h4, h5, h6⟩)))
  go_wp2_with fail
  refine (C5.out _ ⟨h1, h2, h3, h4, h5, h6⟩).mono ?_
  rintro e w6 ⟨rfl, hh⟩
  have H6 := Lib.hid hh
  clear h1 h2 h3 h4 h5 h6 s1 s2 s3 s4 s5 s6 hh
  go_wp2_with fail
  refine (C6.out _ H6.out).mono ?_
  rintro e w7 ⟨rfl, hh⟩
  have H7 := Lib.hid hh.2.2
  clear H6 hh C3 C4 C5 C6
  have K7 := Lib.hid H7.out.2.2.2
  have c0 := K7.out.cell 0
  have c1 := K7.out.cell 1
  have f0 := K7.out.frozen 0
  have f1 := K7.out.frozen 1
  go_wp2_with fail
  subst hg
  exact ret_sig rfl rfl rfl (blk_two K7.out _ _) (below_two H7.out.1 (by omega) _ _)
theorem sign_any (x y : Int) (c m : Bs) (hl : c.length + m.length ≤ 2000) (w : World) (hw : Wd w) : Calls Tryd.prog 16 #[kv x y, .string (sv c), .string (sv m)] w (Ret (kv (siE x y c m) (siS x y c m)) w) := by
  by_cases h : rightB x y = true
  · unfold siE siS
    rw [if_pos h, if_pos h]
    unfold rightB at h
    rw [Bool.and_eq_true, beq_iff_eq] at h
    obtain ⟨h1, rfl⟩ := h
    exact sign_yes h1 c m hl w hw
  · unfold siE siS
    rw [if_neg h, if_neg h]
    exact sign_no (Bool.eq_false_iff.2 h) c m w hw
end Go.Proofs.YtfmjankmfddefaaDoor.Sg
