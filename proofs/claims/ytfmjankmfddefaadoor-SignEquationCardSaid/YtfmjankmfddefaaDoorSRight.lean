/- sign.Right: what it returns is that of the plain mathematics. Conditions: the listed variables hold what they are laid with, and the library's own variable holds some int. -/
import Derived.Test.YtfmjankmfddefaaDoorSKey
import Derived.Deep.RegionHeld3
import Derived.BigQuiet
namespace Go.Proofs.YtfmjankmfddefaaDoor.Sg
set_option linter.unusedVariables false
open Go.RowKit Gp Gp.Grp Wr.Wm
open Dg (sv)

theorem s2_below {w W W' : World} {g : Nat} {a b : Value} (h : W.cell? ⟨g, 0, none⟩ = some a ∧ W.cell? ⟨g, 1, none⟩ = some b ∧ Below g w W ∧ g < W.heap.size ∧ Wd W) (hb : Below W.heap.size W W') :
    W'.cell? ⟨g, 0, none⟩ = some a ∧ W'.cell? ⟨g, 1, none⟩ = some b ∧ Below g w W' ∧ g < W'.heap.size ∧ Wd W' :=
  ⟨(hb.cell (p := ⟨g, 0, none⟩) h.2.2.2.1).trans h.1, (hb.cell (p := ⟨g, 1, none⟩) h.2.2.2.1).trans h.2.1, h.2.2.1.trans (hb.mono (by have := h.2.2.2.1; omega)), Nat.lt_of_lt_of_le h.2.2.2.1 hb.size, h.2.2.2.2.below hb⟩
/-- A call in a region in which a block of two numbers is read. -/
theorem held {f : FuncId} {args : Array Value} {v : Value} (C : ∀ W, Wd W → Calls Tryd.prog f args W (Ret v W)) {w : World} {g : Nat} {a b : Value} :
    ∀ W, (W.cell? ⟨g, 0, none⟩ = some a ∧ W.cell? ⟨g, 1, none⟩ = some b ∧ Below g w W ∧ g < W.heap.size ∧ Wd W) →
      Calls Tryd.prog f args W fun e W' => e = .returned v ∧ (W'.cell? ⟨g, 0, none⟩ = some a ∧ W'.cell? ⟨g, 1, none⟩ = some b ∧ Below g w W' ∧ g < W'.heap.size ∧ Wd W') :=
  fun W h => (C W h.2.2.2.2).mono fun e W' hr => ⟨hr.1, s2_below h hr.2⟩
theorem s2_new {w : World} {g : Nat} {a b : Value} {t : TypeId} (hg : w.heap.size = g) (hw : Wd w) :
    (w.alloc (.cells #[a, b] t)).cell? ⟨g, 0, none⟩ = some a ∧ (w.alloc (.cells #[a, b] t)).cell? ⟨g, 1, none⟩ = some b ∧ Below g w (w.alloc (.cells #[a, b] t)) ∧ g < (w.alloc (.cells #[a, b] t)).heap.size ∧ Wd (w.alloc (.cells #[a, b] t)) := by
  subst hg
  have K0 := Dg.Blk.new w t #[a, b]
  exact ⟨K0.cell 0, K0.cell 1, below_alloc _ _, K0.lt, hw.below (below_alloc _ _)⟩
theorem wd_drew {W : World} (h : Wd W) : Wd W.drew := h

set_option maxHeartbeats 2000000 in
set_option maxRecDepth 100000 in
theorem right_zero (w : World) : Calls Tryd.prog 14 #[kv 0 0] w (Ret (.bool false) w) := by
  unfold kv
  have K0 := Dg.Blk.new w 23 #[.int .i64 0, .int .i64 0]
  have c0 := K0.cell 0
  have c1 := K0.cell 1
  go_enter Tryd.func14, Tryd.ntmps14
  go_wp2_with fail
  go_quiet (fail)
  go_wp2_with fail
  go_ret
  exact ⟨rfl, below_trans (below_alloc _ _) (below_drewN _ _)⟩
set_option maxHeartbeats 4000000 in
set_option maxRecDepth 100000 in
theorem right_walk {x y x' y' : Int} (p1 p2 q1 q2 : Bool) (hp1 : (x == 0) = p1) (hp2 : (y == 0) = p2) (hq1 : (x == x') = q1) (hq2 : (y == y') = q2) (hnz : (p1 && p2) = false)
    (hC : ∀ W, Wd W → Calls Tryd.prog 12 #[.int .i64 x] W (Ret (kv x' y') W)) (w : World) (hw : Wd w) : Calls Tryd.prog 14 #[kv x y] w (Ret (.bool (q1 && q2)) w) := by
  have C := Lib.hid (held (w := w) (g := w.heap.size) (a := .int .i64 x) (b := .int .i64 y) hC)
  obtain ⟨g, hg⟩ : ∃ g, w.heap.size = g := ⟨_, rfl⟩
  have HS := Lib.hid (s2_new (a := .int .i64 x) (b := .int .i64 y) (t := 23) hg hw)
  rw [hg] at C
  unfold kv at *
  clear hC
  cases p1 <;> cases p2 <;> cases q1 <;> cases q2 <;> first
    | exact absurd hnz (by decide)
    | (clear hnz
       go_enter Tryd.func14, Tryd.ntmps14
       go_wp2_with fail
       obtain ⟨s1, s2, s3, s4, s5⟩ := HS.out
       generalize w.alloc (.cells #[.int .i64 x, .int .i64 y] 23) = W0 at *
       go_region_held3 (fun W => W.cell? ⟨g, 0, none⟩ = some (.int .i64 x) ∧ W.cell? ⟨g, 1, none⟩ = some (.int .i64 y) ∧ Below g w W ∧ g < W.heap.size ∧ Wd W)
         (((try dsimp only); (refine ⟨?_, ?_, ?_, ?_, ?_⟩ <;> (first | assumption | go_keep | exact ⟨s3.os, s3.tape, s3.output, s3.size, s3.block⟩))))
         ((first
           | (go_at_call 12; refine (C.out _ ?_).mono ?_; assumption; rintro e w4 ⟨rfl, h1, h2, h3, h4, h5⟩)))
       go_wp2_with fail
       go_ret
       exact ⟨rfl, by rw [hg]; exact h3⟩)
theorem right_eq {x y : Int} (h : ¬ (x = 0 ∧ y = 0)) : (x == ofX x && y == ofY x) = rightB x y := by
  by_cases hk : okx x = true
  · rw [ofX_pos hk, ofY_pos hk, beq_self_eq_true, Bool.true_and]; unfold rightB; rw [hk, Bool.true_and]
  · have hk := Bool.eq_false_iff.2 hk
    rw [ofX_neg hk, ofY_neg hk]; unfold rightB; rw [hk, Bool.false_and]
    by_cases h0 : x = 0
    · rw [beq_eq_false_iff_ne.2 (fun e => h ⟨h0, e⟩), Bool.and_false]
    · rw [beq_eq_false_iff_ne.2 h0]; rfl
theorem right_any (x y : Int) (w : World) (hw : Wd w) : Calls Tryd.prog 14 #[kv x y] w (Ret (.bool (rightB x y)) w) := by
  by_cases h : x = 0 ∧ y = 0
  · obtain ⟨rfl, rfl⟩ := h
    exact right_zero w
  · rw [← right_eq h]
    refine right_walk _ _ _ _ rfl rfl rfl rfl ?_ (fun W _ => of_any x W) w hw
    by_cases h0 : x = 0
    · rw [beq_eq_false_iff_ne.2 (fun e => h ⟨h0, e⟩), Bool.and_false]
    · rw [beq_eq_false_iff_ne.2 h0]; rfl
end Go.Proofs.YtfmjankmfddefaaDoor.Sg
