/- The examples that every statement of layer 1 checks first: all of them are right. Conditions: none. -/
import Derived.Test.YtbpibdjmffhmpaaAdd
namespace Go.Proofs.Ytbpibdjmffhmpaa
open Go.RowKit Mth

theorem reads_lit (w : World) (zs : List Int) (c : Nat) (hn : zs.length * 8 ≤ 140737488351232) (hf : Fits zs) : Reads (w.alloc (.cells (zs.map (Value.int .i64)).toArray 3)) (.slice (some ⟨w.heap.size, 0, none⟩) zs.length c) zs := by
  refine ⟨hn, hf, .inr ⟨_, _, _, rfl, by simp, ?_⟩⟩
  intro j hj
  rw [cell_of_row _ _ _ _ _ (0, 0) (heap_alloc_new w _), Nat.zero_add]
  simp [List.getD_eq_getElem?_getD, hj]
theorem reads_at (w : World) (zs : List Int) (g c : Nat) (hg : w.heap.size = g) (hn : zs.length * 8 ≤ 140737488351232) (hf : Fits zs) : Reads (w.alloc (.cells (zs.map (Value.int .i64)).toArray 3)) (.slice (some ⟨g, 0, none⟩) zs.length c) zs := by
  subst hg
  exact reads_lit w zs c hn hf
theorem own_range {w : World} {g n : Nat} {f : Nat → Int} {zs : List Int} (h : Own w g n f) (he : (List.range n).map f = zs) (hn : n * 8 ≤ 140737488351232) (hf : Fits zs) (c : Nat) : Reads w (.slice (some ⟨g, 0, none⟩) n c) zs := by
  subst he
  refine Reads.own h hn ?_ c
  intro i hi
  exact hf (f i) (List.mem_map.2 ⟨i, List.mem_range.2 hi, rfl⟩)
theorem Own.below {w w' : World} {g n : Nat} {f : Nat → Int} (h : Own w g n f) (hb : Below w.heap.size w w') : Own w' g n f := by
  unfold Own
  rw [hb.block g h.lt]
  exact h
theorem sum_any {w : World} {v : Value} {zs : List Int} (h : Reads w v zs) : Calls Try.prog 14 #[v] w fun e w' => e = .returned (.tuple #[.int .i64 (sumN zs), .bool (sumB zs)]) ∧ w = w' := by
  obtain ⟨h1, h2, h3⟩ := h
  rcases h3 with ⟨rfl, a, c, rfl⟩ | ⟨b, off, c, rfl, _, hc⟩
  · exact sum_none a c w
  · exact sum_some b off c zs w h1 h2 hc

theorem sh1 : (List.range 4).map (shareF 10 [1, 1, 1, 20]) = [1, 0, 0, 9] := by decide
theorem sh2 : (List.range 3).map (shareF 2 [1, 1, 1]) = [1, 1, 0] := by decide
theorem i64c {n : Int} (h : -9223372036854775808 ≤ n ∧ n ≤ 9223372036854775807) : I64 n := h
theorem fit4 (a b c d : Int) (ha : I64 a) (hb : I64 b) (hc : I64 c) (hd : I64 d) : Fits [a, b, c, d] := by
  intro x hx
  simp only [List.mem_cons, List.not_mem_nil, or_false] at hx
  rcases hx with rfl | rfl | rfl | rfl <;> assumption
theorem fit3 (a b c : Int) (ha : I64 a) (hb : I64 b) (hc : I64 c) : Fits [a, b, c] := fun x hx => fit4 a b c c ha hb hc hc x (by simp at hx ⊢; omega)
theorem fit2 (a b : Int) (ha : I64 a) (hb : I64 b) : Fits [a, b] := fun x hx => fit4 a b b b ha hb hb hb x (by simp at hx ⊢; omega)

theorem same_true {w : World} {v v' : Value} {xs : List Int} (h : Reads w v xs) (h' : Reads w v' xs) :
    Calls Try.prog 16 #[v, v'] w fun e w' => e = .returned (.bool true) ∧ ∃ m, w' = w.drewN m :=
  (same_any h h').mono fun e w' ⟨he, hw⟩ => ⟨by rw [he, decide_eq_true rfl], hw⟩
theorem below_alloc {w w' : World} {o : Obj} (h : Below (w.alloc o).heap.size (w.alloc o) w') : Below w.heap.size w w' := ((Below.refl _ _).alloc (Nat.le_refl _) _).trans (h.mono (by simp))
theorem below_drewN {w w' : World} {k : Nat} (h : Below (w.drewN k).heap.size (w.drewN k) w') : Below w.heap.size w w' := ⟨h.os, h.tape, h.output, h.size, h.block⟩
theorem self_alloc (w : World) (o : Obj) : Below w.heap.size w (w.alloc o) := (Below.refl _ _).alloc (Nat.le_refl _) _
theorem bon {w w' w'' : World} (h : Below w.heap.size w w') (h' : Below w'.heap.size w' w'') : Below w.heap.size w w'' := h.trans (h'.mono h.size)
theorem self_drewN (w : World) (k : Nat) : Below w.heap.size w (w.drewN k) := ⟨rfl, rfl, rfl, Nat.le_refl _, fun _ _ => rfl⟩
def IsTrue (w : World) (e : Ending) (w' : World) : Prop := e = .returned (.bool true) ∧ Below w.heap.size w w'

set_option maxHeartbeats 1600000 in
set_option maxRecDepth 100000 in
theorem small_any (w : World) : Calls Try.prog 9 #[] w (IsTrue w) := by
  have c1 := fun W => scale_any 10 1 3 W
  have c2 := fun W => scale_any 1125899906842624 1125899906842624 1125899906842624 W
  have c3 := fun W => scale_any 1125899906842624 2 1 W
  have c4 := fun W => scale_any 1 1 0 W
  rw [show scQ 10 1 3 = 3 by decide, show scR 10 1 3 = 1 by decide, show scB 10 1 3 = true by decide] at c1
  rw [show scQ 1125899906842624 1125899906842624 1125899906842624 = 1125899906842624 by decide, show scR 1125899906842624 1125899906842624 1125899906842624 = 0 by decide, show scB 1125899906842624 1125899906842624 1125899906842624 = true by decide] at c2
  rw [show scQ 1125899906842624 2 1 = 0 by decide, show scR 1125899906842624 2 1 = 0 by decide, show scB 1125899906842624 2 1 = false by decide] at c3
  rw [show scQ 1 1 0 = 0 by decide, show scR 1 1 0 = 0 by decide, show scB 1 1 0 = false by decide] at c4
  have C1 := Lib.hid c1
  have C2 := Lib.hid c2
  have C3 := Lib.hid c3
  have C4 := Lib.hid c4
  clear c1 c2 c3 c4
  have s4 : shareB 10 [1, 1, 1, 20] = true := by decide
  have s3 : shareB 2 [1, 1, 1] = true := by decide
  have s2 : shareB 4 [1, 2] = false := by decide
  have S4 := fun W => Lib.hid (share_yes (reads_lit W [1, 1, 1, 20] 4 (by decide) (fit4 _ _ _ _ (i64c (by decide)) (i64c (by decide)) (i64c (by decide)) (i64c (by decide)))) s4)
  have S3 := fun W => Lib.hid (share_yes (reads_lit W [1, 1, 1] 3 (by decide) (fit3 _ _ _ (i64c (by decide)) (i64c (by decide)) (i64c (by decide)))) s3)
  have S2 := fun W => Lib.hid (share_no (reads_lit W [1, 2] 2 (by decide) (fit2 _ _ (i64c (by decide)) (i64c (by decide)))) s2)
  clear s4 s3 s2
  go_enter Try.func9, Try.ntmps9
  go_wp2_with fail
  refine (C1.out _).mono ?_
  rintro e w' ⟨rfl, k1, rfl⟩
  go_wp2_with fail
  refine (C2.out _).mono ?_
  rintro e w' ⟨rfl, k2, rfl⟩
  go_wp2_with fail
  refine (C3.out _).mono ?_
  rintro e w' ⟨rfl, k3, rfl⟩
  go_wp2_with fail
  refine (C4.out _).mono ?_
  rintro e w' ⟨rfl, k4, rfl⟩
  go_wp2_with fail
  refine (S4 _).out.mono ?_
  rintro e w1 ⟨rfl, o1, b1⟩
  have B1 := Lib.hid (below_drewN (below_alloc b1))
  rw [alloc_sz] at o1
  have R1 : Hid (Reads w1 (.slice (some ⟨w.heap.size + 1, 0, none⟩) 4 4) [1, 0, 0, 9]) := Lib.hid (own_range o1 sh1 (by decide) (fit4 _ _ _ _ (i64c (by decide)) (i64c (by decide)) (i64c (by decide)) (i64c (by decide))) 4)
  clear o1 b1
  go_wp2_with fail
  refine (S3 _).out.mono ?_
  rintro e w2 ⟨rfl, o2, b2⟩
  have B2 := Lib.hid (below_alloc b2)
  rw [alloc_sz] at o2
  have R2 : Hid (Reads w2 (.slice (some ⟨w1.heap.size + 1, 0, none⟩) 3 3) [1, 1, 0]) := Lib.hid (own_range o2 sh2 (by decide) (fit3 _ _ _ (i64c (by decide)) (i64c (by decide)) (i64c (by decide))) 3)
  clear o2 b2
  go_wp2_with fail
  refine (S2 _).out.mono ?_
  rintro e w3 ⟨rfl, rfl⟩
  have hsum := fun W v (h : Reads W v [9223372036854775807, 1, -2]) => sum_any h
  rw [show sumN [9223372036854775807, 1, -2] = 9223372036854775806 by decide, show sumB [9223372036854775807, 1, -2] = true by decide] at hsum
  have HSUM := Lib.hid hsum
  clear hsum
  go_wp2_with fail
  refine (HSUM.out _ _ ?_).mono ?_
  · exact reads_at _ [9223372036854775807, 1, -2] _ 3 (by simp) (by decide) (fit3 _ _ _ (i64c (by decide)) (i64c (by decide)) (i64c (by decide)))
  rintro e w4 ⟨rfl, rfl⟩
  go_wp2_with fail
  refine (same_true (xs := [1, 0, 0, 9]) ?_ ?_).mono ?_
  · exact R1.out.below (bon (bon (bon B2.out (self_alloc _ _)) (self_alloc _ _)) (self_alloc _ _))
  · exact reads_at _ [1, 0, 0, 9] _ 4 (by simp) (by decide) (fit4 _ _ _ _ (i64c (by decide)) (i64c (by decide)) (i64c (by decide)) (i64c (by decide)))
  rintro e w5 ⟨rfl, m5, rfl⟩
  go_wp2_with fail
  refine (same_true (xs := [1, 1, 0]) ?_ ?_).mono ?_
  · exact R2.out.below (bon (bon (bon (bon (self_alloc _ _) (self_alloc _ _)) (self_alloc _ _)) (self_drewN _ _)) (self_alloc _ _))
  · exact reads_at _ [1, 1, 0] _ 3 (by simp) (by decide) (fit3 _ _ _ (i64c (by decide)) (i64c (by decide)) (i64c (by decide)))
  rintro e w6 ⟨rfl, m6, rfl⟩
  have ha := fun W => add_any 9223372036854775807 1 (i64c (by decide)) (i64c (by decide)) W
  have hs := fun W => sub_any (-9223372036854775808) 1 (i64c (by decide)) (i64c (by decide)) W
  have hc := fun W => clamp_any 3 5 4 W
  rw [show lim (9223372036854775807 + 1) = 9223372036854775807 by decide] at ha
  rw [show lim (-9223372036854775808 - 1) = -9223372036854775808 by decide] at hs
  rw [show clampV 3 5 4 = 5 by decide] at hc
  have HA := Lib.hid ha
  have HS := Lib.hid hs
  have HC := Lib.hid hc
  clear ha hs hc
  go_wp2_with fail
  refine (HA.out _).mono ?_
  rintro e w7 ⟨rfl, rfl⟩
  go_wp2_with fail
  refine (HS.out _).mono ?_
  rintro e w8 ⟨rfl, rfl⟩
  go_wp2_with fail
  refine (HC.out _).mono ?_
  rintro e w9 ⟨rfl, rfl⟩
  go_wp2_with fail
  go_ret
  refine ⟨rfl, ?_⟩
  exact bon B1.out (bon B2.out (bon (bon (bon (bon (bon (self_alloc _ _) (self_alloc _ _)) (self_alloc _ _)) (self_drewN _ _)) (self_alloc _ _)) (self_drewN _ _)))
end Go.Proofs.Ytbpibdjmffhmpaa
