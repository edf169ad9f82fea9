/- The reference's functions of layer 5: Of, Key, Right, Challenge, Sign, Element, Ranges and Verify: what they return is that of the plain mathematics. Conditions: the texts have at most 2000 bytes together; the listed variables hold what they are laid with, and the library's own variable holds some int. -/
import Derived.Test.YtfmjankmfddefaaDoorSVerify
import Derived.Test.YtfmjankmfddefaaDoorWRefI
import Derived.Test.YtfmjankmfddefaaDoorGRefSh
import Derived.Test.YtfmjankmfddefaaDoorGRefC
namespace Go.Proofs.YtfmjankmfddefaaDoor.Sg
set_option linter.unusedVariables false
open Go.RowKit Gp Gp.Grp Wr.Wm
open Dg (sv)

theorem rtext_c (s : Bs) (hs : s.length ≤ 2000) (w : World) (hw : Wd w) : Calls Tryd.prog 30 #[.string (sv s)] w (Ret (.string (sv (encT s))) w) := Wr.rf_text s (by omega) w
theorem rnum_c (n : Int) (h0 : 0 ≤ n) (h1 : n < 2305843009213691579) (w : World) (hw : Wd w) : Calls Tryd.prog 37 #[.int .i64 n] w (Ret (.string (sv (encI n))) w) := Wr.rf_num_pos n h0 (by unfold J64; omega) w
theorem rcomp : Hid Dg.RComp := Lib.hid (fun s hs a ha H hcap h hh w hH => Dg.rcomp_any s hs a ha H hcap h hh w hH)
theorem rshort_c (l : Bs) (h : l.length ≤ 5000) (w : World) (hw : Wd w) : Calls Tryd.prog 29 #[.string (sv l)] w (Ret (.int .i64 (hs l)) w) := Dg.rshort_any rcomp l h w
theorem rexp_c (a e : Int) (he : I64 e) (w : World) (hw : Wd w) : Calls Tryd.prog 32 #[.int .i64 a, .int .i64 e] w (Ret (.int .i64 (xe a e)) w) := (rexp_any a e he w).mono fun _ _ h => ret_same h
theorem rmul_c (a b : Int) (w : World) (hw : Wd w) : Calls Tryd.prog 41 #[.int .i64 a, .int .i64 b] w (Ret (.int .i64 (mu a b)) w) := (rmul_any a b w).mono fun _ _ h => ret_same h
theorem rmulq_c (a b : Int) (w : World) (hw : Wd w) : Calls Tryd.prog 39 #[.int .i64 a, .int .i64 b] w (Ret (.int .i64 (rq (a * b))) w) := (rmulq_any a b w).mono fun _ _ h => ret_same h
theorem raddq_c (a b : Int) (w : World) (hw : Wd w) : Calls Tryd.prog 38 #[.int .i64 a, .int .i64 b] w (Ret (.int .i64 (rq (a + b))) w) := (raddq_any a b w).mono fun _ _ h => ret_same h
theorem rin_c (y : Int) (w : World) (hw : Wd w) : Calls Tryd.prog 53 #[.int .i64 y] w (Ret (.bool (inB y)) w) := (rin_any y w).mono fun _ _ h => ret_same h

set_option maxHeartbeats 2000000 in
set_option maxRecDepth 100000 in
theorem rchallenge_any (r y : Int) (c m : Bs) (r0 : 0 ≤ r) (r1 : r < 2305843009213691579) (h0 : 0 ≤ y) (h1 : y < 2305843009213691579) (hl : c.length + m.length ≤ 2000) (w : World) (hw : Wd w) :
    Calls Tryd.prog 21 #[.int .i64 r, .int .i64 y, .string (sv c), .string (sv m)] w (Ret (.int .i64 (chS r y c m)) w) := by
  have T1 := Lib.hid (rtext_c [115, 105, 103, 110] (by decide))
  have T2 := Lib.hid (rnum_c r r0 r1)
  have T3 := Lib.hid (rnum_c y h0 h1)
  have T4 := Lib.hid (rtext_c c (by omega))
  have T5 := Lib.hid (rtext_c m (by omega))
  have H := Lib.hid (rshort_c (chT r y c m) (by have := chT_le r y c m hl; omega))
  have HW := Lib.hid hw
  have a1 : sv (encT [115, 105, 103, 110]) ++ sv (encI r) = sv (encT [115, 105, 103, 110] ++ encI r) := Dg.sv_append _ _
  have a2 : sv (encT [115, 105, 103, 110] ++ encI r) ++ sv (encI y) = sv (encT [115, 105, 103, 110] ++ encI r ++ encI y) := Dg.sv_append _ _
  have a3 : sv (encT [115, 105, 103, 110] ++ encI r ++ encI y) ++ sv (encT c) = sv (encT [115, 105, 103, 110] ++ encI r ++ encI y ++ encT c) := Dg.sv_append _ _
  have a4 : sv (encT [115, 105, 103, 110] ++ encI r ++ encI y ++ encT c) ++ sv (encT m) = sv (chT r y c m) := Dg.sv_append _ _
  have l1 := encT_le [115, 105, 103, 110]
  have l2 := encI_le r
  have l3 := encI_le y
  have l4 := encT_le c
  have l5 := encT_le m
  have z1 : (sv (encT [115, 105, 103, 110])).size ≤ 5000 := by rw [Dg.sv_size]; simp only [List.length_cons, List.length_nil] at l1; omega
  have z2 : (sv (encI r)).size ≤ 9 := l2
  have z3 : (sv (encI y)).size ≤ 9 := l3
  have z4 : (sv (encT c)).size ≤ 5000 := by rw [Dg.sv_size]; omega
  have z5 : (sv (encT m)).size ≤ 5000 := by rw [Dg.sv_size]; omega
  have z6 : (sv (encT [115, 105, 103, 110] ++ encI r)).size ≤ 6000 := by rw [← a1, ByteArray.size_append]; omega
  have z7 : (sv (encT [115, 105, 103, 110] ++ encI r ++ encI y)).size ≤ 7000 := by rw [← a2, ByteArray.size_append]; omega
  have z8 : (sv (encT [115, 105, 103, 110] ++ encI r ++ encI y ++ encT c)).size ≤ 13000 := by rw [← a3, ByteArray.size_append]; omega
  have h2 := (hs_bd (chT r y c m)).1
  show Calls Tryd.prog 21 #[.int .i64 r, .int .i64 y, .string (sv c), .string (sv m)] w (Ret (.int .i64 (hs (chT r y c m) % 1152921504606845789)) w)
  generalize hs (chT r y c m) = h at *
  have m1 : Int.tmod h 1152921504606845789 = h % 1152921504606845789 := Int.tmod_eq_emod_of_nonneg h2
  obtain ⟨z, hz⟩ : ∃ z, h % 1152921504606845789 = z := ⟨_, rfl⟩
  rw [hz] at m1 ⊢
  clear hw hl h0 h1 r0 r1 h2 hz l1 l2 l3 l4 l5
  generalize sv (chT r y c m) = F4 at *
  generalize sv (encT [115, 105, 103, 110] ++ encI r ++ encI y ++ encT c) = F3 at *
  generalize sv (encT [115, 105, 103, 110] ++ encI r ++ encI y) = F2 at *
  generalize sv (encT [115, 105, 103, 110] ++ encI r) = F1 at *
  generalize sv (encT [115, 105, 103, 110]) = A at *
  generalize sv (encI r) = B at *
  generalize sv (encI y) = C at *
  generalize sv (encT c) = D at *
  generalize sv (encT m) = E at *
  go_enter Tryd.func21, Tryd.ntmps21
  go_wp2_with fail
  refine (T1.out _ HW.out).mono ?_
  rintro e w1 ⟨rfl, hb⟩
  have B1 := Lib.hid hb
  clear hb T1
  go_wp2_with fail
  refine (T2.out _ (HW.out.below B1.out)).mono ?_
  rintro e w2 ⟨rfl, hb⟩
  have B2 := Lib.hid (below_trans B1.out hb)
  clear hb B1 T2
  go_wp2_with fail
  refine (T3.out _ (HW.out.below B2.out)).mono ?_
  rintro e w3 ⟨rfl, hb⟩
  have B3 := Lib.hid (below_trans B2.out hb)
  clear hb B2 T3
  go_wp2_with fail
  refine (T4.out _ (HW.out.below B3.out)).mono ?_
  rintro e w4 ⟨rfl, hb⟩
  have B4 := Lib.hid (below_trans B3.out hb)
  clear hb B3 T4
  go_wp2_with fail
  refine (T5.out _ (HW.out.below B4.out)).mono ?_
  rintro e w5 ⟨rfl, hb⟩
  have B5 := Lib.hid (below_trans B4.out hb)
  clear hb B4 T5
  go_wp2_with fail
  refine (H.out _ (HW.out.below B5.out)).mono ?_
  rintro e w6 ⟨rfl, hb⟩
  have B6 := Lib.hid (below_trans B5.out hb)
  clear hb B5 H
  go_wp2_with fail
  go_ret
  exact ⟨rfl, B6.out⟩
set_option maxHeartbeats 4000000 in
set_option maxRecDepth 100000 in
theorem relement_any (y e s : Int) (he : 0 ≤ e ∧ e < 1152921504606845789) (hs : 0 ≤ s ∧ s < 1152921504606845789) (w : World) (hw : Wd w) : Calls Tryd.prog 20 #[.int .i64 y, kv e s] w (Ret (.int .i64 (elt y e s)) w) := by
  have C4 := Lib.hid (held (w := w) (g := w.heap.size) (a := .int .i64 e) (b := .int .i64 s) (fun W hW => rexp_c 4 s (by unfold I64; omega) W hW))
  have C5 := Lib.hid (held (w := w) (g := w.heap.size) (a := .int .i64 e) (b := .int .i64 s) (fun W hW => rexp_c y (1152921504606845789 - e) (by unfold I64; omega) W hW))
  have C6 := Lib.hid (held (w := w) (g := w.heap.size) (a := .int .i64 e) (b := .int .i64 s) (fun W hW => rmul_c (xe 4 s) (xe y (1152921504606845789 - e)) W hW))
  have e1 : mu (xe 4 s) (xe y (1152921504606845789 - e)) = elt y e s := rfl
  rw [e1] at C6
  obtain ⟨d, hd⟩ : ∃ d, 1152921504606845789 - e = d := ⟨_, rfl⟩
  have w1 : wrap64 (1152921504606845789 - e) = d := by rw [← hd]; unfold wrap64; omega
  have w2 : IntKind.i64.wrap (1152921504606845789 - e) = d := by rw [← hd, IntKind.wrap_i64]; omega
  rw [hd] at C5 C6
  obtain ⟨g, hg⟩ : ∃ g, w.heap.size = g := ⟨_, rfl⟩
  have HS := Lib.hid (s2_new (a := .int .i64 e) (b := .int .i64 s) (t := 25) hg hw)
  rw [hg] at C4 C5 C6
  unfold kv at *
  clear hw e1 hd he hs
  generalize elt y e s = r at *
  generalize xe 4 s = u at *
  generalize xe y d = v at *
  go_enter Tryd.func20, Tryd.ntmps20
  go_wp2_with fail
  obtain ⟨s1, s2, s3, s4, s5⟩ := HS.out
  generalize w.alloc (.cells #[.int .i64 e, .int .i64 s] 25) = W0 at *
  go_region_held3 (fun W => W.cell? ⟨g, 0, none⟩ = some (.int .i64 e) ∧ W.cell? ⟨g, 1, none⟩ = some (.int .i64 s) ∧ Below g w W ∧ g < W.heap.size ∧ Wd W)
    (((try dsimp only); (refine ⟨?_, ?_, ?_, ?_, ?_⟩ <;> (first | assumption | go_keep | exact ⟨s3.os, s3.tape, s3.output, s3.size, s3.block⟩))))
    ((first
      | (go_at_call 32; with_reducible refine (C4.out _ ?_).mono ?_; assumption; rintro e' w4 ⟨rfl, h1, h2, h3, h4, h5⟩)
      | (go_at_call 32; with_reducible refine (C5.out _ ?_).mono ?_; assumption; rintro e' w5 ⟨rfl, h1, h2, h3, h4, h5⟩)
      | (go_at_call 41; refine (C6.out _ ?_).mono ?_; assumption; rintro e' w6 ⟨rfl, h1, h2, h3, h4, h5⟩)))
  go_wp2_with fail
  subst hg
  go_ret
  exact ⟨rfl, h3⟩
set_option maxHeartbeats 2000000 in
set_option maxRecDepth 100000 in
theorem rof_pos {x : Int} (h : okx x = true) (w : World) (hw : Wd w) : Calls Tryd.prog 13 #[.int .i64 x] w (Ret (kv x (xe 4 x)) w) := by
  have h1 := h
  rw [okx_iff] at h1
  have b0 : decide (x < (1 : Int)) = false := decide_eq_false (by omega)
  have b1 : decide ((1152921504606845789 : Int) ≤ x) = false := decide_eq_false (by omega)
  have E := Lib.hid (rexp_c 4 x (i64_ok h))
  have HW := Lib.hid (hw.below (below_alloc w (.cells #[.int .i64 0, .int .i64 0] 23)))
  have K0 := Lib.hid (Dg.Blk.new w 23 #[.int .i64 0, .int .i64 0])
  obtain ⟨y, hy⟩ : ∃ y, xe 4 x = y := ⟨_, rfl⟩
  rw [hy] at E ⊢
  clear h1 h hy hw
  go_enter Tryd.func13, Tryd.ntmps13
  go_wp2_with fail
  refine (E.out _ HW.out).mono ?_
  rintro e w2 ⟨rfl, hb⟩
  have K2 := Lib.hid (K0.out.below hb K0.out.lt)
  have B2 := Lib.hid (below_trans (below_alloc _ _) hb)
  clear hb E K0
  have c0 := K2.out.cell 0
  have c1 := K2.out.cell 1
  have f0 := K2.out.frozen 0
  have f1 := K2.out.frozen 1
  go_wp2_with fail
  exact ret_key rfl rfl rfl (blk_two K2.out _ _) (below_two B2.out (Nat.le_refl _) _ _)
theorem rof_neg {x : Int} (h : okx x = false) (w : World) : Calls Tryd.prog 13 #[.int .i64 x] w (Ret (kv 0 0) w) := by
  have K0 := Lib.hid (Dg.Blk.new w 23 #[.int .i64 0, .int .i64 0])
  have c0 := K0.out.cell 0
  have c1 := K0.out.cell 1
  have f0 := K0.out.frozen 0
  have f1 := K0.out.frozen 1
  by_cases hz : x < 1
  · have b0 : decide (x < (1 : Int)) = true := decide_eq_true hz
    clear h hz
    go_enter Tryd.func13, Tryd.ntmps13
    go_wp2_with fail
    exact ret_key rfl rfl rfl K0.out (below_alloc _ _)
  · have b0 : decide (x < (1 : Int)) = false := decide_eq_false hz
    have b1 : decide ((1152921504606845789 : Int) ≤ x) = true := decide_eq_true (by
      have h1 : ¬ (1 ≤ x ∧ x < 1152921504606845789) := fun h2 => by rw [(okx_iff x).2 h2] at h; cases h
      omega)
    clear h hz
    go_enter Tryd.func13, Tryd.ntmps13
    go_wp2_with fail
    exact ret_key rfl rfl rfl K0.out (below_alloc _ _)
theorem rof_any (x : Int) (w : World) (hw : Wd w) : Calls Tryd.prog 13 #[.int .i64 x] w (Ret (kv (ofX x) (ofY x)) w) := by
  by_cases h : okx x = true
  · rw [ofX_pos h, ofY_pos h]; exact rof_pos h w hw
  · have h := Bool.eq_false_iff.2 h
    rw [ofX_neg h, ofY_neg h]; exact rof_neg h w
set_option maxHeartbeats 4000000 in
set_option maxRecDepth 100000 in
theorem rright_low {x y : Int} (h : x < 1) (w : World) : Calls Tryd.prog 15 #[kv x y] w (Ret (.bool false) w) := by
  unfold kv
  have K0 := Dg.Blk.new w 23 #[.int .i64 x, .int .i64 y]
  have c0 := K0.cell 0
  have c1 := K0.cell 1
  have b0 : decide ((1 : Int) ≤ x) = false := decide_eq_false (by omega)
  clear h
  go_enter Tryd.func15, Tryd.ntmps15
  go_wp2_with fail
  go_quiet (fail)
  go_wp2_with fail
  go_ret
  exact ⟨rfl, below_trans (below_alloc _ _) (below_drewN _ _)⟩
set_option maxHeartbeats 4000000 in
set_option maxRecDepth 100000 in
theorem rright_walk {x y x' y' : Int} (q1 q2 : Bool) (h1 : 1 ≤ x) (hq1 : (x == x') = q1) (hq2 : (y == y') = q2)
    (hC : ∀ W, Wd W → Calls Tryd.prog 13 #[.int .i64 x] W (Ret (kv x' y') W)) (w : World) (hw : Wd w) : Calls Tryd.prog 15 #[kv x y] w (Ret (.bool (q1 && q2)) w) := by
  have C := Lib.hid (held (w := w) (g := w.heap.size) (a := .int .i64 x) (b := .int .i64 y) hC)
  obtain ⟨g, hg⟩ : ∃ g, w.heap.size = g := ⟨_, rfl⟩
  have HS := Lib.hid (s2_new (a := .int .i64 x) (b := .int .i64 y) (t := 23) hg hw)
  have b0 : decide ((1 : Int) ≤ x) = true := decide_eq_true h1
  rw [hg] at C
  unfold kv at *
  clear hC h1
  cases q1 <;> cases q2 <;>
    (go_enter Tryd.func15, Tryd.ntmps15
     go_wp2_with fail
     obtain ⟨s1, s2, s3, s4, s5⟩ := HS.out
     generalize w.alloc (.cells #[.int .i64 x, .int .i64 y] 23) = W0 at *
     go_region_held3 (fun W => W.cell? ⟨g, 0, none⟩ = some (.int .i64 x) ∧ W.cell? ⟨g, 1, none⟩ = some (.int .i64 y) ∧ Below g w W ∧ g < W.heap.size ∧ Wd W)
       (((try dsimp only); (refine ⟨?_, ?_, ?_, ?_, ?_⟩ <;> (first | assumption | go_keep | exact ⟨s3.os, s3.tape, s3.output, s3.size, s3.block⟩))))
       ((first
         | (go_at_call 13; refine (C.out _ ?_).mono ?_; assumption; rintro e w4 ⟨rfl, h1, h2, h3, h4, h5⟩)))
     go_wp2_with fail
     go_ret
     exact ⟨rfl, by rw [hg]; exact h3⟩)
theorem rright_any (x y : Int) (w : World) (hw : Wd w) : Calls Tryd.prog 15 #[kv x y] w (Ret (.bool (rightB x y)) w) := by
  by_cases h : x < 1
  · have e : rightB x y = false := by unfold rightB; rw [okx_out (.inl h)]; rfl
    rw [e]; exact rright_low h w
  · rw [← right_eq (show ¬ (x = 0 ∧ y = 0) by omega)]
    exact rright_walk _ _ (by omega) rfl rfl (fun W hW => rof_any x W hW) w hw
end Go.Proofs.YtfmjankmfddefaaDoor.Sg

namespace Go.Proofs.YtfmjankmfddefaaDoor.Sg
set_option linter.unusedVariables false
open Go.RowKit Gp Gp.Grp Wr.Wm
open Dg (sv)

set_option maxHeartbeats 2000000 in
set_option maxRecDepth 100000 in
theorem rkey_any (s : Bs) (hs : s.length ≤ 2000) (w : World) (hw : Wd w) : Calls Tryd.prog 11 #[.string (sv s)] w (Ret (kv (keyS s) (xe 4 (keyS s))) w) := by
  have T1 := Lib.hid (rtext_c [107, 101, 121] (by decide))
  have T2 := Lib.hid (rtext_c s hs)
  have H := Lib.hid (rshort_c (keyT s) (by have := keyT_le s hs; omega))
  have O := Lib.hid (rof_pos (okx_key s))
  have K0 := Lib.hid (Dg.Blk.new w 23 #[.int .i64 0, .int .i64 0])
  have HW0 := Lib.hid hw
  have HW := Lib.hid (hw.below (below_alloc w (.cells #[.int .i64 0, .int .i64 0] 23)))
  have B0 := Lib.hid (below_alloc w (.cells #[.int .i64 0, .int .i64 0] 23))
  have a1 : sv (encT [107, 101, 121]) ++ sv (encT s) = sv (keyT s) := Dg.sv_append _ _
  have l1 := encT_le [107, 101, 121]
  have l2 := encT_le s
  have z1 : (sv (encT [107, 101, 121])).size ≤ 5000 := by rw [Dg.sv_size]; simp only [List.length_cons, List.length_nil] at l1; omega
  have z2 : (sv (encT s)).size ≤ 5000 := by rw [Dg.sv_size]; omega
  have h2 := (hs_bd (keyT s)).1
  have hk := keyS_bd s
  have e : 1 + Sg.hs (keyT s) % 1152921504606845788 = keyS s := rfl
  generalize xe 4 (keyS s) = y at *
  generalize keyS s = N at *
  generalize Sg.hs (keyT s) = h at *
  have m1 : Int.tmod h 1152921504606845788 = h % 1152921504606845788 := Int.tmod_eq_emod_of_nonneg h2
  obtain ⟨z, hz⟩ : ∃ z, h % 1152921504606845788 = z := ⟨_, rfl⟩
  rw [hz] at m1 e
  have m2 : wrap64 (1 + z) = N := by rw [e]; unfold wrap64; omega
  generalize sv (keyT s) = F at *
  generalize sv (encT [107, 101, 121]) = A at *
  generalize sv (encT s) = B at *
  clear hw hs e h2 hz l1 l2 hk
  go_enter Tryd.func11, Tryd.ntmps11
  go_wp2_with fail
  refine (T1.out _ HW.out).mono ?_
  rintro e w1 ⟨rfl, hb⟩
  have K1 := Lib.hid (K0.out.below hb K0.out.lt)
  have B1 := Lib.hid (below_trans B0.out hb)
  clear hb K0 B0 T1
  go_wp2_with fail
  refine (T2.out _ (HW0.out.below B1.out)).mono ?_
  rintro e w2 ⟨rfl, hb⟩
  have K2 := Lib.hid (K1.out.below hb K1.out.lt)
  have B2 := Lib.hid (below_trans B1.out hb)
  clear hb K1 B1 T2
  go_wp2_with fail
  refine (H.out _ (HW0.out.below B2.out)).mono ?_
  rintro e w3 ⟨rfl, hb⟩
  have K3 := Lib.hid (K2.out.below hb K2.out.lt)
  have B3 := Lib.hid (below_trans B2.out hb)
  clear hb K2 B2 H
  go_wp2_with fail
  refine (O.out _ (HW0.out.below B3.out)).mono ?_
  rintro e w5 ⟨rfl, hb⟩
  have K5 := Lib.hid (K3.out.below hb K3.out.lt)
  have B5 := Lib.hid (below_trans B3.out hb)
  clear hb K3 B3 O
  have c0 := K5.out.cell 0
  have c1 := K5.out.cell 1
  have f0 := K5.out.frozen 0
  have f1 := K5.out.frozen 1
  unfold kv
  go_wp2_with fail
  exact ret_key rfl rfl rfl (blk_two K5.out _ _) (below_two B5.out (Nat.le_refl _) _ _)
set_option maxHeartbeats 4000000 in
set_option maxRecDepth 100000 in
theorem rsign_no {x y : Int} (h : rightB x y = false) (c m : Bs) (w : World) (hw : Wd w) : Calls Tryd.prog 17 #[kv x y, .string (sv c), .string (sv m)] w (Ret (kv 0 0) w) := by
  have C1 := Lib.hid (held3 (w := w) (g := w.heap.size) (a := .int .i64 x) (b := .int .i64 y) (t := 25) (cs := #[.int .i64 0, .int .i64 0]) (fun W hW => rright_any x y W hW))
  rw [h] at C1
  obtain ⟨g, hg⟩ : ∃ g, w.heap.size = g := ⟨_, rfl⟩
  have HS := Lib.hid (s3_new (a := .int .i64 x) (b := .int .i64 y) (u := 23) (c := .int .i64 0) (d := .int .i64 0) (t := 25) hg hw)
  rw [hg] at C1
  unfold kv at *
  clear h hw
  go_enter Tryd.func17, Tryd.ntmps17
  go_wp2_with fail
  refine (C1.out _ HS.out).mono ?_
  rintro e w1 ⟨rfl, s1, s2, s3, s4, s5, s6⟩
  have c0 := s6.cell 0
  have c1 := s6.cell 1
  have f0 := s6.frozen 0
  have f1 := s6.frozen 1
  have HB := Lib.hid s3
  have HK := Lib.hid s6
  clear s1 s2 s3 s4 s5 s6 C1
  go_wp2_with fail
  subst hg
  exact ret_sig rfl rfl rfl (blk_two HK.out _ _) (below_two HB.out (by omega) _ _)
theorem rtext_n (w : World) (hw : Wd w) : Calls Tryd.prog 30 #[.string ⟨#[110, 111, 110, 99, 101]⟩] w (Ret (.string (sv (encT [110, 111, 110, 99, 101]))) w) := rtext_c [110, 111, 110, 99, 101] (by decide) w hw
set_option maxHeartbeats 8000000 in
set_option maxRecDepth 100000 in
theorem rsign_yes {x : Int} (h : okx x = true) (c m : Bs) (hl : c.length + m.length ≤ 2000) (w : World) (hw : Wd w) : Calls Tryd.prog 17 #[kv x (xe 4 x), .string (sv c), .string (sv m)] w (Ret (kv (sgE x c m) (sgS x c m)) w) := by
  have hx := h
  rw [okx_iff] at hx
  have hy := xe_bd 4 x
  have hr := xe_bd 4 (nonS x c m)
  have hn := nonS_bd x c m
  have C1 := Lib.hid (held3 (w := w) (g := w.heap.size) (a := .int .i64 x) (b := .int .i64 (xe 4 x)) (t := 25) (cs := #[.int .i64 0, .int .i64 0]) (fun W hW => rright_any x (xe 4 x) W hW))
  rw [right_of h] at C1
  have D1 := Lib.hid (held3 (w := w) (g := w.heap.size) (a := .int .i64 x) (b := .int .i64 (xe 4 x)) (t := 25) (cs := #[.int .i64 0, .int .i64 0]) (fun W hW => rtext_n W hW))
  have D2 := Lib.hid (held3 (w := w) (g := w.heap.size) (a := .int .i64 x) (b := .int .i64 (xe 4 x)) (t := 25) (cs := #[.int .i64 0, .int .i64 0]) (fun W hW => rnum_c x (by omega) (by omega) W hW))
  have D3 := Lib.hid (held3 (w := w) (g := w.heap.size) (a := .int .i64 x) (b := .int .i64 (xe 4 x)) (t := 25) (cs := #[.int .i64 0, .int .i64 0]) (fun W hW => rtext_c c (by omega) W hW))
  have D4 := Lib.hid (held3 (w := w) (g := w.heap.size) (a := .int .i64 x) (b := .int .i64 (xe 4 x)) (t := 25) (cs := #[.int .i64 0, .int .i64 0]) (fun W hW => rtext_c m (by omega) W hW))
  have D5 := Lib.hid (held3 (w := w) (g := w.heap.size) (a := .int .i64 x) (b := .int .i64 (xe 4 x)) (t := 25) (cs := #[.int .i64 0, .int .i64 0]) (fun W hW => rshort_c (nonT x c m) (by have := nonT_le x c m hl; omega) W hW))
  have C3 := Lib.hid (held3 (w := w) (g := w.heap.size) (a := .int .i64 x) (b := .int .i64 (xe 4 x)) (t := 25) (cs := #[.int .i64 0, .int .i64 0]) (fun W hW => rexp_c 4 (nonS x c m) (by unfold I64; omega) W hW))
  have C4 := Lib.hid (held3 (w := w) (g := w.heap.size) (a := .int .i64 x) (b := .int .i64 (xe 4 x)) (t := 25) (cs := #[.int .i64 0, .int .i64 0]) (fun W hW => rchallenge_any (xe 4 (nonS x c m)) (xe 4 x) c m hr.1 hr.2 hy.1 hy.2 hl W hW))
  have e1 : chS (xe 4 (nonS x c m)) (xe 4 x) c m = sgE x c m := rfl
  rw [e1] at C4
  have C5 := Lib.hid (held3 (w := w) (g := w.heap.size) (a := .int .i64 x) (b := .int .i64 (xe 4 x)) (t := 25) (cs := #[.int .i64 0, .int .i64 0]) (fun W hW => rmulq_c (sgE x c m) x W hW))
  have C6 := Lib.hid (held3 (w := w) (g := w.heap.size) (a := .int .i64 x) (b := .int .i64 (xe 4 x)) (t := 25) (cs := #[.int .i64 0, .int .i64 0]) (fun W hW => raddq_c (nonS x c m) (rq (sgE x c m * x)) W hW))
  have e2 : rq (nonS x c m + rq (sgE x c m * x)) = sgS x c m := rfl
  rw [e2] at C6
  have a1 : sv (encT [110, 111, 110, 99, 101]) ++ sv (encI x) = sv (encT [110, 111, 110, 99, 101] ++ encI x) := Dg.sv_append _ _
  have a2 : sv (encT [110, 111, 110, 99, 101] ++ encI x) ++ sv (encT c) = sv (encT [110, 111, 110, 99, 101] ++ encI x ++ encT c) := Dg.sv_append _ _
  have a3 : sv (encT [110, 111, 110, 99, 101] ++ encI x ++ encT c) ++ sv (encT m) = sv (nonT x c m) := Dg.sv_append _ _
  have l1 := encT_le [110, 111, 110, 99, 101]
  have l2 := encI_le x
  have l4 := encT_le c
  have l5 := encT_le m
  have z1 : (sv (encT [110, 111, 110, 99, 101])).size ≤ 5000 := by rw [Dg.sv_size]; simp only [List.length_cons, List.length_nil] at l1; omega
  have z2 : (sv (encI x)).size ≤ 9 := l2
  have z4 : (sv (encT c)).size ≤ 5000 := by rw [Dg.sv_size]; omega
  have z5 : (sv (encT m)).size ≤ 5000 := by rw [Dg.sv_size]; omega
  have z6 : (sv (encT [110, 111, 110, 99, 101] ++ encI x)).size ≤ 6000 := by rw [← a1, ByteArray.size_append]; omega
  have z7 : (sv (encT [110, 111, 110, 99, 101] ++ encI x ++ encT c)).size ≤ 11000 := by rw [← a2, ByteArray.size_append]; omega
  have h2 := (hs_bd (nonT x c m)).1
  have e3 : 1 + Sg.hs (nonT x c m) % 1152921504606845788 = nonS x c m := rfl
  obtain ⟨g, hg⟩ : ∃ g, w.heap.size = g := ⟨_, rfl⟩
  have HS := Lib.hid (s3_new (a := .int .i64 x) (b := .int .i64 (xe 4 x)) (u := 23) (c := .int .i64 0) (d := .int .i64 0) (t := 25) hg hw)
  rw [hg] at C1 C3 C4 C5 C6 D1 D2 D3 D4 D5
  unfold kv at *
  generalize xe 4 (nonS x c m) = r at *
  generalize xe 4 x = y at *
  generalize rq (sgE x c m * x) = p at *
  generalize sgE x c m = E at *
  generalize sgS x c m = S at *
  generalize nonS x c m = n at *
  generalize Sg.hs (nonT x c m) = h' at *
  have m1 : Int.tmod h' 1152921504606845788 = h' % 1152921504606845788 := Int.tmod_eq_emod_of_nonneg h2
  obtain ⟨z, hz⟩ : ∃ z, h' % 1152921504606845788 = z := ⟨_, rfl⟩
  rw [hz] at m1 e3
  have m2 : IntKind.i64.wrap (1 + z) = n := by rw [e3, IntKind.wrap_i64]; omega
  have hb0 : ((1152921504606845788 : Int) == 0) = false := by decide
  generalize sv (nonT x c m) = F3 at *
  generalize sv (encT [110, 111, 110, 99, 101] ++ encI x ++ encT c) = F2 at *
  generalize sv (encT [110, 111, 110, 99, 101] ++ encI x) = F1 at *
  generalize sv (encT [110, 111, 110, 99, 101]) = A1 at *
  generalize sv (encI x) = A2 at *
  generalize sv (encT c) = A3 at *
  generalize sv (encT m) = A4 at *
  have q1 : ¬ (9223372036854775807 < A1.size + A2.size) := by omega
  have q2 : ¬ (9223372036854775807 < F1.size + A3.size) := by omega
  have q3 : ¬ (9223372036854775807 < F2.size + A4.size) := by omega
  clear h hw hx hy hr hn e1 e2 e3 hl l1 l2 l4 l5 h2 hz z1 z2 z4 z5 z6 z7
  go_enter Tryd.func17, Tryd.ntmps17
  go_wp2_with fail
  refine (C1.out _ HS.out).mono ?_
  rintro e w1 ⟨rfl, h1⟩
  obtain ⟨s1, s2, s3, s4, s5, s6⟩ := h1
  clear C1 HS
  go_wp2_with fail
  go_region_held3 (fun W => W.cell? ⟨g, 0, none⟩ = some (.int .i64 x) ∧ W.cell? ⟨g, 1, none⟩ = some (.int .i64 y) ∧ Below g w W ∧ g + 1 < W.heap.size ∧ Wd W ∧ Dg.Blk W (g + 1) 25 #[.int .i64 0, .int .i64 0])
    (((try dsimp only); (refine ⟨?_, ?_, ?_, ?_, ?_, ?_⟩ <;> (first | assumption | go_keep | exact ⟨s3.os, s3.tape, s3.output, s3.size, s3.block⟩))))
    ((first
      | (go_at_call 30; with_reducible refine (D1.out _ ?_).mono ?_; assumption; rintro e w2 ⟨rfl, h1, h2, h3, h4, h5, h6⟩)
      | (go_at_call 37; with_reducible refine (D2.out _ ?_).mono ?_; assumption; rintro e w3 ⟨rfl, h1, h2, h3, h4, h5, h6⟩)
      | (go_at_call 30; with_reducible refine (D3.out _ ?_).mono ?_; assumption; rintro e w4 ⟨rfl, h1, h2, h3, h4, h5, h6⟩)
      | (go_at_call 30; with_reducible refine (D4.out _ ?_).mono ?_; assumption; rintro e w5 ⟨rfl, h1, h2, h3, h4, h5, h6⟩)
      | (go_at_call 29; with_reducible refine (D5.out _ ?_).mono ?_; assumption; rintro e w6 ⟨rfl, h1, h2, h3, h4, h5, h6⟩)))
  clear s1 s2 s3 s4 s5 s6 D1 D2 D3 D4 D5
  go_wp2_with fail
  --GG
  go_region_held3 (fun W => W.cell? ⟨g, 0, none⟩ = some (.int .i64 x) ∧ W.cell? ⟨g, 1, none⟩ = some (.int .i64 y) ∧ Below g w W ∧ g + 1 < W.heap.size ∧ Wd W ∧ Dg.Blk W (g + 1) 25 #[.int .i64 0, .int .i64 0])
    (((try dsimp only); (refine ⟨?_, ?_, ?_, ?_, ?_, ?_⟩ <;> (first | assumption | go_keep | exact ⟨h3.os, h3.tape, h3.output, h3.size, h3.block⟩))))
    ((first
      | (go_at_call 32; refine (C3.out _ ?_).mono ?_; assumption; rintro e w7 ⟨rfl, k1, k2, k3, k4, k5, k6⟩)
      | (go_at_call 21; refine (C4.out _ ?_).mono ?_; assumption; rintro e w8 ⟨rfl, k1, k2, k3, k4, k5, k6⟩)))
  go_wp2_with fail
  refine (C5.out _ ⟨k1, k2, k3, k4, k5, k6⟩).mono ?_
  rintro e w9 ⟨rfl, hh⟩
  have H6 := Lib.hid hh
  clear h1 h2 h3 h4 h5 h6 k1 k2 k3 k4 k5 k6 hh
  go_wp2_with fail
  refine (C6.out _ H6.out).mono ?_
  rintro e w10 ⟨rfl, hh⟩
  have H7 := Lib.hid hh.2.2
  clear H6 hh C3 C4 C5 C6
  have K7 := Lib.hid H7.out.2.2.2
  have c0 := K7.out.cell 0
  have c1 := K7.out.cell 1
  have f0 := K7.out.frozen 0
  have f1 := K7.out.frozen 1
  go_wp2_with fail
  subst hg
  exact ret_sig rfl rfl rfl (blk_two K7.out _ _) (below_two H7.out.1 (by omega) _ _)
theorem rsign_any (x y : Int) (c m : Bs) (hl : c.length + m.length ≤ 2000) (w : World) (hw : Wd w) : Calls Tryd.prog 17 #[kv x y, .string (sv c), .string (sv m)] w (Ret (kv (siE x y c m) (siS x y c m)) w) := by
  by_cases h : rightB x y = true
  · unfold siE siS
    rw [if_pos h, if_pos h]
    unfold rightB at h
    rw [Bool.and_eq_true, beq_iff_eq] at h
    obtain ⟨h1, rfl⟩ := h
    exact rsign_yes h1 c m hl w hw
  · unfold siE siS
    rw [if_neg h, if_neg h]
    exact rsign_no (Bool.eq_false_iff.2 h) c m w hw

/-- the reference's ranges, in the order in which it asks -/
def rngR (y e s : Int) : Bool := inB y && ((y != 1) && (decide (0 ≤ e) && (decide (e < 1152921504606845789) && (decide (0 ≤ s) && decide (s < 1152921504606845789)))))
theorem rng_eq (y e s : Int) : rngR y e s = rng y e s := by
  unfold rngR rng inR bne
  cases inB y <;> cases (y == 1) <;> cases decide (0 ≤ e) <;> cases decide (e < 1152921504606845789) <;> cases decide (0 ≤ s) <;> cases decide (s < 1152921504606845789) <;> rfl
set_option maxHeartbeats 4000000 in
set_option maxRecDepth 100000 in
theorem rranges_walk {y e s : Int} (b0 b1 b2 b3 b4 b5 : Bool) (h0 : inB y = b0) (h1 : (y != 1) = b1) (h2 : decide ((0 : Int) ≤ e) = b2) (h3 : decide (e < (1152921504606845789 : Int)) = b3) (h4 : decide ((0 : Int) ≤ s) = b4) (h5 : decide (s < (1152921504606845789 : Int)) = b5) (w : World) (hw : Wd w) :
    Calls Tryd.prog 40 #[.int .i64 y, kv e s] w (Ret (.bool (b0 && (b1 && (b2 && (b3 && (b4 && b5)))))) w) := by
  have C := Lib.hid (held (w := w) (g := w.heap.size) (a := .int .i64 e) (b := .int .i64 s) (fun W hW => rin_c y W hW))
  obtain ⟨g, hg⟩ : ∃ g, w.heap.size = g := ⟨_, rfl⟩
  have HS := Lib.hid (s2_new (a := .int .i64 e) (b := .int .i64 s) (t := 25) hg hw)
  rw [hg, h0] at C
  unfold kv at *
  clear hw h0
  cases b0
  case false =>
    go_enter Tryd.func40, Tryd.ntmps40
    go_wp2_with fail
    refine (C.out _ HS.out).mono ?_
    rintro e' w1 ⟨rfl, hh⟩
    have H1 := Lib.hid hh
    clear hh
    go_wp2_with fail
    subst hg
    go_ret
    exact ⟨rfl, H1.out.2.2.1⟩
  cases b1 <;> cases b2 <;> cases b3 <;> cases b4 <;> cases b5 <;>
    (go_enter Tryd.func40, Tryd.ntmps40
     go_wp2_with fail
     refine (C.out _ HS.out).mono ?_
     rintro e' w1 ⟨rfl, hh⟩
     have H1 := Lib.hid hh
     obtain ⟨c0, c1, _⟩ := hh
     go_wp2_with fail
     subst hg
     go_ret
     exact ⟨rfl, H1.out.2.2.1⟩)
theorem rranges_any (y e s : Int) (w : World) (hw : Wd w) : Calls Tryd.prog 40 #[.int .i64 y, kv e s] w (Ret (.bool (rng y e s)) w) := by
  rw [← rng_eq]
  exact rranges_walk _ _ _ _ _ _ rfl rfl rfl rfl rfl rfl w hw
set_option maxHeartbeats 4000000 in
set_option maxRecDepth 100000 in
theorem rverify_out {y e s : Int} (h : rng y e s = false) (c m : Bs) (w : World) (hw : Wd w) : Calls Tryd.prog 19 #[.int .i64 y, .string (sv c), .string (sv m), kv e s] w (Ret (.bool false) w) := by
  have C := Lib.hid (held (w := w) (g := w.heap.size) (a := .int .i64 e) (b := .int .i64 s) (fun W hW => rranges_any y e s W hW))
  obtain ⟨g, hg⟩ : ∃ g, w.heap.size = g := ⟨_, rfl⟩
  have HS := Lib.hid (s2_new (a := .int .i64 e) (b := .int .i64 s) (t := 25) hg hw)
  rw [hg, h] at C
  unfold kv at *
  clear hw h
  go_enter Tryd.func19, Tryd.ntmps19
  go_wp2_with fail
  refine (C.out _ HS.out).mono ?_
  rintro e' w1 ⟨rfl, hh⟩
  have H1 := Lib.hid hh
  obtain ⟨c0, c1, _⟩ := hh
  go_wp2_with fail
  go_quiet (fail)
  go_wp2_with fail
  subst hg
  go_ret
  exact ⟨rfl, below_trans H1.out.2.2.1 (below_drewN _ _)⟩
set_option maxHeartbeats 4000000 in
set_option maxRecDepth 100000 in
theorem rverify_in {y e s : Int} (h : rng y e s = true) (c m : Bs) (hl : c.length + m.length ≤ 2000) (w : World) (hw : Wd w) : Calls Tryd.prog 19 #[.int .i64 y, .string (sv c), .string (sv m), kv e s] w (Ret (.bool (chS (elt y e s) y c m == e)) w) := by
  have C1 := Lib.hid (held (w := w) (g := w.heap.size) (a := .int .i64 e) (b := .int .i64 s) (fun W hW => rranges_any y e s W hW))
  rw [h] at C1
  unfold rng at h
  simp only [Bool.and_eq_true, Bool.not_eq_true'] at h
  obtain ⟨b0, b1, b2, b3⟩ := h
  have hi := of_inB b1
  rw [inR_iff] at b2 b3
  have C2 := Lib.hid (held (w := w) (g := w.heap.size) (a := .int .i64 e) (b := .int .i64 s) (fun W hW => relement_any y e s b2 b3 W hW))
  have hel : 0 ≤ elt y e s ∧ elt y e s < 2305843009213691579 := mu_bd _ _
  have C3 := Lib.hid (held (w := w) (g := w.heap.size) (a := .int .i64 e) (b := .int .i64 s) (fun W hW => rchallenge_any (elt y e s) y c m hel.1 hel.2 (by omega) hi.2.1 hl W hW))
  obtain ⟨g, hg⟩ : ∃ g, w.heap.size = g := ⟨_, rfl⟩
  have HS := Lib.hid (s2_new (a := .int .i64 e) (b := .int .i64 s) (t := 25) hg hw)
  rw [hg] at C1 C2 C3
  unfold kv at *
  clear hw b0 b1 b2 b3 hi hel hl
  generalize chS (elt y e s) y c m = E at *
  generalize elt y e s = r at *
  obtain ⟨b, hb⟩ : ∃ b, (E == e) = b := ⟨_, rfl⟩
  go_enter Tryd.func19, Tryd.ntmps19
  go_wp2_with fail
  refine (C1.out _ HS.out).mono ?_
  rintro e' w1 ⟨rfl, s1, s2, s3, s4, s5⟩
  clear C1 HS
  go_wp2_with fail
  go_region_held3 (fun W => W.cell? ⟨g, 0, none⟩ = some (.int .i64 e) ∧ W.cell? ⟨g, 1, none⟩ = some (.int .i64 s) ∧ Below g w W ∧ g < W.heap.size ∧ Wd W)
    (((try dsimp only); (refine ⟨?_, ?_, ?_, ?_, ?_⟩ <;> (first | assumption | go_keep | exact ⟨s3.os, s3.tape, s3.output, s3.size, s3.block⟩))))
    ((first
      | (go_at_call 20; refine (C2.out _ ?_).mono ?_; assumption; rintro e' w4 ⟨rfl, h1, h2, h3, h4, h5⟩)
      | (go_at_call 21; refine (C3.out _ ?_).mono ?_; assumption; rintro e' w5 ⟨rfl, h1, h2, h3, h4, h5⟩)))
  go_wp2_with fail
  subst hg
  go_ret
  rw [hb]
  exact ⟨rfl, h3⟩
theorem rverify_any (y e s : Int) (c m : Bs) (hl : c.length + m.length ≤ 2000) (w : World) (hw : Wd w) : Calls Tryd.prog 19 #[.int .i64 y, .string (sv c), .string (sv m), kv e s] w (Ret (.bool (verB y c m e s)) w) := by
  unfold verB
  by_cases h : rng y e s = true
  · rw [h, Bool.true_and]; exact rverify_in h c m hl w hw
  · have h := Bool.eq_false_iff.2 h
    rw [h, Bool.false_and]; exact rverify_out h c m w hw
end Go.Proofs.YtfmjankmfddefaaDoor.Sg
