/- sign.Of, Key and Right: what they return is that of the plain mathematics. Conditions: the texts have at most 2000 bytes; the listed variables hold what they are laid with, and the library's own variable holds some int. -/
import Derived.Test.YtfmjankmfddefaaDoorSHash
namespace Go.Proofs.YtfmjankmfddefaaDoor.Sg
set_option linter.unusedVariables false
open Go.RowKit Gp Gp.Grp Wr.Wm
open Dg (sv)

def kv (x y : Int) : Value := .agg #[.int .i64 x, .int .i64 y]
theorem exp_c (a e : Int) (he : I64 e) (w : World) : Calls Tryd.prog 24 #[.int .i64 a, .int .i64 e] w (Ret (.int .i64 (xe a e)) w) := (exp_any a e he w).mono fun _ _ h => ret_drew h
theorem i64_ok {x : Int} (h : okx x = true) : I64 x := by rw [okx_iff] at h; unfold I64; omega
theorem infoK : (Tryd.prog.info? 23).map (·.size) = some 2 := by kernel_rfl
theorem infoS : (Tryd.prog.info? 25).map (·.size) = some 2 := by kernel_rfl
theorem ret_key {fn : Func} {p : Tmp} (hf : fn.results = #[.cell p 23]) {a : Act} {w W : World} {g : Nat} {x y : Int} (hp : a.tmps.getD p undef = .pointer (some ⟨g, 0, none⟩)) (hd : a.defers = [])
    (hg : Dg.Blk W g 23 #[.int .i64 x, .int .i64 y]) (hb : Below w.heap.size w W) : bodyPost Tryd.prog fn (Ret (kv x y) w) .ret a W :=
  bodyPost_ret (results_cell_row hf _ _ g _ _ (0, 0) _ hp hg Tryd.underlying23 rfl infoK) hd ⟨rfl, hb⟩
theorem ret_sig {fn : Func} {p : Tmp} (hf : fn.results = #[.cell p 25]) {a : Act} {w W : World} {g : Nat} {x y : Int} (hp : a.tmps.getD p undef = .pointer (some ⟨g, 0, none⟩)) (hd : a.defers = [])
    (hg : Dg.Blk W g 25 #[.int .i64 x, .int .i64 y]) (hb : Below w.heap.size w W) : bodyPost Tryd.prog fn (Ret (kv x y) w) .ret a W :=
  bodyPost_ret (results_cell_row hf _ _ g _ _ (0, 0) _ hp hg Tryd.underlying25 rfl infoS) hd ⟨rfl, hb⟩
/-- A block of two numbers, after both have been written. -/
theorem blk_two {W : World} {g : Nat} {t : TypeId} {a b : Value} (h : Dg.Blk W g t #[a, b]) (x y : Value) : Dg.Blk ((W.setCell ⟨g, 0, none⟩ x).setCell ⟨g, 1, none⟩ y) g t #[x, y] := (h.set_ 0 x).set_ 1 y
theorem below_two {w W : World} {g : Nat} (hb : Below w.heap.size w W) (hg : w.heap.size ≤ g) (x y : Value) : Below w.heap.size w ((W.setCell ⟨g, 0, none⟩ x).setCell ⟨g, 1, none⟩ y) :=
  (hb.setCell (p := ⟨g, 0, none⟩) hg x).setCell (p := ⟨g, 1, none⟩) hg y
set_option maxHeartbeats 2000000 in
set_option maxRecDepth 100000 in
theorem of_pos {x : Int} (h : okx x = true) (w : World) : Calls Tryd.prog 12 #[.int .i64 x] w (Ret (kv x (xe 4 x)) w) := by
  have h1 := h
  rw [okx_iff] at h1
  have b0 : (x == 0) = false := beq_eq_false_iff_ne.2 (by omega)
  have R := Lib.hid (residue_t (n := x) ((inR_iff x).2 (by omega)))
  have E := Lib.hid (exp_c 4 x (i64_ok h))
  obtain ⟨y, hy⟩ : ∃ y, xe 4 x = y := ⟨_, rfl⟩
  rw [hy] at E ⊢
  clear h1 h hy
  go_enter Tryd.func12, Tryd.ntmps12
  go_wp2_with fail
  refine (R.out _).mono ?_
  rintro e w1 ⟨rfl, hb⟩
  have K1 := Lib.hid ((Dg.Blk.new w 23 #[.int .i64 0, .int .i64 0]).below hb (by simp))
  have B1 := Lib.hid (below_trans (below_alloc _ _) hb)
  clear hb R
  go_wp2_with fail
  refine (E.out _).mono ?_
  rintro e w2 ⟨rfl, hb⟩
  have K2 := Lib.hid (K1.out.below hb K1.out.lt)
  have B2 := Lib.hid (below_trans B1.out hb)
  clear hb E B1 K1
  have c0 := K2.out.cell 0
  have c1 := K2.out.cell 1
  have f0 := K2.out.frozen 0
  have f1 := K2.out.frozen 1
  go_wp2_with fail
  exact ret_key rfl rfl rfl (blk_two K2.out _ _) (below_two B2.out (Nat.le_refl _) _ _)
set_option maxHeartbeats 2000000 in
set_option maxRecDepth 100000 in
theorem of_neg {x : Int} (h : okx x = false) (w : World) : Calls Tryd.prog 12 #[.int .i64 x] w (Ret (kv 0 0) w) := by
  have K0 := Lib.hid (Dg.Blk.new w 23 #[.int .i64 0, .int .i64 0])
  by_cases hz : x = 0
  · have b0 : (x == 0) = true := beq_iff_eq.2 hz
    have c0 := K0.out.cell 0
    have c1 := K0.out.cell 1
    have f0 := K0.out.frozen 0
    have f1 := K0.out.frozen 1
    clear h hz
    go_enter Tryd.func12, Tryd.ntmps12
    go_wp2_with fail
    exact ret_key rfl rfl rfl K0.out (below_alloc _ _)
  · have b0 : (x == 0) = false := beq_eq_false_iff_ne.2 hz
    have R := Lib.hid (residue_f (n := x) (by
      have h1 : ¬ (1 ≤ x ∧ x < 1152921504606845789) := fun h2 => by rw [(okx_iff x).2 h2] at h; cases h
      exact inR_out (by omega)))
    clear h hz
    go_enter Tryd.func12, Tryd.ntmps12
    go_wp2_with fail
    refine (R.out _).mono ?_
    rintro e w1 ⟨rfl, hb⟩
    have K1 := Lib.hid (K0.out.below hb K0.out.lt)
    have B1 := Lib.hid (below_trans (below_alloc _ _) hb)
    clear hb R
    have c0 := K1.out.cell 0
    have c1 := K1.out.cell 1
    have f0 := K1.out.frozen 0
    have f1 := K1.out.frozen 1
    go_wp2_with fail
    exact ret_key rfl rfl rfl (blk_two K1.out _ _) (below_two B1.out (Nat.le_refl _) _ _)
theorem of_any (x : Int) (w : World) : Calls Tryd.prog 12 #[.int .i64 x] w (Ret (kv (ofX x) (ofY x)) w) := by
  by_cases h : okx x = true
  · rw [ofX_pos h, ofY_pos h]; exact of_pos h w
  · have h := Bool.eq_false_iff.2 h
    rw [ofX_neg h, ofY_neg h]; exact of_neg h w
set_option maxHeartbeats 2000000 in
set_option maxRecDepth 100000 in
theorem key_any (s : Bs) (hs : s.length ≤ 2000) (w : World) (hw : Wd w) : Calls Tryd.prog 10 #[.string (sv s)] w (Ret (kv (keyS s) (xe 4 (keyS s))) w) := by
  have T1 := Lib.hid (text_c [107, 101, 121] (by decide))
  have T2 := Lib.hid (text_c s hs)
  have H := Lib.hid (hash2 (encT [107, 101, 121]) (encT s) (keyT s) rfl (by have := keyT_le s hs; omega))
  have X := Lib.hid (exponent_any (Sg.hs (keyT s)) (hs_bd _).1)
  have O := Lib.hid (of_pos (okx_key s))
  have K0 := Lib.hid (Dg.Blk.new w 23 #[.int .i64 0, .int .i64 0])
  have HW0 := Lib.hid hw
  have HW := Lib.hid (hw.below (below_alloc w (.cells #[.int .i64 0, .int .i64 0] 23)))
  have B0 := Lib.hid (below_alloc w (.cells #[.int .i64 0, .int .i64 0] 23))
  have e : exn (Sg.hs (keyT s)) = keyS s := rfl
  rw [e] at X
  generalize xe 4 (keyS s) = y at *
  generalize keyS s = N at *
  generalize Sg.hs (keyT s) = h at *
  generalize encT [107, 101, 121] = A at *
  generalize encT s = B at *
  clear hw hs e
  go_enter Tryd.func10, Tryd.ntmps10
  go_wp2_with fail
  refine (T1.out _ HW.out).mono ?_
  rintro e w1 ⟨rfl, hb⟩
  have K1 := Lib.hid (K0.out.below hb K0.out.lt)
  have B1 := Lib.hid (below_trans B0.out hb)
  clear hb K0 B0 T1
  go_wp2_with fail
  refine (T2.out _ (HW0.out.below B1.out)).mono ?_
  rintro e w2 ⟨rfl, hb⟩
  have K2 := Lib.hid (K1.out.below hb K1.out.lt)
  have B2 := Lib.hid (below_trans B1.out hb)
  clear hb K1 B1 T2
  go_wp2_with fail
  refine (H.out _ _ (HW0.out.below B2.out)).mono ?_
  rintro e w3 ⟨rfl, hb⟩
  have K3 := Lib.hid (K2.out.below hb K2.out.lt)
  have B3 := Lib.hid (below_trans B2.out hb)
  clear hb K2 B2 H
  go_wp2_with fail
  refine (X.out _).mono ?_
  rintro e w4 ⟨rfl, hb⟩
  have K4 := Lib.hid (K3.out.below hb K3.out.lt)
  have B4 := Lib.hid (below_trans B3.out hb)
  clear hb K3 B3 X
  go_wp2_with fail
  refine (O.out _).mono ?_
  rintro e w5 ⟨rfl, hb⟩
  have K5 := Lib.hid (K4.out.below hb K4.out.lt)
  have B5 := Lib.hid (below_trans B4.out hb)
  clear hb K4 B4 O
  have c0 := K5.out.cell 0
  have c1 := K5.out.cell 1
  have f0 := K5.out.frozen 0
  have f1 := K5.out.frozen 1
  unfold kv
  go_wp2_with fail
  exact ret_key rfl rfl rfl (blk_two K5.out _ _) (below_two B5.out (Nat.le_refl _) _ _)
end Go.Proofs.YtfmjankmfddefaaDoor.Sg
