/- The examples that every statement of layer 5 checks first: all of them are right. Conditions: the listed variables hold what they are laid with, and the library's own variable holds some int. -/
import Derived.Test.YtfmjankmfddefaaDoorSVerify
namespace Go.Proofs.YtfmjankmfddefaaDoor.Sg
set_option linter.unusedVariables false
open Go.RowKit Gp Gp.Grp Wr.Wm
open Dg (sv)

theorem ver_one (c m : Bs) (e s : Int) : verB 1 c m e s = false := by unfold verB rng; rfl
theorem of_one : ofX 1 = 1 ∧ ofY 1 = 4 := ⟨ofX_pos (by decide), (ofY_pos (by decide)).trans (xe_one 4)⟩
theorem of_nil : ofX 0 = 0 ∧ ofY 0 = 0 := ⟨ofX_neg (by decide), ofY_neg (by decide)⟩
theorem blk_new (w : World) (t : TypeId) (a b x y : Value) : Dg.Blk (((w.alloc (.cells #[a, b] t)).setCell ⟨w.heap.size, 0, none⟩ x).setCell ⟨w.heap.size, 1, none⟩ y) w.heap.size t #[x, y] := blk_two (Dg.Blk.new w t #[a, b]) x y
/-- A key and a signature in memory, and what has been made since w. -/
structure KS (w : World) (g h : Nat) (a b c d : Value) (W : World) : Prop where
  k : Dg.Blk W g 23 #[a, b]
  s : Dg.Blk W h 25 #[c, d]
  b : Below w.heap.size w W
  wd : Wd W
theorem KS.next {w W W' : World} {g h : Nat} {a b c d : Value} (x : KS w g h a b c d W) (hb : Below W.heap.size W W') : KS w g h a b c d W' :=
  ⟨x.k.below hb x.k.lt, x.s.below hb x.s.lt, below_trans x.b hb, x.wd.below hb⟩
theorem ks_new {w w1 w2 : World} {a b c d : Value} (h1 : Below w.heap.size w w1) (hw : Wd w) (h2 : Below (w1.alloc (.cells #[a, b] 23)).heap.size (w1.alloc (.cells #[a, b] 23)) w2) :
    KS w w1.heap.size w2.heap.size a b c d (w2.alloc (.cells #[c, d] 25)) := by
  have K := Dg.Blk.new w1 23 #[a, b]
  have K2 := K.below h2 K.lt
  have b1 := below_trans h1 (below_alloc w1 (.cells #[a, b] 23))
  have b2 := below_trans b1 h2
  have b3 := below_alloc w2 (.cells #[c, d] 25)
  exact ⟨K2.below b3 K2.lt, Dg.Blk.new w2 _ _, below_trans b2 b3, hw.below (below_trans b2 b3)⟩
set_option maxHeartbeats 4000000 in
set_option maxRecDepth 100000 in
theorem small_any (w : World) (hw : Wd w) : Calls Tryd.prog 8 #[] w (Ret (.bool true) w) := by
  have HW := Lib.hid hw
  have hk := okx_key [97]
  have C1 := Lib.hid (key_any [97] (by decide))
  have C2 := Lib.hid (sign_yes hk [99] [109] (by decide))
  have C3 := Lib.hid (of_any 1)
  rw [of_one.1, of_one.2] at C3
  have C4 := Lib.hid (of_any 0)
  rw [of_nil.1, of_nil.2] at C4
  have C5 := Lib.hid (right_any (keyS [97]) (xe 4 (keyS [97])))
  rw [right_of hk] at C5
  have C6 := Lib.hid (verify_any (xe 4 (keyS [97])) (sgE (keyS [97]) [99] [109]) (sgS (keyS [97]) [99] [109]) [99] [109] (by decide))
  rw [ver_sig hk] at C6
  have C7 := Lib.hid (verify_any (xe 4 (keyS [97])) (sgE (keyS [97]) [99] [109]) (sgS (keyS [97]) [99] [109]) [99] [110] (by decide))
  rw [ev_other] at C7
  have C8 := Lib.hid (verify_any 1 (sgE (keyS [97]) [99] [109]) (sgS (keyS [97]) [99] [109]) [99] [109] (by decide))
  rw [ver_one] at C8
  generalize sgE (keyS [97]) [99] [109] = E at *
  generalize sgS (keyS [97]) [99] [109] = S at *
  generalize xe 4 (keyS [97]) = Y at *
  generalize keyS [97] = X at *
  clear hw hk
  unfold kv at *
  go_enter Tryd.func8, Tryd.ntmps8
  go_wp2_with fail
  refine (C1.out _ HW.out).mono ?_
  rintro e w1 ⟨rfl, hb⟩
  have B1 := Lib.hid hb
  clear hb C1
  go_wp2_with fail
  refine (C2.out _ (HW.out.below (below_trans B1.out (below_alloc _ _)))).mono ?_
  rintro e w2 ⟨rfl, hb⟩
  have H2 := Lib.hid (ks_new (c := .int .i64 E) (d := .int .i64 S) B1.out HW.out hb)
  have B2 := Lib.hid (hb)
  clear hb C2 B1
  have c0 := H2.out.k.cell 0
  have c1 := H2.out.k.cell 1
  have c2 := H2.out.s.cell 0
  have c3 := H2.out.s.cell 1
  go_wp2_with fail
  --GG
  refine (C3.out _).mono ?_
  rintro e w3 ⟨rfl, hb⟩
  have H3 := Lib.hid (H2.out.next hb)
  clear hb H2 C3 c0 c1 c2 c3
  have c0 := H3.out.k.cell 0
  have c1 := H3.out.k.cell 1
  have c2 := H3.out.s.cell 0
  have c3 := H3.out.s.cell 1
  go_wp2_with fail
  refine (C4.out _).mono ?_
  rintro e w4 ⟨rfl, hb⟩
  have H4 := Lib.hid (H3.out.next hb)
  clear hb H3 C4 c0 c1 c2 c3
  have c0 := H4.out.k.cell 0
  have c1 := H4.out.k.cell 1
  have c2 := H4.out.s.cell 0
  have c3 := H4.out.s.cell 1
  go_wp2_with fail
  refine (C5.out _ H4.out.wd).mono ?_
  rintro e w5 ⟨rfl, hb⟩
  have H5 := Lib.hid (H4.out.next hb)
  clear hb H4 C5 c0 c1 c2 c3
  have c0 := H5.out.k.cell 0
  have c1 := H5.out.k.cell 1
  have c2 := H5.out.s.cell 0
  have c3 := H5.out.s.cell 1
  go_wp2_with fail
  refine (C6.out _ H5.out.wd).mono ?_
  rintro e w6 ⟨rfl, hb⟩
  have H6 := Lib.hid (H5.out.next hb)
  clear hb H5 C6 c0 c1 c2 c3
  have c0 := H6.out.k.cell 0
  have c1 := H6.out.k.cell 1
  have c2 := H6.out.s.cell 0
  have c3 := H6.out.s.cell 1
  go_wp2_with fail
  refine (C7.out _ H6.out.wd).mono ?_
  rintro e w7 ⟨rfl, hb⟩
  have H7 := Lib.hid (H6.out.next hb)
  clear hb H6 C7 c0 c1 c2 c3
  have c0 := H7.out.k.cell 0
  have c1 := H7.out.k.cell 1
  have c2 := H7.out.s.cell 0
  have c3 := H7.out.s.cell 1
  go_wp2_with fail
  refine (C8.out _ H7.out.wd).mono ?_
  rintro e w8 ⟨rfl, hb⟩
  have H8 := Lib.hid (H7.out.next hb)
  clear hb H7 C8 c0 c1 c2 c3
  have c0 := H8.out.k.cell 0
  have c1 := H8.out.k.cell 1
  have c2 := H8.out.s.cell 0
  have c3 := H8.out.s.cell 1
  go_wp2_with fail
  go_ret
  exact ⟨rfl, H8.out.b⟩
end Go.Proofs.YtfmjankmfddefaaDoor.Sg
