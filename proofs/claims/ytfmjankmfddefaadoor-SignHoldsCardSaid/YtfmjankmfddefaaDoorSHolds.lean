/- The statement SignHolds: what is signed by the key of a seed, and by the key of any secret, is in range, is accepted, and is the same when it is made again. Conditions: those of the card; the statement's own bounds. -/
import Derived.Test.YtfmjankmfddefaaDoorSCard
namespace Go.Proofs.YtfmjankmfddefaaDoor.signHolds
open Go.ChangeShapes Go.WideShapes Go.ChangeAt Go.RowKit
open Sg Gp Gp.Grp Wr.Wm
open Dg (sv)
set_option linter.unusedVariables false

theorem long (S T U : ByteArray) (x : Int) (h : ¬ (S.size + T.size + U.size ≤ 2000)) (hS : S.size ≤ 140737488355328) (hT : T.size ≤ 140737488355328) (hU : U.size ≤ 140737488355328) (w : World) (hw : Wd w) :
    Calls Tryd.prog 4 #[.string S, .int .i64 x, .string T, .string U] w (IsTrue w) := by
  have SM := Lib.hid small_any
  have HW := Lib.hid hw
  have SH := Lib.hid (short_f S T U h hS hT hU)
  clear hw h hS hT hU
  go_enter Tryd.func4, Tryd.ntmps4
  go_wp2_with fail
  refine (SM.out _ HW.out).mono ?_
  rintro e w1 ⟨rfl, hb⟩
  have B1 := Lib.hid hb
  clear hb SM
  go_wp2_with fail
  refine (SH.out _).mono ?_
  rintro e w2 ⟨rfl, hb⟩
  have B2 := Lib.hid (below_trans B1.out hb)
  clear hb SH B1
  go_wp2_with fail
  go_ret
  exact ⟨rfl, B2.out⟩
/-- Two keys and a signature in memory, and what has been made since w. -/
structure HM (w : World) (g1 g2 g3 : Nat) (a b c d e f : Value) (W : World) : Prop where
  k1 : Dg.Blk W g1 23 #[a, b]
  k2 : Dg.Blk W g2 23 #[c, d]
  s : Dg.Blk W g3 25 #[e, f]
  b : Below w.heap.size w W
  wd : Wd W
section
variable {w W W' : World} {g1 g2 g3 : Nat} {a b c d e f : Value}
theorem HM.next (x : HM w g1 g2 g3 a b c d e f W) (hb : Below W.heap.size W W') : HM w g1 g2 g3 a b c d e f W' :=
  ⟨x.k1.below hb x.k1.lt, x.k2.below hb x.k2.lt, x.s.below hb x.s.lt, below_trans x.b hb, x.wd.below hb⟩
theorem HM.drew (x : HM w g1 g2 g3 a b c d e f W) : HM w g1 g2 g3 a b c d e f W.drew :=
  ⟨x.k1, x.k2, x.s, ⟨x.b.os, x.b.tape, x.b.output, x.b.size, x.b.block⟩, x.wd⟩
theorem HM.all (x : HM w g1 g2 g3 a b c d e f W) : W.cell? ⟨g1, 0, none⟩ = some a ∧ W.cell? ⟨g1, 1, none⟩ = some b ∧ W.cell? ⟨g3, 0, none⟩ = some e ∧ W.cell? ⟨g3, 1, none⟩ = some f ∧ HM w g1 g2 g3 a b c d e f W :=
  ⟨x.k1.cell 0, x.k1.cell 1, x.s.cell 0, x.s.cell 1, x⟩
theorem HM.call {p : FuncId} {args : Array Value} {v : Value} (C : ∀ W, Wd W → Calls Tryd.prog p args W (Ret v W)) (W : World)
    (h : W.cell? ⟨g1, 0, none⟩ = some a ∧ W.cell? ⟨g1, 1, none⟩ = some b ∧ W.cell? ⟨g3, 0, none⟩ = some e ∧ W.cell? ⟨g3, 1, none⟩ = some f ∧ HM w g1 g2 g3 a b c d e f W) :
    Calls Tryd.prog p args W fun x W' => x = .returned v ∧ (W'.cell? ⟨g1, 0, none⟩ = some a ∧ W'.cell? ⟨g1, 1, none⟩ = some b ∧ W'.cell? ⟨g3, 0, none⟩ = some e ∧ W'.cell? ⟨g3, 1, none⟩ = some f ∧ HM w g1 g2 g3 a b c d e f W') :=
  (C W h.2.2.2.2.wd).mono fun x W' hr => ⟨hr.1, (h.2.2.2.2.next hr.2).all⟩
end
set_option maxHeartbeats 4000000 in
set_option maxRecDepth 100000 in
theorem main_pos (s c m : Bs) (x : Int) (h : s.length + c.length + m.length ≤ 2000) (hx : okx x = true) (w : World) (hw : Wd w) :
    Calls Tryd.prog 4 #[.string (sv s), .int .i64 x, .string (sv c), .string (sv m)] w (IsTrue w) := by
  have SM := Lib.hid small_any
  have HW := Lib.hid hw
  have SH := Lib.hid (short_t (sv s) (sv c) (sv m) h)
  have hk := okx_key s
  have C1 := Lib.hid (key_any s (by omega))
  have C2 := Lib.hid (of_pos hx)
  have C3 := Lib.hid (right_any x (xe 4 x))
  rw [right_of hx] at C3
  have C7 := Lib.hid (sign_yes hx c m (by omega))
  have C8 := Lib.hid (right_any x (xe 4 x))
  rw [right_of hx] at C8
  have C9 := Lib.hid (verify_any (xe 4 x) (sgE x c m) (sgS x c m) c m (by omega))
  rw [ver_sig hx] at C9
  have d1 : decide ((1 : Int) ≤ x) = true := decide_eq_true ((okx_iff x).1 hx).1
  have d2 : decide (x < (1152921504606845789 : Int)) = true := decide_eq_true ((okx_iff x).1 hx).2
  have C4 := Lib.hid (right_any (keyS s) (xe 4 (keyS s)))
  rw [right_of hk] at C4
  have C5 := Lib.hid (sign_yes hk c m (by omega))
  have C5' := Lib.hid (sign_yes hk c m (by omega))
  have C6 := Lib.hid (verify_any (xe 4 (keyS s)) (sgE (keyS s) c m) (sgS (keyS s) c m) c m (by omega))
  rw [ver_sig hk] at C6
  have hE := chS_bd (xe 4 (nonS (keyS s) c m)) (xe 4 (keyS s)) c m
  have hE1 : sgE (keyS s) c m = chS (xe 4 (nonS (keyS s) c m)) (xe 4 (keyS s)) c m := rfl
  rw [← hE1] at hE
  have hS := rq_bd (nonS (keyS s) c m + rq (sgE (keyS s) c m * keyS s))
  have hS1 : sgS (keyS s) c m = rq (nonS (keyS s) c m + rq (sgE (keyS s) c m * keyS s)) := rfl
  rw [← hS1] at hS
  have f1 : decide (sgE (keyS s) c m < (0 : Int)) = false := decide_eq_false (by omega)
  have f2 : decide ((1152921504606845789 : Int) ≤ sgE (keyS s) c m) = false := decide_eq_false (by omega)
  have f3 : decide (sgS (keyS s) c m < (0 : Int)) = false := decide_eq_false (by omega)
  have f4 : decide ((1152921504606845789 : Int) ≤ sgS (keyS s) c m) = false := decide_eq_false (by omega)
  clear hE hE1 hS hS1 hk hx
  generalize sgE x c m = G at *
  generalize sgS x c m = T at *
  generalize xe 4 x = Z at *
  generalize sgE (keyS s) c m = E at *
  generalize sgS (keyS s) c m = S at *
  generalize xe 4 (keyS s) = Y at *
  generalize keyS s = X at *
  unfold kv at *
  clear hw h
  go_enter Tryd.func4, Tryd.ntmps4
  go_wp2_with fail
  refine (SM.out _ HW.out).mono ?_
  rintro e w1 ⟨rfl, hb⟩
  have B1 := Lib.hid hb
  clear hb SM
  go_wp2_with fail
  refine (SH.out _).mono ?_
  rintro e w2 ⟨rfl, hb⟩
  have B2 := Lib.hid (below_trans B1.out hb)
  clear hb SH B1
  go_wp2_with fail
  refine (C1.out _ (HW.out.below B2.out)).mono ?_
  rintro e w3 ⟨rfl, hb⟩
  have ha := below_alloc w3 (.cells #[.int .i64 X, .int .i64 Y] 23)
  have K1 := Lib.hid (Dg.Blk.new w3 23 #[.int .i64 X, .int .i64 Y])
  have B3 := Lib.hid (below_trans (below_trans B2.out hb) ha)
  clear hb ha B2 C1
  have c10 := K1.out.cell 0
  have c11 := K1.out.cell 1
  go_wp2_with fail
  refine (C2.out _).mono ?_
  rintro e w4 ⟨rfl, hb⟩
  clear c10 c11
  have ha := below_alloc w4 (.cells #[.int .i64 x, .int .i64 Z] 23)
  replace K1 := Lib.hid ((K1.out.below hb K1.out.lt).below ha (K1.out.below hb K1.out.lt).lt)
  have K2 := Lib.hid (Dg.Blk.new w4 23 #[.int .i64 x, .int .i64 Z])
  have B4 := Lib.hid (below_trans (below_trans B3.out hb) ha)
  clear hb ha B3 C2
  have c10 := K1.out.cell 0
  have c11 := K1.out.cell 1
  have c20 := K2.out.cell 0
  have c21 := K2.out.cell 1
  go_wp2_with fail
  refine (C3.out _ (HW.out.below B4.out)).mono ?_
  rintro e w5 ⟨rfl, hb⟩
  clear c10 c11 c20 c21
  replace K1 := Lib.hid (K1.out.below hb K1.out.lt)
  replace K2 := Lib.hid (K2.out.below hb K2.out.lt)
  have B5 := Lib.hid (below_trans B4.out hb)
  clear hb B4 C3
  have c10 := K1.out.cell 0
  have c11 := K1.out.cell 1
  have c20 := K2.out.cell 0
  have c21 := K2.out.cell 1
  go_wp2_with fail
  refine (C4.out _ (HW.out.below B5.out)).mono ?_
  rintro e w6 ⟨rfl, hb⟩
  clear c10 c11 c20 c21
  replace K1 := Lib.hid (K1.out.below hb K1.out.lt)
  replace K2 := Lib.hid (K2.out.below hb K2.out.lt)
  have B6 := Lib.hid (below_trans B5.out hb)
  clear hb B5 C4
  have c10 := K1.out.cell 0
  have c11 := K1.out.cell 1
  have c20 := K2.out.cell 0
  have c21 := K2.out.cell 1
  go_wp2_with fail
  refine (C5.out _ (HW.out.below B6.out)).mono ?_
  rintro e w7 ⟨rfl, hb⟩
  clear c10 c11 c20 c21
  have ha := below_alloc w7 (.cells #[.int .i64 E, .int .i64 S] 25)
  replace K1 := Lib.hid ((K1.out.below hb K1.out.lt).below ha (K1.out.below hb K1.out.lt).lt)
  replace K2 := Lib.hid ((K2.out.below hb K2.out.lt).below ha (K2.out.below hb K2.out.lt).lt)
  have K3 := Lib.hid (Dg.Blk.new w7 25 #[.int .i64 E, .int .i64 S])
  have B7 := Lib.hid (below_trans (below_trans B6.out hb) ha)
  clear hb ha B6 C5
  have c10 := K1.out.cell 0
  have c11 := K1.out.cell 1
  have c20 := K2.out.cell 0
  have c21 := K2.out.cell 1
  have c30 := K3.out.cell 0
  have c31 := K3.out.cell 1
  go_wp2_with fail
  clear c10 c11 c20 c21 c30 c31
  have HM0 := Lib.hid (HM.mk K1.out K2.out K3.out B7.out (HW.out.below B7.out))
  clear K1 K2 K3 B7
  generalize w7.alloc (.cells #[.int .i64 E, .int .i64 S] 25) = W0 at *
  have V6 := Lib.hid (fun W (h : W.cell? ⟨w3.heap.size, 0, none⟩ = some (.int .i64 X) ∧ W.cell? ⟨w3.heap.size, 1, none⟩ = some (.int .i64 Y) ∧ W.cell? ⟨w7.heap.size, 0, none⟩ = some (.int .i64 E) ∧ W.cell? ⟨w7.heap.size, 1, none⟩ = some (.int .i64 S) ∧ HM w w3.heap.size w4.heap.size w7.heap.size (.int .i64 X) (.int .i64 Y) (.int .i64 x) (.int .i64 Z) (.int .i64 E) (.int .i64 S) W) => HM.call C6.out W h)
  have V5 := Lib.hid (fun W (h : W.cell? ⟨w3.heap.size, 0, none⟩ = some (.int .i64 X) ∧ W.cell? ⟨w3.heap.size, 1, none⟩ = some (.int .i64 Y) ∧ W.cell? ⟨w7.heap.size, 0, none⟩ = some (.int .i64 E) ∧ W.cell? ⟨w7.heap.size, 1, none⟩ = some (.int .i64 S) ∧ HM w w3.heap.size w4.heap.size w7.heap.size (.int .i64 X) (.int .i64 Y) (.int .i64 x) (.int .i64 Z) (.int .i64 E) (.int .i64 S) W) => HM.call C5'.out W h)
  obtain ⟨s1, s2, s3, s4, s5⟩ := HM0.out.all
  clear HM0 C6 C5'
  go_region_held3 (fun W => W.cell? ⟨w3.heap.size, 0, none⟩ = some (.int .i64 X) ∧ W.cell? ⟨w3.heap.size, 1, none⟩ = some (.int .i64 Y) ∧ W.cell? ⟨w7.heap.size, 0, none⟩ = some (.int .i64 E) ∧ W.cell? ⟨w7.heap.size, 1, none⟩ = some (.int .i64 S) ∧ HM w w3.heap.size w4.heap.size w7.heap.size (.int .i64 X) (.int .i64 Y) (.int .i64 x) (.int .i64 Z) (.int .i64 E) (.int .i64 S) W)
    (((try dsimp only); (refine ⟨?_, ?_, ?_, ?_, ?_⟩ <;> (first | assumption | go_keep | exact HM.drew ‹_›))))
    ((first
      | (go_at_call 18; refine (V6.out _ ?_).mono ?_; assumption; rintro e' w20 ⟨rfl, h1, h2, h3, h4, h5⟩)
      | (go_at_call 16; refine (V5.out _ ?_).mono ?_; assumption; rintro e' w21 ⟨rfl, h1, h2, h3, h4, h5⟩)))
  have K2 := Lib.hid h5.k2
  have B21 := Lib.hid h5.b
  have c20 := K2.out.cell 0
  have c21 := K2.out.cell 1
  clear h1 h2 h3 h4 h5 s1 s2 s3 s4 s5 V6 V5
  go_wp2_with fail
  refine (C7.out _ (HW.out.below B21.out)).mono ?_
  rintro e w22 ⟨rfl, hb⟩
  clear c20 c21
  have ha := below_alloc w22 (.cells #[.int .i64 G, .int .i64 T] 25)
  replace K2 := Lib.hid ((K2.out.below hb K2.out.lt).below ha (K2.out.below hb K2.out.lt).lt)
  have K4 := Lib.hid (Dg.Blk.new w22 25 #[.int .i64 G, .int .i64 T])
  have B22 := Lib.hid (below_trans (below_trans B21.out hb) ha)
  clear hb ha B21 C7
  have c20 := K2.out.cell 0
  have c21 := K2.out.cell 1
  have c40 := K4.out.cell 0
  have c41 := K4.out.cell 1
  go_wp2_with fail
  refine (C8.out _ (HW.out.below B22.out)).mono ?_
  rintro e w23 ⟨rfl, hb⟩
  clear c20 c21 c40 c41
  replace K2 := Lib.hid (K2.out.below hb K2.out.lt)
  replace K4 := Lib.hid (K4.out.below hb K4.out.lt)
  have B23 := Lib.hid (below_trans B22.out hb)
  clear hb B22 C8
  have c20 := K2.out.cell 0
  have c21 := K2.out.cell 1
  have c40 := K4.out.cell 0
  have c41 := K4.out.cell 1
  go_wp2_with fail
  refine (C9.out _ (HW.out.below B23.out)).mono ?_
  rintro e w24 ⟨rfl, hb⟩
  clear c20 c21 c40 c41
  replace K2 := Lib.hid (K2.out.below hb K2.out.lt)
  replace K4 := Lib.hid (K4.out.below hb K4.out.lt)
  have B24 := Lib.hid (below_trans B23.out hb)
  clear hb B23 C9
  have c20 := K2.out.cell 0
  have c21 := K2.out.cell 1
  have c40 := K4.out.cell 0
  have c41 := K4.out.cell 1
  go_wp2_with fail
  go_ret
  exact ⟨rfl, B24.out⟩
set_option maxHeartbeats 4000000 in
set_option maxRecDepth 100000 in
theorem main_low (s c m : Bs) (x : Int) (h : s.length + c.length + m.length ≤ 2000) (hx : x < 1) (w : World) (hw : Wd w) :
    Calls Tryd.prog 4 #[.string (sv s), .int .i64 x, .string (sv c), .string (sv m)] w (IsTrue w) := by
  have SM := Lib.hid small_any
  have HW := Lib.hid hw
  have SH := Lib.hid (short_t (sv s) (sv c) (sv m) h)
  have hk := okx_key s
  have C1 := Lib.hid (key_any s (by omega))
  have hx2 : okx x = false := okx_out (by omega)
  have C2 := Lib.hid (of_neg hx2)
  have C3 := Lib.hid (right_any 0 0)
  rw [show rightB 0 0 = false from rfl] at C3
  have C7 := Lib.hid (sign_no (show rightB 0 0 = false from rfl) c m)
  have C8 := Lib.hid (right_any 0 0)
  rw [show rightB 0 0 = false from rfl] at C8
  have d1 : decide ((1 : Int) ≤ x) = false := decide_eq_false (by omega)
  have C4 := Lib.hid (right_any (keyS s) (xe 4 (keyS s)))
  rw [right_of hk] at C4
  have C5 := Lib.hid (sign_yes hk c m (by omega))
  have C5' := Lib.hid (sign_yes hk c m (by omega))
  have C6 := Lib.hid (verify_any (xe 4 (keyS s)) (sgE (keyS s) c m) (sgS (keyS s) c m) c m (by omega))
  rw [ver_sig hk] at C6
  have hE := chS_bd (xe 4 (nonS (keyS s) c m)) (xe 4 (keyS s)) c m
  have hE1 : sgE (keyS s) c m = chS (xe 4 (nonS (keyS s) c m)) (xe 4 (keyS s)) c m := rfl
  rw [← hE1] at hE
  have hS := rq_bd (nonS (keyS s) c m + rq (sgE (keyS s) c m * keyS s))
  have hS1 : sgS (keyS s) c m = rq (nonS (keyS s) c m + rq (sgE (keyS s) c m * keyS s)) := rfl
  rw [← hS1] at hS
  have f1 : decide (sgE (keyS s) c m < (0 : Int)) = false := decide_eq_false (by omega)
  have f2 : decide ((1152921504606845789 : Int) ≤ sgE (keyS s) c m) = false := decide_eq_false (by omega)
  have f3 : decide (sgS (keyS s) c m < (0 : Int)) = false := decide_eq_false (by omega)
  have f4 : decide ((1152921504606845789 : Int) ≤ sgS (keyS s) c m) = false := decide_eq_false (by omega)
  clear hE hE1 hS hS1 hk hx hx2
  generalize sgE (keyS s) c m = E at *
  generalize sgS (keyS s) c m = S at *
  generalize xe 4 (keyS s) = Y at *
  generalize keyS s = X at *
  unfold kv at *
  clear hw h
  go_enter Tryd.func4, Tryd.ntmps4
  go_wp2_with fail
  refine (SM.out _ HW.out).mono ?_
  rintro e w1 ⟨rfl, hb⟩
  have B1 := Lib.hid hb
  clear hb SM
  go_wp2_with fail
  refine (SH.out _).mono ?_
  rintro e w2 ⟨rfl, hb⟩
  have B2 := Lib.hid (below_trans B1.out hb)
  clear hb SH B1
  go_wp2_with fail
  refine (C1.out _ (HW.out.below B2.out)).mono ?_
  rintro e w3 ⟨rfl, hb⟩
  have ha := below_alloc w3 (.cells #[.int .i64 X, .int .i64 Y] 23)
  have K1 := Lib.hid (Dg.Blk.new w3 23 #[.int .i64 X, .int .i64 Y])
  have B3 := Lib.hid (below_trans (below_trans B2.out hb) ha)
  clear hb ha B2 C1
  have c10 := K1.out.cell 0
  have c11 := K1.out.cell 1
  go_wp2_with fail
  refine (C2.out _).mono ?_
  rintro e w4 ⟨rfl, hb⟩
  clear c10 c11
  have ha := below_alloc w4 (.cells #[.int .i64 0, .int .i64 0] 23)
  replace K1 := Lib.hid ((K1.out.below hb K1.out.lt).below ha (K1.out.below hb K1.out.lt).lt)
  have K2 := Lib.hid (Dg.Blk.new w4 23 #[.int .i64 0, .int .i64 0])
  have B4 := Lib.hid (below_trans (below_trans B3.out hb) ha)
  clear hb ha B3 C2
  have c10 := K1.out.cell 0
  have c11 := K1.out.cell 1
  have c20 := K2.out.cell 0
  have c21 := K2.out.cell 1
  go_wp2_with fail
  refine (C3.out _ (HW.out.below B4.out)).mono ?_
  rintro e w5 ⟨rfl, hb⟩
  clear c10 c11 c20 c21
  replace K1 := Lib.hid (K1.out.below hb K1.out.lt)
  replace K2 := Lib.hid (K2.out.below hb K2.out.lt)
  have B5 := Lib.hid (below_trans B4.out hb)
  clear hb B4 C3
  have c10 := K1.out.cell 0
  have c11 := K1.out.cell 1
  have c20 := K2.out.cell 0
  have c21 := K2.out.cell 1
  go_wp2_with fail
  refine (C4.out _ (HW.out.below B5.out)).mono ?_
  rintro e w6 ⟨rfl, hb⟩
  clear c10 c11 c20 c21
  replace K1 := Lib.hid (K1.out.below hb K1.out.lt)
  replace K2 := Lib.hid (K2.out.below hb K2.out.lt)
  have B6 := Lib.hid (below_trans B5.out hb)
  clear hb B5 C4
  have c10 := K1.out.cell 0
  have c11 := K1.out.cell 1
  have c20 := K2.out.cell 0
  have c21 := K2.out.cell 1
  go_wp2_with fail
  refine (C5.out _ (HW.out.below B6.out)).mono ?_
  rintro e w7 ⟨rfl, hb⟩
  clear c10 c11 c20 c21
  have ha := below_alloc w7 (.cells #[.int .i64 E, .int .i64 S] 25)
  replace K1 := Lib.hid ((K1.out.below hb K1.out.lt).below ha (K1.out.below hb K1.out.lt).lt)
  replace K2 := Lib.hid ((K2.out.below hb K2.out.lt).below ha (K2.out.below hb K2.out.lt).lt)
  have K3 := Lib.hid (Dg.Blk.new w7 25 #[.int .i64 E, .int .i64 S])
  have B7 := Lib.hid (below_trans (below_trans B6.out hb) ha)
  clear hb ha B6 C5
  have c10 := K1.out.cell 0
  have c11 := K1.out.cell 1
  have c20 := K2.out.cell 0
  have c21 := K2.out.cell 1
  have c30 := K3.out.cell 0
  have c31 := K3.out.cell 1
  go_wp2_with fail
  clear c10 c11 c20 c21 c30 c31
  have HM0 := Lib.hid (HM.mk K1.out K2.out K3.out B7.out (HW.out.below B7.out))
  clear K1 K2 K3 B7
  generalize w7.alloc (.cells #[.int .i64 E, .int .i64 S] 25) = W0 at *
  have V6 := Lib.hid (fun W (h : W.cell? ⟨w3.heap.size, 0, none⟩ = some (.int .i64 X) ∧ W.cell? ⟨w3.heap.size, 1, none⟩ = some (.int .i64 Y) ∧ W.cell? ⟨w7.heap.size, 0, none⟩ = some (.int .i64 E) ∧ W.cell? ⟨w7.heap.size, 1, none⟩ = some (.int .i64 S) ∧ HM w w3.heap.size w4.heap.size w7.heap.size (.int .i64 X) (.int .i64 Y) (.int .i64 0) (.int .i64 0) (.int .i64 E) (.int .i64 S) W) => HM.call C6.out W h)
  have V5 := Lib.hid (fun W (h : W.cell? ⟨w3.heap.size, 0, none⟩ = some (.int .i64 X) ∧ W.cell? ⟨w3.heap.size, 1, none⟩ = some (.int .i64 Y) ∧ W.cell? ⟨w7.heap.size, 0, none⟩ = some (.int .i64 E) ∧ W.cell? ⟨w7.heap.size, 1, none⟩ = some (.int .i64 S) ∧ HM w w3.heap.size w4.heap.size w7.heap.size (.int .i64 X) (.int .i64 Y) (.int .i64 0) (.int .i64 0) (.int .i64 E) (.int .i64 S) W) => HM.call C5'.out W h)
  obtain ⟨s1, s2, s3, s4, s5⟩ := HM0.out.all
  clear HM0 C6 C5'
  go_region_held3 (fun W => W.cell? ⟨w3.heap.size, 0, none⟩ = some (.int .i64 X) ∧ W.cell? ⟨w3.heap.size, 1, none⟩ = some (.int .i64 Y) ∧ W.cell? ⟨w7.heap.size, 0, none⟩ = some (.int .i64 E) ∧ W.cell? ⟨w7.heap.size, 1, none⟩ = some (.int .i64 S) ∧ HM w w3.heap.size w4.heap.size w7.heap.size (.int .i64 X) (.int .i64 Y) (.int .i64 0) (.int .i64 0) (.int .i64 E) (.int .i64 S) W)
    (((try dsimp only); (refine ⟨?_, ?_, ?_, ?_, ?_⟩ <;> (first | assumption | go_keep | exact HM.drew ‹_›))))
    ((first
      | (go_at_call 18; refine (V6.out _ ?_).mono ?_; assumption; rintro e' w20 ⟨rfl, h1, h2, h3, h4, h5⟩)
      | (go_at_call 16; refine (V5.out _ ?_).mono ?_; assumption; rintro e' w21 ⟨rfl, h1, h2, h3, h4, h5⟩)))
  have K2 := Lib.hid h5.k2
  have B21 := Lib.hid h5.b
  have c20 := K2.out.cell 0
  have c21 := K2.out.cell 1
  clear h1 h2 h3 h4 h5 s1 s2 s3 s4 s5 V6 V5
  go_wp2_with fail
  refine (C7.out _ (HW.out.below B21.out)).mono ?_
  rintro e w22 ⟨rfl, hb⟩
  clear c20 c21
  have ha := below_alloc w22 (.cells #[.int .i64 0, .int .i64 0] 25)
  replace K2 := Lib.hid ((K2.out.below hb K2.out.lt).below ha (K2.out.below hb K2.out.lt).lt)
  have K4 := Lib.hid (Dg.Blk.new w22 25 #[.int .i64 0, .int .i64 0])
  have B22 := Lib.hid (below_trans (below_trans B21.out hb) ha)
  clear hb ha B21 C7
  have c20 := K2.out.cell 0
  have c21 := K2.out.cell 1
  have c40 := K4.out.cell 0
  have c41 := K4.out.cell 1
  go_wp2_with fail
  refine (C8.out _ (HW.out.below B22.out)).mono ?_
  rintro e w23 ⟨rfl, hb⟩
  clear c20 c21 c40 c41
  replace K2 := Lib.hid (K2.out.below hb K2.out.lt)
  replace K4 := Lib.hid (K4.out.below hb K4.out.lt)
  have B23 := Lib.hid (below_trans B22.out hb)
  clear hb B22 C8
  have c20 := K2.out.cell 0
  have c21 := K2.out.cell 1
  have c40 := K4.out.cell 0
  have c41 := K4.out.cell 1
  go_wp2_with fail
  go_ret
  exact ⟨rfl, B23.out⟩
set_option maxHeartbeats 4000000 in
set_option maxRecDepth 100000 in
theorem main_high (s c m : Bs) (x : Int) (h : s.length + c.length + m.length ≤ 2000) (hx : ¬ x < 1 ∧ 1152921504606845789 ≤ x) (w : World) (hw : Wd w) :
    Calls Tryd.prog 4 #[.string (sv s), .int .i64 x, .string (sv c), .string (sv m)] w (IsTrue w) := by
  have SM := Lib.hid small_any
  have HW := Lib.hid hw
  have SH := Lib.hid (short_t (sv s) (sv c) (sv m) h)
  have hk := okx_key s
  have C1 := Lib.hid (key_any s (by omega))
  have hx2 : okx x = false := okx_out (by omega)
  have C2 := Lib.hid (of_neg hx2)
  have C3 := Lib.hid (right_any 0 0)
  rw [show rightB 0 0 = false from rfl] at C3
  have C7 := Lib.hid (sign_no (show rightB 0 0 = false from rfl) c m)
  have C8 := Lib.hid (right_any 0 0)
  rw [show rightB 0 0 = false from rfl] at C8
  have d1 : decide ((1 : Int) ≤ x) = true := decide_eq_true (by omega)
  have d2 : decide (x < (1152921504606845789 : Int)) = false := decide_eq_false (by omega)
  have C4 := Lib.hid (right_any (keyS s) (xe 4 (keyS s)))
  rw [right_of hk] at C4
  have C5 := Lib.hid (sign_yes hk c m (by omega))
  have C5' := Lib.hid (sign_yes hk c m (by omega))
  have C6 := Lib.hid (verify_any (xe 4 (keyS s)) (sgE (keyS s) c m) (sgS (keyS s) c m) c m (by omega))
  rw [ver_sig hk] at C6
  have hE := chS_bd (xe 4 (nonS (keyS s) c m)) (xe 4 (keyS s)) c m
  have hE1 : sgE (keyS s) c m = chS (xe 4 (nonS (keyS s) c m)) (xe 4 (keyS s)) c m := rfl
  rw [← hE1] at hE
  have hS := rq_bd (nonS (keyS s) c m + rq (sgE (keyS s) c m * keyS s))
  have hS1 : sgS (keyS s) c m = rq (nonS (keyS s) c m + rq (sgE (keyS s) c m * keyS s)) := rfl
  rw [← hS1] at hS
  have f1 : decide (sgE (keyS s) c m < (0 : Int)) = false := decide_eq_false (by omega)
  have f2 : decide ((1152921504606845789 : Int) ≤ sgE (keyS s) c m) = false := decide_eq_false (by omega)
  have f3 : decide (sgS (keyS s) c m < (0 : Int)) = false := decide_eq_false (by omega)
  have f4 : decide ((1152921504606845789 : Int) ≤ sgS (keyS s) c m) = false := decide_eq_false (by omega)
  clear hE hE1 hS hS1 hk hx hx2
  generalize sgE (keyS s) c m = E at *
  generalize sgS (keyS s) c m = S at *
  generalize xe 4 (keyS s) = Y at *
  generalize keyS s = X at *
  unfold kv at *
  clear hw h
  go_enter Tryd.func4, Tryd.ntmps4
  go_wp2_with fail
  refine (SM.out _ HW.out).mono ?_
  rintro e w1 ⟨rfl, hb⟩
  have B1 := Lib.hid hb
  clear hb SM
  go_wp2_with fail
  refine (SH.out _).mono ?_
  rintro e w2 ⟨rfl, hb⟩
  have B2 := Lib.hid (below_trans B1.out hb)
  clear hb SH B1
  go_wp2_with fail
  refine (C1.out _ (HW.out.below B2.out)).mono ?_
  rintro e w3 ⟨rfl, hb⟩
  have ha := below_alloc w3 (.cells #[.int .i64 X, .int .i64 Y] 23)
  have K1 := Lib.hid (Dg.Blk.new w3 23 #[.int .i64 X, .int .i64 Y])
  have B3 := Lib.hid (below_trans (below_trans B2.out hb) ha)
  clear hb ha B2 C1
  have c10 := K1.out.cell 0
  have c11 := K1.out.cell 1
  go_wp2_with fail
  refine (C2.out _).mono ?_
  rintro e w4 ⟨rfl, hb⟩
  clear c10 c11
  have ha := below_alloc w4 (.cells #[.int .i64 0, .int .i64 0] 23)
  replace K1 := Lib.hid ((K1.out.below hb K1.out.lt).below ha (K1.out.below hb K1.out.lt).lt)
  have K2 := Lib.hid (Dg.Blk.new w4 23 #[.int .i64 0, .int .i64 0])
  have B4 := Lib.hid (below_trans (below_trans B3.out hb) ha)
  clear hb ha B3 C2
  have c10 := K1.out.cell 0
  have c11 := K1.out.cell 1
  have c20 := K2.out.cell 0
  have c21 := K2.out.cell 1
  go_wp2_with fail
  refine (C3.out _ (HW.out.below B4.out)).mono ?_
  rintro e w5 ⟨rfl, hb⟩
  clear c10 c11 c20 c21
  replace K1 := Lib.hid (K1.out.below hb K1.out.lt)
  replace K2 := Lib.hid (K2.out.below hb K2.out.lt)
  have B5 := Lib.hid (below_trans B4.out hb)
  clear hb B4 C3
  have c10 := K1.out.cell 0
  have c11 := K1.out.cell 1
  have c20 := K2.out.cell 0
  have c21 := K2.out.cell 1
  go_wp2_with fail
  refine (C4.out _ (HW.out.below B5.out)).mono ?_
  rintro e w6 ⟨rfl, hb⟩
  clear c10 c11 c20 c21
  replace K1 := Lib.hid (K1.out.below hb K1.out.lt)
  replace K2 := Lib.hid (K2.out.below hb K2.out.lt)
  have B6 := Lib.hid (below_trans B5.out hb)
  clear hb B5 C4
  have c10 := K1.out.cell 0
  have c11 := K1.out.cell 1
  have c20 := K2.out.cell 0
  have c21 := K2.out.cell 1
  go_wp2_with fail
  refine (C5.out _ (HW.out.below B6.out)).mono ?_
  rintro e w7 ⟨rfl, hb⟩
  clear c10 c11 c20 c21
  have ha := below_alloc w7 (.cells #[.int .i64 E, .int .i64 S] 25)
  replace K1 := Lib.hid ((K1.out.below hb K1.out.lt).below ha (K1.out.below hb K1.out.lt).lt)
  replace K2 := Lib.hid ((K2.out.below hb K2.out.lt).below ha (K2.out.below hb K2.out.lt).lt)
  have K3 := Lib.hid (Dg.Blk.new w7 25 #[.int .i64 E, .int .i64 S])
  have B7 := Lib.hid (below_trans (below_trans B6.out hb) ha)
  clear hb ha B6 C5
  have c10 := K1.out.cell 0
  have c11 := K1.out.cell 1
  have c20 := K2.out.cell 0
  have c21 := K2.out.cell 1
  have c30 := K3.out.cell 0
  have c31 := K3.out.cell 1
  go_wp2_with fail
  clear c10 c11 c20 c21 c30 c31
  have HM0 := Lib.hid (HM.mk K1.out K2.out K3.out B7.out (HW.out.below B7.out))
  clear K1 K2 K3 B7
  generalize w7.alloc (.cells #[.int .i64 E, .int .i64 S] 25) = W0 at *
  have V6 := Lib.hid (fun W (h : W.cell? ⟨w3.heap.size, 0, none⟩ = some (.int .i64 X) ∧ W.cell? ⟨w3.heap.size, 1, none⟩ = some (.int .i64 Y) ∧ W.cell? ⟨w7.heap.size, 0, none⟩ = some (.int .i64 E) ∧ W.cell? ⟨w7.heap.size, 1, none⟩ = some (.int .i64 S) ∧ HM w w3.heap.size w4.heap.size w7.heap.size (.int .i64 X) (.int .i64 Y) (.int .i64 0) (.int .i64 0) (.int .i64 E) (.int .i64 S) W) => HM.call C6.out W h)
  have V5 := Lib.hid (fun W (h : W.cell? ⟨w3.heap.size, 0, none⟩ = some (.int .i64 X) ∧ W.cell? ⟨w3.heap.size, 1, none⟩ = some (.int .i64 Y) ∧ W.cell? ⟨w7.heap.size, 0, none⟩ = some (.int .i64 E) ∧ W.cell? ⟨w7.heap.size, 1, none⟩ = some (.int .i64 S) ∧ HM w w3.heap.size w4.heap.size w7.heap.size (.int .i64 X) (.int .i64 Y) (.int .i64 0) (.int .i64 0) (.int .i64 E) (.int .i64 S) W) => HM.call C5'.out W h)
  obtain ⟨s1, s2, s3, s4, s5⟩ := HM0.out.all
  clear HM0 C6 C5'
  go_region_held3 (fun W => W.cell? ⟨w3.heap.size, 0, none⟩ = some (.int .i64 X) ∧ W.cell? ⟨w3.heap.size, 1, none⟩ = some (.int .i64 Y) ∧ W.cell? ⟨w7.heap.size, 0, none⟩ = some (.int .i64 E) ∧ W.cell? ⟨w7.heap.size, 1, none⟩ = some (.int .i64 S) ∧ HM w w3.heap.size w4.heap.size w7.heap.size (.int .i64 X) (.int .i64 Y) (.int .i64 0) (.int .i64 0) (.int .i64 E) (.int .i64 S) W)
    (((try dsimp only); (refine ⟨?_, ?_, ?_, ?_, ?_⟩ <;> (first | assumption | go_keep | exact HM.drew ‹_›))))
    ((first
      | (go_at_call 18; refine (V6.out _ ?_).mono ?_; assumption; rintro e' w20 ⟨rfl, h1, h2, h3, h4, h5⟩)
      | (go_at_call 16; refine (V5.out _ ?_).mono ?_; assumption; rintro e' w21 ⟨rfl, h1, h2, h3, h4, h5⟩)))
  have K2 := Lib.hid h5.k2
  have B21 := Lib.hid h5.b
  have c20 := K2.out.cell 0
  have c21 := K2.out.cell 1
  clear h1 h2 h3 h4 h5 s1 s2 s3 s4 s5 V6 V5
  go_wp2_with fail
  refine (C7.out _ (HW.out.below B21.out)).mono ?_
  rintro e w22 ⟨rfl, hb⟩
  clear c20 c21
  have ha := below_alloc w22 (.cells #[.int .i64 0, .int .i64 0] 25)
  replace K2 := Lib.hid ((K2.out.below hb K2.out.lt).below ha (K2.out.below hb K2.out.lt).lt)
  have K4 := Lib.hid (Dg.Blk.new w22 25 #[.int .i64 0, .int .i64 0])
  have B22 := Lib.hid (below_trans (below_trans B21.out hb) ha)
  clear hb ha B21 C7
  have c20 := K2.out.cell 0
  have c21 := K2.out.cell 1
  have c40 := K4.out.cell 0
  have c41 := K4.out.cell 1
  go_wp2_with fail
  refine (C8.out _ (HW.out.below B22.out)).mono ?_
  rintro e w23 ⟨rfl, hb⟩
  clear c20 c21 c40 c41
  replace K2 := Lib.hid (K2.out.below hb K2.out.lt)
  replace K4 := Lib.hid (K4.out.below hb K4.out.lt)
  have B23 := Lib.hid (below_trans B22.out hb)
  clear hb B22 C8
  have c20 := K2.out.cell 0
  have c21 := K2.out.cell 1
  have c40 := K4.out.cell 0
  have c41 := K4.out.cell 1
  go_wp2_with fail
  go_ret
  exact ⟨rfl, B23.out⟩
theorem walk (S : ByteArray) (hS : S.size ≤ 140737488355328) (x : Int) (hx : I64 x) (T : ByteArray) (hT : T.size ≤ 140737488355328) (U : ByteArray) (hU : U.size ≤ 140737488355328) (w : World) (hw : Wd w) :
    Calls Tryd.prog 4 #[.string S, .int .i64 x, .string T, .string U] w (IsTrue w) := by
  by_cases h : S.size + T.size + U.size ≤ 2000
  · have h2 : S.data.toList.length + T.data.toList.length + U.data.toList.length ≤ 2000 := by rw [← Lib.size_eq, ← Lib.size_eq, ← Lib.size_eq]; exact h
    by_cases h1 : okx x = true
    · have := main_pos S.data.toList T.data.toList U.data.toList x h2 h1 w hw
      rwa [Dg.sv_of, Dg.sv_of, Dg.sv_of] at this
    · rw [okx_iff] at h1
      by_cases h3 : x < 1
      · have := main_low S.data.toList T.data.toList U.data.toList x h2 h3 w hw
        rwa [Dg.sv_of, Dg.sv_of, Dg.sv_of] at this
      · have := main_high S.data.toList T.data.toList U.data.toList x h2 (by omega) w hw
        rwa [Dg.sv_of, Dg.sv_of, Dg.sv_of] at this
  · exact long S T U x h hS hT hU w hw
set_option maxRecDepth 100000 in
theorem lifted (os : Os) (started : os.Started) (H : Type) (enc : TypeId × Value → H) :
    ReturnsInHanded {} Tryd.checked os 4 .any (fun w args => (Rows.signHoldsSpec.pre enc Tryd.prog Tryd.f4 Rows.signHoldsRow.domain false w args ∧ laidMetH Tryd.prog Rows.signHoldsRow.laid w) ∧ sizedMet enc Tryd.prog Tryd.f4 (OpenSpec.ofChange Rows.signHoldsSpec) false w args)
      (Rows.signHoldsSpec.post enc Tryd.prog Tryd.f4 false true false false) := by
  refine returns_both (C := Tryd.checked) (X := fun w _ => laidMetH Tryd.prog Rows.signHoldsRow.laid w) (fun _ _ _ hh h => h.of_heap hh.symm) own started (by kernel_rfl) Tryd.func4
    (ChangeSpec.witness_shaped (enc := enc) (C := Tryd.checked) (os := os) (X := fun w _ => laidMetH Tryd.prog Rows.signHoldsRow.laid w) false (World.laidAll Tryd.prog os Rows.signHoldsRow.laid) #[.string ⟨#[]⟩, .int .i64 0, .string ⟨#[]⟩, .string ⟨#[]⟩] 8 (World.laidAll_os _ _ _)
      (World.shaped_of_ZipB (by kernel_rfl) (by kernel_rfl)) (by kernel_rfl) (by kernel_rfl) (by kernel_rfl)
      (by rw [MakeChecks.laidMetH_plain _ _ _ (by kernel_rfl)]; exact laidMet_laidAll _ (by kernel_rfl) (by kernel_rfl))) ?_
  intro W base args ds gs before hval0 hW hsh hX hsz0
  have hsz : (DataW.weightsEach Tryd.prog (Tryd.f4.params.toList ++ Rows.signHoldsSpec.plain.varTypes Tryd.prog) (ds ++ gs)).all (· ≤ reachBytes) = true := hsz0
  clear hsz0
  have hWd : Wd W := ⟨tb_of_laid hX, mx_of_shape hsh⟩
  have hval : ∀ (j : Nat) t v, Tryd.f4.params[j]? = some t → args[j]? = some v → Value.okWide Tryd.prog W .any base t v := hval0
  have hW' := hW
  obtain ⟨p, q, hA0, hV, rfl, hfz, hnd⟩ := hW
  have hA : DataW.TrodAll enc Tryd.prog W 0 (fun _ => true) true Tryd.f4.params.toList args.toList ds p := hA0
  rw [Tryd.params4] at hA hval hsz
  obtain ⟨v0, vs0, d0, ds0, p0, q0, hargs, rfl, rfl, h0, r0⟩ := trodAll_cons hA
  obtain ⟨v1, vs1, d1, ds1, p1, q1, rfl, rfl, rfl, h1, r1⟩ := trodAll_cons r0
  obtain ⟨v2, vs2, d2, ds2, p2, q2, rfl, rfl, rfl, h2, r2⟩ := trodAll_cons r1
  obtain ⟨v3, vs3, d3, ds3, p3, q3, rfl, rfl, rfl, h3, r3⟩ := trodAll_cons r2
  obtain ⟨rfl, rfl, rfl⟩ := trodAll_nil r3
  obtain rfl : args = #[v0, v1, v2, v3] := by cases args; simp_all
  obtain ⟨rfl, rfl⟩ := trodVars_none hV
  obtain ⟨s0, rfl, rfl, rfl, ws0⟩ := Go.ChangeMaps.open_string Tryd.underlying9 (hval 0 9 v0 rfl rfl) h0
  have z0 : s0.size ≤ 140737488355328 := by rw [Lib.size_eq]; exact reach_le (sized_string hsz (j := 0) (t := 9) rfl rfl)
  obtain ⟨a1, rfl, rfl, rfl, w1⟩ := open_int Tryd.underlying3 (hval 1 3 v1 rfl rfl) h1
  obtain ⟨s2, rfl, rfl, rfl, ws2⟩ := Go.ChangeMaps.open_string Tryd.underlying9 (hval 2 9 v2 rfl rfl) h2
  have z2 : s2.size ≤ 140737488355328 := by rw [Lib.size_eq]; exact reach_le (sized_string hsz (j := 2) (t := 9) rfl rfl)
  obtain ⟨s3, rfl, rfl, rfl, ws3⟩ := Go.ChangeMaps.open_string Tryd.underlying9 (hval 3 9 v3 rfl rfl) h3
  have z3 : s3.size ≤ 140737488355328 := by rw [Lib.size_eq]; exact reach_le (sized_string hsz (j := 3) (t := 9) rfl rfl)
  clear hA0 hval0
  simp only [List.append_nil] at hW'
  refine (walk s0 z0 a1 (Gp.i64_of_wf w1) s2 z2 s3 z3 W hWd).mono fun e W' ⟨he, hb⟩ => ?_
  subst he
  exact ⟨_, rfl, _, _, _, [], _, [], hW', (trodAll_cons_mk (shut_bool Tryd.underlying4 _) trodAll_mk0), (trodAll_cons_mk (Go.ChangeMaps.shut_string Tryd.underlying9 ws0) (trodAll_cons_mk (shut_int Tryd.underlying3 w1) (trodAll_cons_mk (Go.ChangeMaps.shut_string Tryd.underlying9 ws2) (trodAll_cons_mk (Go.ChangeMaps.shut_string Tryd.underlying9 ws3) trodAll_mk0)))), rfl, hb.frame _, fun h => by cases h⟩

theorem over : Rows.SignHoldsSaid :=
  OpenClaim.holds_of_wide 4 Tryd.f4 rfl rfl rfl rfl rfl rfl rfl ⟨rfl, rfl, rfl, rfl, rfl⟩ rfl rfl rfl rfl rfl (by kernel_rfl) Tryd.func4 (by kernel_rfl)
    (of_decide_eq_true (by kernel_rfl)) (by unfold Func.isWrapper; first | (rw [if_pos (by decide +kernel)]; kernel_rfl) | (rw [if_neg (by decide +kernel)]; exact ⟨rfl, rfl⟩))
    (fun os started H enc _ => lifted os started H enc)
theorem proved : Rows.SignHoldsCardSaid :=
  Claim7.holds_tied_plain_at .later [] [.data, .data, .data, .pinned] true Rows.signHoldsCard.stood.harness false over (fun _ h => by cases h) (by kernel_rfl) (fun _ h => by cases h) signHolds_row_tie rfl ⟨rfl, rfl⟩ (by kernel_rfl) rfl
    (fun f fn hf hfn => by
      obtain rfl : f = 4 := Option.some.inj ((show Tryd.prog.funcNamed "bourne/bournelaw05.SignHolds" = some 4 by kernel_rfl).symm.trans hf) |>.symm
      obtain rfl : fn = Tryd.f4 := (Option.some.inj (Tryd.func4.symm.trans hfn)).symm
      exact ⟨by kernel_rfl, fun j t ht => by
        rw [Tryd.params4] at ht
        have hm : t ∈ [9, 3, 9, 9] := by simpa using Array.mem_of_getElem? ht
        have hall : ([9, 3, 9, 9].all fun u => !Tryd.prog.wantsStandIn u) = true := by kernel_rfl
        exact (show Tryd.prog.wantsStandIn t = false by simpa using List.all_eq_true.1 hall t hm)⟩)
    (by kernel_rfl)
end Go.Proofs.YtfmjankmfddefaaDoor.signHolds
