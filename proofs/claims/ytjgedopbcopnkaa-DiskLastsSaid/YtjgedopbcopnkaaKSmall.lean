/- small: the document's small example is right. Conditions: none. -/
import Derived.Test.YtjgedopbcopnkaaKAt
namespace Go.Proofs.Ytjgedopbcopnkaa.Dk
open Go.RowKit Km
set_option linter.unusedVariables false

def m0 : St := Km.new
def m1 : St := appS m0 1 [104, 101, 108, 108, 111]
def m2 : St := fluS m1 1
def m3 : St := appS m2 1 [121, 111, 117]
def m4 : St := crashS [1] m3
def m5 : St := m4
def m6 : St := startS m5
def m7 : St := m6
def m8 : St := loseS m7 1
def m9 : St := fluS m8 1
def m10 : St := appS m9 2 [120]
def m11 : St := turS m10 1 2
def m12 : St := fluS m11 2
def m13 : St := turS m12 1 2
def m14 : St := m13
def m15 : St := appS m14 3 [100, 101, 102, 103]
def m16 : St := appS m15 3 [104, 105]
def m17 : St := crashS [1, 2] m16
def m18 : St := startS m17
def m19 : St := m18
def m20 : St := appS m19 8 []
def m21 : St := cutS m20 1 2
theorem e0 : appE m0 1 [104, 101, 108, 108, 111] = 0 := by decide +kernel
theorem e1 : fluE m1 1 = 0 := by decide +kernel
theorem e2 : appE m2 1 [121, 111, 117] = 0 := by decide +kernel
theorem e4 : readE m4 1 = 9 := by decide +kernel
theorem b4 : readB m4 1 = [] := by decide +kernel
theorem e5 : m5.down = true := by decide +kernel
theorem e7 : readE m6 1 = 0 := by decide +kernel
theorem b7 : readB m6 1 = [104, 101, 108, 108, 111, 121] := by decide +kernel
theorem e9 : fluE m8 1 = 13 := by decide +kernel
theorem e10 : appE m9 2 [120] = 0 := by decide +kernel
theorem e11 : turE m10 1 2 = 10 := by decide +kernel
theorem e12 : fluE m11 2 = 0 := by decide +kernel
theorem e13 : turE m12 1 2 = 0 := by decide +kernel
theorem e14 : readE m13 1 = 0 := by decide +kernel
theorem b14 : readB m13 1 = [120] := by decide +kernel
theorem e15 : appE m14 3 [100, 101, 102, 103] = 0 := by decide +kernel
theorem e16 : appE m15 3 [104, 105] = 0 := by decide +kernel
theorem e19 : readE m18 3 = 0 := by decide +kernel
theorem b19 : readB m18 3 = [100, 0, 0, 0, 104, 105] := by decide +kernel
theorem e20 : sizeN m19 2 = 0 := by decide +kernel
theorem e21 : appE m19 8 [] = 1 := by decide +kernel
theorem e22 : cutE m20 1 2 = 1 := by decide +kernel
set_option maxHeartbeats 4000000 in
theorem small_any (w : World) : Calls Try.prog 7 #[] w fun e w' => e = .returned (.bool true) ∧ Below w.heap.size w w' := by
  have t1 : (sv [120]).toList = [120] := sv_toList _
  have t2 : (sv [104, 101, 108, 108, 111, 121]).toList = [104, 101, 108, 108, 111, 121] := sv_toList _
  have t3 : (sv [100, 0, 0, 0, 104, 105]).toList = [100, 0, 0, 0, 104, 105] := sv_toList _
  go_enter Try.func7, Try.ntmps7
  go_wp2_with fail
  refine (new_any (A := fun b => w.heap.size ≤ b) (fun b hb => hb)).mono ?_
  rintro e w0 ⟨rfl, hd, hf⟩
  have D0 : Hid (Dsk (fun b => w.heap.size ≤ b) w.heap.size m0 w0) := Lib.hid hd
  have FF := Lib.hid ((Fr.refl (fun b => w.heap.size ≤ b) w).below hf)
  clear hd hf
  go_wp2_with fail
  refine (append_at D0.out 1 [104, 101, 108, 108, 111] 0 e0 (s' := m1) rfl (by decide)).mono ?_
  rintro e w1 ⟨rfl, hd, hf⟩
  have D1 := Lib.hid hd
  replace FF := Lib.hid (FF.out.trans hf)
  clear hd hf D0
  go_wp2_with fail
  refine (flush_at D1.out 1 0 e1 (s' := m2) rfl).mono ?_
  rintro e w2 ⟨rfl, hd, hf⟩
  have D2 := Lib.hid hd
  replace FF := Lib.hid (FF.out.trans hf)
  clear hd hf D1
  go_wp2_with fail
  refine (append_at D2.out 1 [121, 111, 117] 0 e2 (s' := m3) rfl (by decide)).mono ?_
  rintro e w3 ⟨rfl, hd, hf⟩
  have D3 := Lib.hid hd
  replace FF := Lib.hid (FF.out.trans hf)
  clear hd hf D2
  go_wp2_with fail
  refine (crash_lit D3.out [1] rfl rfl (by intro z hz; simp at hz; unfold J64; omega) (s' := m4) rfl).mono ?_
  rintro e w4 ⟨rfl, hd, hf⟩
  have D4 := Lib.hid hd
  replace FF := Lib.hid (FF.out.trans hf)
  clear hd hf D3
  go_wp2_with fail
  refine (read_at (s := m4) D4.out 1 9 [] e4 b4).mono ?_
  rintro e w5 ⟨rfl, hd, hf⟩
  have D5 := Lib.hid hd
  replace FF := Lib.hid (FF.out.trans hf)
  clear hd hf D4
  go_wp2_with fail
  refine (down_at D5.out true e5).mono ?_
  rintro e w6 ⟨rfl, rfl⟩
  go_wp2_with fail
  refine (start_at D5.out (s' := m6) rfl).mono ?_
  rintro e w7 ⟨rfl, hd, hf⟩
  have D6 := Lib.hid hd
  replace FF := Lib.hid (FF.out.trans hf)
  clear hd hf D5
  go_wp2_with fail
  refine (read_at (s := m6) D6.out 1 0 [104, 101, 108, 108, 111, 121] e7 b7).mono ?_
  rintro e w8 ⟨rfl, hd, hf⟩
  have D7 := Lib.hid hd
  replace FF := Lib.hid (FF.out.trans hf)
  clear hd hf D6
  go_wp2_with fail
  refine (lose_at D7.out 1 (by unfold J64; omega) (s' := m8) rfl).mono ?_
  rintro e w9 ⟨rfl, hd, hf⟩
  have D8 := Lib.hid hd
  replace FF := Lib.hid (FF.out.trans hf)
  clear hd hf D7
  go_wp2_with fail
  refine (flush_at D8.out 1 13 e9 (s' := m9) rfl).mono ?_
  rintro e w10 ⟨rfl, hd, hf⟩
  have D9 := Lib.hid hd
  replace FF := Lib.hid (FF.out.trans hf)
  clear hd hf D8
  go_wp2_with fail
  refine (append_at D9.out 2 [120] 0 e10 (s' := m10) rfl (by decide)).mono ?_
  rintro e w11 ⟨rfl, hd, hf⟩
  have D10 := Lib.hid hd
  replace FF := Lib.hid (FF.out.trans hf)
  clear hd hf D9
  go_wp2_with fail
  refine (turn_at D10.out 1 2 10 e11 (s' := m11) rfl).mono ?_
  rintro e w12 ⟨rfl, hd, hf⟩
  have D11 := Lib.hid hd
  replace FF := Lib.hid (FF.out.trans hf)
  clear hd hf D10
  go_wp2_with fail
  refine (flush_at D11.out 2 0 e12 (s' := m12) rfl).mono ?_
  rintro e w13 ⟨rfl, hd, hf⟩
  have D12 := Lib.hid hd
  replace FF := Lib.hid (FF.out.trans hf)
  clear hd hf D11
  go_wp2_with fail
  refine (turn_at D12.out 1 2 0 e13 (s' := m13) rfl).mono ?_
  rintro e w14 ⟨rfl, hd, hf⟩
  have D13 := Lib.hid hd
  replace FF := Lib.hid (FF.out.trans hf)
  clear hd hf D12
  go_wp2_with fail
  refine (read_at (s := m13) D13.out 1 0 [120] e14 b14).mono ?_
  rintro e w15 ⟨rfl, hd, hf⟩
  have D14 := Lib.hid hd
  replace FF := Lib.hid (FF.out.trans hf)
  clear hd hf D13
  go_wp2_with fail
  refine (append_at D14.out 3 [100, 101, 102, 103] 0 e15 (s' := m15) rfl (by decide)).mono ?_
  rintro e w16 ⟨rfl, hd, hf⟩
  have D15 := Lib.hid hd
  replace FF := Lib.hid (FF.out.trans hf)
  clear hd hf D14
  go_wp2_with fail
  refine (append_at D15.out 3 [104, 105] 0 e16 (s' := m16) rfl (by decide)).mono ?_
  rintro e w17 ⟨rfl, hd, hf⟩
  have D16 := Lib.hid hd
  replace FF := Lib.hid (FF.out.trans hf)
  clear hd hf D15
  go_wp2_with fail
  refine (crash_lit D16.out [1, 2] rfl rfl (by intro z hz; simp at hz; unfold J64; omega) (s' := m17) rfl).mono ?_
  rintro e w18 ⟨rfl, hd, hf⟩
  have D17 := Lib.hid hd
  replace FF := Lib.hid (FF.out.trans hf)
  clear hd hf D16
  go_wp2_with fail
  refine (start_at D17.out (s' := m18) rfl).mono ?_
  rintro e w19 ⟨rfl, hd, hf⟩
  have D18 := Lib.hid hd
  replace FF := Lib.hid (FF.out.trans hf)
  clear hd hf D17
  go_wp2_with fail
  refine (read_at (s := m18) D18.out 3 0 [100, 0, 0, 0, 104, 105] e19 b19).mono ?_
  rintro e w20 ⟨rfl, hd, hf⟩
  have D19 := Lib.hid hd
  replace FF := Lib.hid (FF.out.trans hf)
  clear hd hf D18
  go_wp2_with fail
  refine (size_at D19.out 2 0 e20).mono ?_
  rintro e w21 ⟨rfl, rfl⟩
  go_wp2_with fail
  refine (append_at D19.out 8 [] 1 e21 (s' := m20) rfl (by decide)).mono ?_
  rintro e w22 ⟨rfl, hd, hf⟩
  have D20 := Lib.hid hd
  replace FF := Lib.hid (FF.out.trans hf)
  clear hd hf D19
  go_wp2_with fail
  refine (cut_at D20.out 1 2 1 e22 (s' := m21) rfl).mono ?_
  rintro e w23 ⟨rfl, hd, hf⟩
  have D21 := Lib.hid hd
  replace FF := Lib.hid (FF.out.trans hf)
  clear hd hf D20
  go_wp2_with fail
  --GG
  go_ret
  exact ⟨rfl, FF.out.to_below (Nat.le_refl _)⟩
end Go.Proofs.Ytjgedopbcopnkaa.Dk
