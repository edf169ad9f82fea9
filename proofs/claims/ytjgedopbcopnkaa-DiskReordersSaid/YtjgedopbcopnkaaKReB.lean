/- The statement DiskReorders: the walk. Conditions: the texts have at most 2^47 bytes. -/
import Derived.Test.YtjgedopbcopnkaaKSmall
import Derived.Test.YtjgedopbcopnkaaKReF
namespace Go.Proofs.Ytjgedopbcopnkaa.diskReorders
open Go.RowKit Km Dk
set_option linter.unusedVariables false

def IsTrue (w : World) (e : Ending) (w' : World) : Prop := e = .returned (.bool true) ∧ Below w.heap.size w w'
theorem sum2 (x y : Nat) (hx : x ≤ 140737488355328) (hy : y ≤ 140737488355328) : wrap64 (((x : Nat) : Int) + ((y : Nat) : Int)) = ((x : Nat) : Int) + ((y : Nat) : Int) := by unfold wrap64; omega
theorem sum3 (x y z : Nat) (hx : x ≤ 140737488355328) (hy : y ≤ 140737488355328) (hz : z ≤ 140737488355328) : wrap64 (((x : Nat) : Int) + ((y : Nat) : Int) + ((z : Nat) : Int)) = ((x : Nat) : Int) + ((y : Nat) : Int) + ((z : Nat) : Int) := by unfold wrap64; omega
section
variable {w : World} {S T C : ByteArray} {va : Option Addr} {n vc : Nat}

theorem bad0 (tA : (S.toList == []) = true) : Calls Try.prog 6 #[.string S, .string T, .string C, .slice va n vc] w (IsTrue w) := by
  have SM := Lib.hid (fun W => small_any W)
  go_enter Try.func6, Try.ntmps6
  go_wp2_with fail
  refine (SM.out _).mono ?_
  rintro e w1 ⟨rfl, hb1⟩
  go_wp2_with fail
  refine (new_any (A := fun b => w1.heap.size ≤ b) (fun b hb => hb)).mono ?_
  rintro e w2 ⟨rfl, _, hb2⟩
  have HB := Lib.hid (below_trans hb1 hb2)
  clear hb1 hb2
  go_wp2_with fail
  go_ret
  exact ⟨rfl, HB.out⟩

theorem bad1 (tA : (S.toList == []) = false) (tB : (T.toList == []) = true) : Calls Try.prog 6 #[.string S, .string T, .string C, .slice va n vc] w (IsTrue w) := by
  have SM := Lib.hid (fun W => small_any W)
  go_enter Try.func6, Try.ntmps6
  go_wp2_with fail
  refine (SM.out _).mono ?_
  rintro e w1 ⟨rfl, hb1⟩
  go_wp2_with fail
  refine (new_any (A := fun b => w1.heap.size ≤ b) (fun b hb => hb)).mono ?_
  rintro e w2 ⟨rfl, _, hb2⟩
  have HB := Lib.hid (below_trans hb1 hb2)
  clear hb1 hb2
  go_wp2_with fail
  go_ret
  exact ⟨rfl, HB.out⟩

theorem bad2 (tA : (S.toList == []) = false) (tB : (T.toList == []) = false) (tC : (C.toList == []) = true) : Calls Try.prog 6 #[.string S, .string T, .string C, .slice va n vc] w (IsTrue w) := by
  have SM := Lib.hid (fun W => small_any W)
  go_enter Try.func6, Try.ntmps6
  go_wp2_with fail
  refine (SM.out _).mono ?_
  rintro e w1 ⟨rfl, hb1⟩
  go_wp2_with fail
  refine (new_any (A := fun b => w1.heap.size ≤ b) (fun b hb => hb)).mono ?_
  rintro e w2 ⟨rfl, _, hb2⟩
  have HB := Lib.hid (below_trans hb1 hb2)
  clear hb1 hb2
  go_wp2_with fail
  go_ret
  exact ⟨rfl, HB.out⟩

theorem bad3 (h1 : S.size ≤ 140737488355328) (h2 : T.size ≤ 140737488355328) (h3 : C.size ≤ 140737488355328) (tA : (S.toList == []) = false) (tB : (T.toList == []) = false) (tC : (C.toList == []) = false) (tS : decide ((60000 : Int) < ((S.size : Nat) : Int) + ((T.size : Nat) : Int) + ((C.size : Nat) : Int)) = true) : Calls Try.prog 6 #[.string S, .string T, .string C, .slice va n vc] w (IsTrue w) := by
  have SM := Lib.hid (fun W => small_any W)
  have hw2 := sum2 S.size T.size h1 h2
  have hw3 := sum3 S.size T.size C.size h1 h2 h3
  clear h1 h2 h3
  go_enter Try.func6, Try.ntmps6
  go_wp2_with fail
  refine (SM.out _).mono ?_
  rintro e w1 ⟨rfl, hb1⟩
  go_wp2_with fail
  refine (new_any (A := fun b => w1.heap.size ≤ b) (fun b hb => hb)).mono ?_
  rintro e w2 ⟨rfl, _, hb2⟩
  have HB := Lib.hid (below_trans hb1 hb2)
  clear hb1 hb2
  go_wp2_with fail
  go_ret
  exact ⟨rfl, HB.out⟩

theorem bad4 (h1 : S.size ≤ 140737488355328) (h2 : T.size ≤ 140737488355328) (h3 : C.size ≤ 140737488355328) (tA : (S.toList == []) = false) (tB : (T.toList == []) = false) (tC : (C.toList == []) = false) (tS : decide ((60000 : Int) < ((S.size : Nat) : Int) + ((T.size : Nat) : Int) + ((C.size : Nat) : Int)) = false) (tN : (((n : Nat) : Int) != 3) = true) : Calls Try.prog 6 #[.string S, .string T, .string C, .slice va n vc] w (IsTrue w) := by
  have SM := Lib.hid (fun W => small_any W)
  have hw2 := sum2 S.size T.size h1 h2
  have hw3 := sum3 S.size T.size C.size h1 h2 h3
  clear h1 h2 h3
  go_enter Try.func6, Try.ntmps6
  go_wp2_with fail
  refine (SM.out _).mono ?_
  rintro e w1 ⟨rfl, hb1⟩
  go_wp2_with fail
  refine (new_any (A := fun b => w1.heap.size ≤ b) (fun b hb => hb)).mono ?_
  rintro e w2 ⟨rfl, _, hb2⟩
  have HB := Lib.hid (below_trans hb1 hb2)
  clear hb1 hb2
  go_wp2_with fail
  go_ret
  exact ⟨rfl, HB.out⟩

end
end Go.Proofs.Ytjgedopbcopnkaa.diskReorders
