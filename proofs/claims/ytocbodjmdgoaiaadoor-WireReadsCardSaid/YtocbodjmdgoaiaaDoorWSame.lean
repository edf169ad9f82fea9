/- The equality of lists that the laws of wire ask, and the fixed examples that each law of wire checks first. Conditions: those of each. -/
import Derived.Test.YtocbodjmdgoaiaaDoorWLaw
namespace Go.Proofs.YtocbodjmdgoaiaaDoor
open Go.RowKit Wm
set_option linter.unusedVariables false

theorem drewN2 (w : World) (a b : Nat) : (w.drewN a).drewN b = w.drewN (a + b) := World.drewN_drewN w a b
theorem Rd.drewN {w : World} {A : Option Addr} {n : Nat} {xs : List Value} (h : Rd w A n xs) (m : Nat) : Rd (w.drewN m) A n xs := h

set_option maxHeartbeats 1000000 in
theorem same_nums {A A' : Option Addr} {n c c' : Nat} {zs : List Int} {w : World} (h : Rd w A n (iv zs)) (h' : Rd w A' n (iv zs)) (hn : n ≤ 1048576) :
    Calls Tryd.prog 28 #[.slice A n c, .slice A' n c'] w fun e w' => e = .returned (.bool true) ∧ ∃ m, w' = w.drewN m := by
  have d0 : ((n : Int) != (n : Int)) = false := by simp
  have d1 : (n != n) = false := by simp
  have HR := Lib.hid h
  have HR' := Lib.hid h'
  clear h h'
  go_enter Tryd.func28, Tryd.ntmps28
  go_wp2_with fail
  go_loopw [5] (fun i wr => ∃ k m : Nat, k ≤ n ∧ i = .int .i64 k ∧ wr = w.drewN m) (fun i _ => n - (intOf i).toNat)
  case atStart => exact ⟨0, 0, Nat.zero_le _, rfl, rfl⟩
  case round =>
    obtain ⟨k, m, hk, rfl, rfl⟩ := hrel
    by_cases hlt : k < n
    · obtain ⟨ad, u, rfl, _, hx, hc⟩ := HR.out.at_ hlt
      obtain ⟨ad', u', rfl, _, hx', hc'⟩ := HR'.out.at_ hlt
      obtain rfl : u = u' := Option.some.inj (hx.symm.trans hx')
      obtain ⟨z, rfl⟩ : ∃ z, u = .int .i64 z := by
        rw [iv, List.getElem?_map] at hx
        obtain ⟨z, _, rfl⟩ := Option.map_eq_some_iff.1 hx
        exact ⟨z, rfl⟩
      have e1 : (z != z) = false := by simp
      have e2 : (z == z) = true := by simp
      clear hx hx'
      go_wp2_with fail
      go_quiet (fail)
      go_wp2_with fail
      go_roundw
      case rel => exact ⟨k + 1, _, by omega, by go_num, rfl⟩
      case measure => simp [intOf]; omega
    · obtain rfl : k = n := by omega
      go_wp2_with fail
      go_ret
      exact ⟨rfl, m, rfl⟩
set_option maxHeartbeats 1000000 in
theorem same_texts {A A' : Option Addr} {n c c' : Nat} {zs : List Bs} {w : World} (h : Rd w A n (tv zs)) (h' : Rd w A' n (tv zs)) (hn : n ≤ 1048576) :
    Calls Tryd.prog 31 #[.slice A n c, .slice A' n c'] w fun e w' => e = .returned (.bool true) ∧ ∃ m, w' = w.drewN m := by
  have d0 : ((n : Int) != (n : Int)) = false := by simp
  have d1 : (n != n) = false := by simp
  have HR := Lib.hid h
  have HR' := Lib.hid h'
  clear h h'
  go_enter Tryd.func31, Tryd.ntmps31
  go_wp2_with fail
  go_loopw [5] (fun i wr => ∃ k m : Nat, k ≤ n ∧ i = .int .i64 k ∧ wr = w.drewN m) (fun i _ => n - (intOf i).toNat)
  case atStart => exact ⟨0, 0, Nat.zero_le _, rfl, rfl⟩
  case round =>
    obtain ⟨k, m, hk, rfl, rfl⟩ := hrel
    by_cases hlt : k < n
    · obtain ⟨ad, u, rfl, _, hx, hc⟩ := HR.out.at_ hlt
      obtain ⟨ad', u', rfl, _, hx', hc'⟩ := HR'.out.at_ hlt
      obtain rfl : u = u' := Option.some.inj (hx.symm.trans hx')
      obtain ⟨z, rfl⟩ : ∃ z, u = .string z := by
        rw [tv, List.getElem?_map] at hx
        obtain ⟨z, _, rfl⟩ := Option.map_eq_some_iff.1 hx
        exact ⟨sv z, rfl⟩
      have e1 : (z.toList != z.toList) = false := by simp
      have e2 : (z.toList == z.toList) = true := by simp
      have e3 : (!z.toList == z.toList) = false := by simp
      clear hx hx'
      go_wp2_with fail
      go_quiet (fail)
      go_wp2_with fail
      go_roundw
      case rel => exact ⟨k + 1, _, by omega, by go_num, rfl⟩
      case measure => simp [intOf]; omega
    · obtain rfl : k = n := by omega
      go_wp2_with fail
      go_ret
      exact ⟨rfl, m, rfl⟩

theorem done_yes {w : World} {r : Nat} (h : Rdr w r [] false) : Calls Tryd.prog 36 #[.pointer (some ⟨r, 0, none⟩)] w fun e w' => e = .returned (.bool true) ∧ w = w' := done_any h
def IsTrue (w : World) (e : Ending) (w' : World) : Prop := e = .returned (.bool true) ∧ Below w.heap.size w w'
theorem only_below' {a w : World} {g : Nat} (h : a.grownBy w (some g)) {B : World} (hB : Below B.heap.size B a) (hg : B.heap.size ≤ g) : Below B.heap.size B w :=
  hB.trans (only_below h hg hB.size)

set_option maxHeartbeats 1600000 in
set_option maxRecDepth 100000 in
theorem small_any {w : World} (hm : Mx w) : Calls Tryd.prog 8 #[] w (IsTrue w) := by
  have o1 := fun W => open_any [129, 5, 126, 97, 0, 1] W
  have o2 := fun W => open_any [127] W
  have d1 : decI [129, 5, 126, 97, 0, 1] = some (5, [126, 97, 0, 1]) := by decide
  have d2 : decI [127] = some (-1, []) := by decide
  have HM := Lib.hid hm
  have O1 := Lib.hid o1
  have O2 := Lib.hid o2
  have D1 := Lib.hid d1
  have D2 := Lib.hid d2
  clear hm o1 o2 d1 d2
  have f1 : (sv [130, 1, 0]).toList = [130, 1, 0] := sv_toList _
  have f2 : (sv [126, 254]).toList = [126, 254] := sv_toList _
  have f3 : (sv [97, 0, 1]).toList = [97, 0, 1] := sv_toList _
  have f4 : (sv []).toList.isEmpty = true := by rw [sv_toList]; rfl
  go_enter Tryd.func8, Tryd.ntmps8
  go_wp2_with fail
  refine (O1.out _).mono ?_
  rintro e w1 ⟨rfl, r1, b1, s1⟩
  have R1 := Lib.hid r1
  have B1 := Lib.hid b1
  have S1 := Lib.hid s1
  clear r1 b1 s1
  go_wp2_with fail
  refine (rnum_yes R1.out (by decide) D1.out (by decide)).mono ?_
  rintro e w2 ⟨rfl, r2, g2⟩
  have B2 := Lib.hid (only_below' g2 B1.out (Nat.le_refl _))
  clear r2 g2
  go_wp2_with fail
  refine (O2.out _).mono ?_
  rintro e w3 ⟨rfl, r3, b3, s3⟩
  have R3 := Lib.hid r3
  have B3 := Lib.hid (below_trans B2.out b3)
  have S3 := B2.out.size
  clear r3 b3 s3
  go_wp2_with fail
  refine (rint_yes R3.out (by decide) D2.out).mono ?_
  rintro e w4 ⟨rfl, r4, g4⟩
  have R4 := Lib.hid r4
  have B4 := Lib.hid (only_below' g4 B3.out S3)
  clear r4 g4
  go_wp2_with fail
  refine (done_yes R4.out).mono ?_
  rintro e w5 ⟨rfl, rfl⟩
  go_wp2_with fail
  refine (num_pos 256 (by decide) (by decide) _).mono ?_
  rintro e w5 ⟨rfl, b5⟩
  have B5 := Lib.hid (below_trans B4.out b5)
  clear b5
  rw [show encI 256 = [130, 1, 0] by decide]
  go_wp2_with fail
  refine (int_any (-2) (by decide) _).mono ?_
  rintro e w6 ⟨rfl, b6⟩
  have B6 := Lib.hid (below_trans B5.out b6)
  clear b6
  rw [show encI (-2) = [126, 254] by decide]
  go_wp2_with fail
  refine (text_any [97] (by decide) (HM.out.self B6.out)).mono ?_
  rintro e w7 ⟨rfl, b7⟩
  have B7 := Lib.hid (below_trans B6.out b7)
  clear b7
  rw [show encT [97] = [97, 0, 1] by decide]
  go_wp2_with fail
  refine (num_neg (-1) (by decide) _).mono ?_
  rintro e w8 ⟨rfl, b8⟩
  have B8 := Lib.hid (below_trans B7.out b8)
  clear b8
  go_wp2_with fail
  go_ret
  exact ⟨rfl, B8.out⟩
end Go.Proofs.YtocbodjmdgoaiaaDoor
