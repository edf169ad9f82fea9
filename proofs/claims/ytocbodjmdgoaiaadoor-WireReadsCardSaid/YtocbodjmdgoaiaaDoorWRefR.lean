/- The reference's reader: Open, fail, Left, Done, Int and Num read what the program's reader reads. Conditions: the text has at most 2^20 bytes; the reader lies in a block of its own. -/
import Derived.Test.YtocbodjmdgoaiaaDoorWRefI
import Derived.Deep.RegionHeld3
namespace Go.Proofs.YtocbodjmdgoaiaaDoor
open Go.RowKit Wm
set_option linter.unusedVariables false

/-- A reader of the reference. -/
def Rdq (w : World) (q : Nat) (s : Bs) (f : Bool) : Prop := Blk w q 61 #[.string (sv s), .bool f]
theorem Rdq.below {w w' : World} {q : Nat} {s : Bs} {f : Bool} (h : Rdq w q s f) (hb : Below w.heap.size w w') : Rdq w' q s f := Blk.below h hb (Blk.lt h)
theorem Rdq.cells {w : World} {r : Nat} {s : Bs} {f : Bool} (h : Rdq w r s f) : w.cell? ⟨r, 0, none⟩ = some (.string (sv s)) ∧ w.cell? ⟨r, 1, none⟩ = some (.bool f) := ⟨Blk.cell h 0, Blk.cell h 1⟩
theorem Rdq.kept {w w' : World} {r : Nat} {s : Bs} {f : Bool} {row : Option Nat} (h : Rdq w r s f) (hb : w.grownBy w' row) (hr : ∀ k, row = some k → r ≠ k) : Rdq w' r s f :=
  Blk.grown h hb (fun e => hr r e.symm rfl)
theorem Rdr.other {w w' : World} {r : Nat} {s : Bs} {f : Bool} {row : Option Nat} (h : Rdr w r s f) (hb : w.grownBy w' row) (hr : ∀ k, row = some k → r ≠ k) : Rdr w' r s f :=
  Blk.grown h hb (fun e => hr r e.symm rfl)
theorem qopen (s : Bs) (w : World) : Calls Tryd.prog 21 #[.string (sv s)] w fun e w' => e = .returned (.pointer (some ⟨w.heap.size, 0, none⟩)) ∧ Rdq w' w.heap.size s false ∧ Below w.heap.size w w' ∧ w'.heap.size = w.heap.size + 1 := by
  generalize hS : sv s = S
  have HS := Lib.hid hS
  clear hS
  go_enter Tryd.func21, Tryd.ntmps21
  go_wp2
  go_ret
  refine ⟨rfl, ?_, below_alloc _ _, by simp⟩
  unfold Rdq
  rw [HS.out]
  exact Blk.new w _ _
theorem qleft {w : World} {r : Nat} {s : Bs} {f : Bool} (h : Rdq w r s f) : Calls Tryd.prog 35 #[.pointer (some ⟨r, 0, none⟩)] w fun e w' => e = .returned (.int .i64 (s.length : Nat)) ∧ w = w' := by
  obtain ⟨c0, c1⟩ := h.cells
  have hz : (sv s).size = s.length := rfl
  have HZ := Lib.hid hz
  clear hz h
  generalize sv s = S at *
  go_enter Tryd.func35, Tryd.ntmps35
  go_wp2
  go_ret
  exact ⟨ret_i (by rw [HZ.out]), rfl⟩
theorem qdone {w : World} {r : Nat} {s : Bs} {f : Bool} (h : Rdq w r s f) : Calls Tryd.prog 37 #[.pointer (some ⟨r, 0, none⟩)] w fun e w' => e = .returned (.bool (!f && s.isEmpty)) ∧ w = w' := by
  obtain ⟨c0, c1⟩ := h.cells
  have hz : (sv s).toList.isEmpty = s.isEmpty := by rw [sv_toList]
  clear h
  cases f with
  | true =>
    clear hz
    go_enter Tryd.func37, Tryd.ntmps37
    go_wp2
    go_ret
    exact ⟨rfl, rfl⟩
  | false =>
    cases he : s.isEmpty with
    | true =>
      rw [he] at hz
      clear he
      generalize sv s = S at *
      go_enter Tryd.func37, Tryd.ntmps37
      go_wp2
      go_ret
      exact ⟨rfl, rfl⟩
    | false =>
      rw [he] at hz
      clear he
      generalize sv s = S at *
      go_enter Tryd.func37, Tryd.ntmps37
      go_wp2
      go_ret
      exact ⟨rfl, rfl⟩
theorem qfail {w : World} {r : Nat} {s : Bs} {f : Bool} (h : Rdq w r s f) :
    Calls Tryd.prog 49 #[.pointer (some ⟨r, 0, none⟩)] w fun e w' => e = .returned (.tuple #[]) ∧ Rdq w' r [] true ∧ w.grownBy w' (some r) := by
  obtain ⟨c0, c1⟩ := h.cells
  have f0 := Blk.frozen h 0
  have f1 := Blk.frozen h 1
  have HB := Lib.hid h
  clear h
  go_enter Tryd.func49, Tryd.ntmps49
  go_wp2
  go_end0
  exact ⟨rfl, (Blk.set_ (Blk.set_ HB.out 0 _) 1 _), only_setCell (only_setCell (only_refl _ _) 0 _) 1 _⟩

/-- The number that the reference reckons: of a negative int, that of its complement. -/
def mvI (neg : Bool) (x : Int) : Int := if neg then -x - 1 else x
theorem mv_step (neg : Bool) (x b : Int) : mvI neg (x * 256 + b) = 256 * mvI neg x + (if neg then 255 - b else b) := by unfold mvI; cases neg <;> simp <;> omega
theorem mv_bd (h : UInt8) (t : Bs) : 0 ≤ mvI (isNeg h) (bval (st h) t) ∧ mvI (isNeg h) (bval (st h) t) < 256 ^ t.length := by
  have hd := (be_bval t (st h)).2
  have hp := pow_pos t.length
  have h1 := (Int.ediv_eq_iff_of_pos hp).1 hd
  unfold mvI st at *
  cases hn : isNeg h with
  | true => simp only [hn, if_true] at *; omega
  | false => simp only [hn, Bool.false_eq_true, if_false] at *; omega
theorem mv_j64 (h : UInt8) (t : Bs) : J64 (bval (st h) t) ↔ mvI (isNeg h) (bval (st h) t) < 9223372036854775808 := by
  have hb := bval_neg h t
  have hm := (mv_bd h t).1
  unfold J64 mvI at *
  cases hn : isNeg h with
  | true => simp only [hn, if_true] at *; have := hb.2 trivial; omega
  | false => simp only [hn, Bool.false_eq_true, if_false] at *; have : ¬ bval (st h) t < 0 := fun e => by have := hb.1 e; cases this
             omega
theorem take_enc {h : UInt8} {t : Bs} (hk : kH h ≤ t.length) (hj : J64 (bval (st h) (t.take (kH h)))) :
    ((encI (bval (st h) (t.take (kH h))) == (h :: t).take (1 + kH h)) = true ∧ decI (h :: t) = some (bval (st h) (t.take (kH h)), t.drop (kH h))) ∨
    ((encI (bval (st h) (t.take (kH h))) == (h :: t).take (1 + kH h)) = false ∧ decI (h :: t) = none) := by
  by_cases hko : kOf (bval (st h) (t.take (kH h))) = kH h
  · left
    have hd : decI (h :: t) = some (bval (st h) (t.take (kH h)), t.drop (kH h)) := by rw [decI_cons, if_pos ⟨hk, hj, hko⟩]
    refine ⟨?_, hd⟩
    have hs := (decI_some hd).2
    generalize bval (st h) (t.take (kH h)) = v at *
    rw [hs, beq_iff_eq, ← hko, ← encI_length, List.take_left]
  · right
    refine ⟨?_, by rw [decI_cons, if_neg (fun e => hko e.2.2)]⟩
    rw [beq_eq_false_iff_ne]
    intro e
    have h1 := congrArg List.length e
    rw [encI_length, List.length_take] at h1
    simp only [List.length_cons] at h1
    omega
theorem take_sv (s : Bs) (n : Nat) : (sv s).extract 0 n = sv (s.take n) := by
  apply sv_ext
  rw [Lib.extract_data, sv_list, sv_list]
  simp
theorem drop_sv (s : Bs) (n : Nat) : (sv s).extract n (sv s).size = sv (s.drop n) := by
  apply sv_ext
  rw [Lib.extract_data, sv_list, sv_list, sv_size, List.take_of_length_le (by simp)]

set_option maxHeartbeats 1000000 in
set_option maxRecDepth 100000 in
theorem qint_empty {w : World} {r : Nat} {f : Bool} (h : Rdq w r [] f) : Calls Tryd.prog 25 #[.pointer (some ⟨r, 0, none⟩)] w fun e w' => e = .returned (.int .i64 0) ∧ Rdq w' r [] true ∧ w.grownBy w' (some r) := by
  obtain ⟨c0, c1⟩ := h.cells
  have e1 : (sv []).toList.isEmpty = true := by rw [sv_toList]; rfl
  have F := Lib.hid (qfail h)
  clear h
  generalize sv [] = S at *
  go_enter Tryd.func25, Tryd.ntmps25
  go_wp2_with fail
  refine F.out.mono ?_
  rintro e w1 ⟨rfl, h1, h2⟩
  have H1 := Lib.hid h1
  have H2 := Lib.hid h2
  clear h1 h2
  go_wp2_with fail
  go_ret
  exact ⟨rfl, H1.out, H2.out⟩
/-- What the reference's reader gives that reads an int. -/
def QI (r : Nat) (s : Bs) (f : Bool) (w : World) (e : Ending) (w' : World) : Prop :=
  (∃ m u, decI s = some (m, u) ∧ e = .returned (.int .i64 m) ∧ Rdq w' r u f ∧ w.grownBy w' (some r)) ∨ (decI s = none ∧ e = .returned (.int .i64 0) ∧ Rdq w' r [] true ∧ w.grownBy w' (some r))
end Go.Proofs.YtocbodjmdgoaiaaDoor
