/- The methods of a reader that read an int or a string, and what is left. Conditions: the text has at most 2^20 bytes; the reader lies in a block of its own, behind the library's own variable, which holds some int. -/
import Derived.Test.YtocbodjmdgoaiaaDoorWMove
namespace Go.Proofs.YtocbodjmdgoaiaaDoor
open Go.RowKit Wm
set_option linter.unusedVariables false

theorem open_any (s : Bs) (w : World) : Calls Tryd.prog 20 #[.string (sv s)] w fun e w' => e = .returned (.pointer (some ⟨w.heap.size, 0, none⟩)) ∧ Rdr w' w.heap.size s false ∧ Below w.heap.size w w' ∧ w'.heap.size = w.heap.size + 1 := by
  generalize hS : sv s = S
  have HS := Lib.hid hS
  clear hS
  go_enter Tryd.func20, Tryd.ntmps20
  go_wp2
  go_ret
  refine ⟨rfl, ?_, below_alloc _ _, by simp⟩
  unfold Rdr
  rw [HS.out]
  exact Blk.new w _ _

theorem Rdr.cells {w : World} {r : Nat} {s : Bs} {f : Bool} (h : Rdr w r s f) : w.cell? ⟨r, 0, none⟩ = some (.string (sv s)) ∧ w.cell? ⟨r, 1, none⟩ = some (.bool f) := ⟨Blk.cell h 0, Blk.cell h 1⟩

theorem left_any {w : World} {r : Nat} {s : Bs} {f : Bool} (h : Rdr w r s f) : Calls Tryd.prog 34 #[.pointer (some ⟨r, 0, none⟩)] w fun e w' => e = .returned (.int .i64 (s.length : Nat)) ∧ w = w' := by
  obtain ⟨c0, c1⟩ := h.cells
  have hz : (sv s).size = s.length := rfl
  have HZ := Lib.hid hz
  clear hz h
  generalize sv s = S at *
  go_enter Tryd.func34, Tryd.ntmps34
  go_wp2
  go_ret
  exact ⟨ret_i (by rw [HZ.out]), rfl⟩
theorem done_any {w : World} {r : Nat} {s : Bs} {f : Bool} (h : Rdr w r s f) : Calls Tryd.prog 36 #[.pointer (some ⟨r, 0, none⟩)] w fun e w' => e = .returned (.bool (!f && s.isEmpty)) ∧ w = w' := by
  obtain ⟨c0, c1⟩ := h.cells
  have hz : (sv s).toList.isEmpty = s.isEmpty := by rw [sv_toList]
  clear h
  cases f with
  | true =>
    clear hz
    go_enter Tryd.func36, Tryd.ntmps36
    go_wp2
    go_ret
    exact ⟨rfl, rfl⟩
  | false =>
    cases he : s.isEmpty with
    | true =>
      rw [he] at hz
      clear he
      generalize sv s = S at *
      go_enter Tryd.func36, Tryd.ntmps36
      go_wp2
      go_ret
      exact ⟨rfl, rfl⟩
    | false =>
      rw [he] at hz
      clear he
      generalize sv s = S at *
      go_enter Tryd.func36, Tryd.ntmps36
      go_wp2
      go_ret
      exact ⟨rfl, rfl⟩

set_option maxHeartbeats 400000 in
theorem rint_yes {w : World} {r : Nat} {s u : Bs} {f : Bool} {m : Int} (h : Rdr w r s f) (hs : s.length ≤ 1048576) (hd : decI s = some (m, u)) :
    Calls Tryd.prog 24 #[.pointer (some ⟨r, 0, none⟩)] w fun e w' => e = .returned (.int .i64 m) ∧ Rdr w' r u f ∧ w.grownBy w' (some r) := by
  obtain ⟨c0, c1⟩ := h.cells
  have hi := firstInt_any s hs w
  rw [(fi_yes hd).1, (fi_yes hd).2] at hi
  have hj := (decI_some hd).2
  have hl : 1 + kOf m ≤ s.length := by rw [hj, List.length_append, encI_length]; omega
  have hu : s.drop (1 + kOf m) = u := by rw [hj, ← encI_length]; exact List.drop_left
  have hm := move_ok h (1 + kOf m) (by omega) hl hs
  rw [hu] at hm
  have HI := Lib.hid hi
  have HM := Lib.hid hm
  clear h hi hm hd hj hl hu
  generalize sv s = S at *
  generalize (1 + kOf m) = k at *
  go_enter Tryd.func24, Tryd.ntmps24
  go_wp2_with fail
  refine HI.out.mono ?_
  rintro e w1 ⟨rfl, rfl⟩
  go_wp2_with fail
  refine HM.out.mono ?_
  rintro e w1 ⟨rfl, h1, h2⟩
  go_wp2_with fail
  go_ret
  exact ⟨rfl, h1, h2⟩
set_option maxHeartbeats 400000 in
theorem rint_no {w : World} {r : Nat} {s : Bs} {f : Bool} (h : Rdr w r s f) (hs : s.length ≤ 1048576) (hd : decI s = none) :
    Calls Tryd.prog 24 #[.pointer (some ⟨r, 0, none⟩)] w fun e w' => e = .returned (.int .i64 0) ∧ Rdr w' r [] true ∧ w.grownBy w' (some r) := by
  obtain ⟨c0, c1⟩ := h.cells
  have hi := firstInt_any s hs w
  rw [(fi_no hd).1, (fi_no hd).2] at hi
  have hm := move_fail h
  have HI := Lib.hid hi
  have HM := Lib.hid hm
  clear h hi hm hd
  generalize sv s = S at *
  go_enter Tryd.func24, Tryd.ntmps24
  go_wp2_with fail
  refine HI.out.mono ?_
  rintro e w1 ⟨rfl, rfl⟩
  go_wp2_with fail
  refine HM.out.mono ?_
  rintro e w1 ⟨rfl, h1, h2⟩
  go_wp2_with fail
  go_ret
  exact ⟨rfl, h1, h2⟩
set_option maxHeartbeats 400000 in
theorem rnum_yes {w : World} {r : Nat} {s u : Bs} {f : Bool} {m : Int} (h : Rdr w r s f) (hs : s.length ≤ 1048576) (hd : decI s = some (m, u)) (h0 : 0 ≤ m) :
    Calls Tryd.prog 22 #[.pointer (some ⟨r, 0, none⟩)] w fun e w' => e = .returned (.int .i64 m) ∧ Rdr w' r u f ∧ w.grownBy w' (some r) := by
  obtain ⟨c0, c1⟩ := h.cells
  have hi := firstInt_any s hs w
  rw [(fi_yes hd).1, (fi_yes hd).2] at hi
  have hj := (decI_some hd).2
  have hl : 1 + kOf m ≤ s.length := by rw [hj, List.length_append, encI_length]; omega
  have hu : s.drop (1 + kOf m) = u := by rw [hj, ← encI_length]; exact List.drop_left
  have hm := move_ok h (1 + kOf m) (by omega) hl hs
  rw [hu] at hm
  have d0 : decide (m < 0) = false := decide_eq_false (by omega)
  have HI := Lib.hid hi
  have HM := Lib.hid hm
  clear h hi hm hd hj hl hu h0
  generalize sv s = S at *
  generalize (1 + kOf m) = k at *
  go_enter Tryd.func22, Tryd.ntmps22
  go_wp2_with fail
  refine HI.out.mono ?_
  rintro e w1 ⟨rfl, rfl⟩
  go_wp2_with fail
  refine HM.out.mono ?_
  rintro e w1 ⟨rfl, h1, h2⟩
  go_wp2_with fail
  go_ret
  exact ⟨rfl, h1, h2⟩
set_option maxHeartbeats 400000 in
theorem rnum_no {w : World} {r : Nat} {s : Bs} {f : Bool} (h : Rdr w r s f) (hs : s.length ≤ 1048576) (hd : decI s = none ∨ ∃ m u, decI s = some (m, u) ∧ m < 0) :
    Calls Tryd.prog 22 #[.pointer (some ⟨r, 0, none⟩)] w fun e w' => e = .returned (.int .i64 0) ∧ Rdr w' r [] true ∧ w.grownBy w' (some r) := by
  obtain ⟨c0, c1⟩ := h.cells
  have hi := firstInt_any s hs w
  have hm := move_fail h
  have HM := Lib.hid hm
  clear h hm
  rcases hd with hd | ⟨m, u, hd, h0⟩
  · rw [(fi_no hd).1, (fi_no hd).2] at hi
    have HI := Lib.hid hi
    clear hi hd
    generalize sv s = S at *
    go_enter Tryd.func22, Tryd.ntmps22
    go_wp2_with fail
    refine HI.out.mono ?_
    rintro e w1 ⟨rfl, rfl⟩
    go_wp2_with fail
    refine HM.out.mono ?_
    rintro e w1 ⟨rfl, h1, h2⟩
    go_wp2_with fail
    go_ret
    exact ⟨rfl, h1, h2⟩
  · rw [(fi_yes hd).1, (fi_yes hd).2] at hi
    have d0 : decide (m < 0) = true := decide_eq_true (by omega)
    have HI := Lib.hid hi
    clear hi hd h0
    generalize sv s = S at *
    generalize (1 + kOf m) = k at *
    go_enter Tryd.func22, Tryd.ntmps22
    go_wp2_with fail
    refine HI.out.mono ?_
    rintro e w1 ⟨rfl, rfl⟩
    go_wp2_with fail
    refine HM.out.mono ?_
    rintro e w1 ⟨rfl, h1, h2⟩
    go_wp2_with fail
    go_ret
    exact ⟨rfl, h1, h2⟩
set_option maxHeartbeats 400000 in
theorem rtext_yes {w : World} {r : Nat} {s x u : Bs} {f : Bool} (h : Rdr w r s f) (hs : s.length ≤ 1048576) (hm : Mx w) (hd : decT s = some (x, u)) :
    Calls Tryd.prog 26 #[.pointer (some ⟨r, 0, none⟩)] w fun e w' => e = .returned (.string (sv x)) ∧ Rdr w' r u f ∧ w.grownBy w' (some r) := by
  obtain ⟨c0, c1⟩ := h.cells
  have hi := firstText_any s hs hm
  rw [(ft_yes hd).1, (ft_yes hd).2] at hi
  have hj := decT_some s x u hd
  have hl : (esc x).length + 2 ≤ s.length := by rw [hj, List.length_append, encT_length]; omega
  have hu : s.drop ((esc x).length + 2) = u := by rw [hj, ← encT_length]; exact List.drop_left
  have hmv := fun W (hW : Rdr W r s f) => move_ok hW ((esc x).length + 2) (by omega) hl hs
  rw [hu] at hmv
  have HI := Lib.hid hi
  have HM := Lib.hid hmv
  have HR := Lib.hid h
  clear h hi hm hmv hd hj hl hu
  generalize sv s = S at *
  generalize (esc x).length + 2 = k at *
  generalize sv x = X at *
  go_enter Tryd.func26, Tryd.ntmps26
  go_wp2_with fail
  refine HI.out.mono ?_
  rintro e w1 ⟨rfl, hb⟩
  have HB := Lib.hid hb
  clear hb
  go_wp2_with fail
  refine (HM.out _ (Rdr.below HR.out HB.out)).mono ?_
  rintro e w2 ⟨rfl, h1, h2⟩
  have H2 := Lib.hid (only_trans (only_of_below HB.out (some r)) h2)
  have H1 := Lib.hid h1
  clear h1 h2
  go_wp2_with fail
  go_ret
  exact ⟨rfl, H1.out, H2.out⟩
set_option maxHeartbeats 400000 in
theorem rtext_no {w : World} {r : Nat} {s : Bs} {f : Bool} (h : Rdr w r s f) (hs : s.length ≤ 1048576) (hm : Mx w) (hd : decT s = none) :
    Calls Tryd.prog 26 #[.pointer (some ⟨r, 0, none⟩)] w fun e w' => e = .returned (.string (sv [])) ∧ Rdr w' r [] true ∧ w.grownBy w' (some r) := by
  obtain ⟨c0, c1⟩ := h.cells
  have hi := firstText_any s hs hm
  rw [(ft_no hd).1, (ft_no hd).2] at hi
  have hmv := fun W (hW : Rdr W r s f) => move_fail hW
  have HI := Lib.hid hi
  have HM := Lib.hid hmv
  have HR := Lib.hid h
  clear h hi hm hmv hd
  generalize sv s = S at *
  generalize sv [] = X at *
  go_enter Tryd.func26, Tryd.ntmps26
  go_wp2_with fail
  refine HI.out.mono ?_
  rintro e w1 ⟨rfl, hb⟩
  have HB := Lib.hid hb
  clear hb
  go_wp2_with fail
  refine (HM.out _ (Rdr.below HR.out HB.out)).mono ?_
  rintro e w2 ⟨rfl, h1, h2⟩
  have H2 := Lib.hid (only_trans (only_of_below HB.out (some r)) h2)
  have H1 := Lib.hid h1
  clear h1 h2
  go_wp2_with fail
  go_ret
  exact ⟨rfl, H1.out, H2.out⟩
end Go.Proofs.YtocbodjmdgoaiaaDoor
