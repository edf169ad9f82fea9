/- What a reader finds at the beginning of a text: a string that is encoded there, or nothing; and how a reader moves on. Conditions: the text has at most 2^20 bytes; the reader lies in a block of its own; the library's own variable holds some int. -/
import Derived.Test.YtocbodjmdgoaiaaDoorWFirst
namespace Go.Proofs.YtocbodjmdgoaiaaDoor
open Go.RowKit Wm
set_option linter.unusedVariables false

def ftN (s : Bs) : Bs := match decT s with | some p => p.1 | none => []
def ftZ (s : Bs) : Nat := match decT s with | some p => (encT p.1).length | none => 0
theorem ft_yes {s x u : Bs} (h : decT s = some (x, u)) : ftN s = x ∧ ftZ s = (esc x).length + 2 := by simp [ftN, ftZ, h, encT_length]
theorem ft_no {s : Bs} (h : decT s = none) : ftN s = [] ∧ ftZ s = 0 := by simp [ftN, ftZ, h]
theorem ret_si {a b : ByteArray} {c d : Int} (h : a = b) (h' : c = d) : Ending.returned (.tuple #[.string a, .int .i64 c]) = .returned (.tuple #[.string b, .int .i64 d]) := by rw [h, h']

theorem cut_any (s : Bs) (hs : s.length ≤ 1048576) {w : World} (hm : Mx w) : Calls Tryd.prog 60 #[.string (sv s), .string (sv [0, 1])] w fun e w' =>
    e = .returned (.tuple #[.string (sv (Lib.cut s [0, 1]).1), .string (sv (Lib.cut s [0, 1]).2.1), .bool (Lib.cut s [0, 1]).2.2]) ∧ ∃ n, w' = w.drewN n := by
  obtain ⟨m, hm⟩ := hm
  have h := Tryd.strings_Cut (sv s) (sv [0, 1]) m w (by rw [sv_size]; omega) hm
  rw [sv_list, sv_list] at h
  exact h
theorem count_one_any (s : Bs) (w : World) : Calls Tryd.prog 61 #[.string (sv s), .string (sv [0])] w fun e w' => e = .returned (.int .i64 (Lib.countByte s 0)) ∧ w = w' := by
  have h := Tryd.strings_Count_one (sv s) 0 w
  rw [sv_list] at h
  exact h.mono fun e w' ⟨a, b⟩ => ⟨a, b.symm⟩
theorem count_two_any (s : Bs) (hs : s.length ≤ 1048576) {w : World} (hm : Mx w) : Calls Tryd.prog 61 #[.string (sv s), .string (sv [0, 255])] w fun e w' => e = .returned (.int .i64 (Lib.count s [0, 255])) ∧ w = w' := by
  obtain ⟨m, hm⟩ := hm
  have h := Tryd.strings_Count (sv s) (sv [0, 255]) m w (by rw [sv_size]; omega) hm (by decide)
  refine h.mono fun e w' ⟨a, b⟩ => ⟨?_, b.symm⟩
  rw [a]
  show Ending.returned (.int .i64 (Lib.count (sv s).data.toList (sv [0, 255]).data.toList)) = _
  rw [sv_list, sv_list]

set_option maxHeartbeats 1000000 in
set_option maxRecDepth 100000 in
theorem firstText_any (s : Bs) (hs : s.length ≤ 1048576) {w : World} (hm : Mx w) :
    Calls Tryd.prog 50 #[.string (sv s)] w fun e w' => e = .returned (.tuple #[.string (sv (ftN s)), .int .i64 (ftZ s : Nat)]) ∧ Below w.heap.size w w' := by
  have c1 := cut_any s hs hm
  have HM := Lib.hid hm
  clear hm
  cases hd : decT s with
  | some p =>
    obtain ⟨x, u⟩ := p
    have hf := ft_yes hd
    have he := decT_some s x u hd
    have hcut := Wl.cut_yes x u
    rw [← he] at hcut
    rw [hcut] at c1
    have hl : (esc x).length ≤ 1048576 := by
      have := congrArg List.length he
      simp [encT] at this
      omega
    have hcnt := Wl.count_esc _ x (Nat.lt_succ_self _)
    have hcb : Lib.countByte (esc x) 0 ≤ (esc x).length := List.count_le_length
    have C1 := Lib.hid c1
    have HF := Lib.hid hf
    have HC := Lib.hid hcnt
    have hsz : (sv (esc x)).size = (esc x).length := rfl
    have HSZ := Lib.hid hsz
    have C2 := Lib.hid (fun W => count_one_any (esc x) W)
    have C3 := Lib.hid (fun (W : World) (h : Mx W) => count_two_any (esc x) hl h)
    have C4 := Lib.hid (fun (W : World) (h : Mx W) => replaceAll_back_any x hl h)
    rw [hcnt] at C3
    clear c1 hf hcnt he hcut hd hsz
    generalize Lib.countByte (esc x) 0 = q at *
    generalize sv (esc x) = E at *
    have hEs : E.size ≤ 1048576 := by have := HSZ.out; omega
    have dq : ((q : Int) != (q : Int)) = false := by simp
    go_enter Tryd.func50, Tryd.ntmps50
    go_wp2_with fail
    refine C1.out.mono ?_
    rintro e w1 ⟨rfl, n, rfl⟩
    have HM1 : Hid (Mx (w.drewN n)) := HM
    go_wp2_with fail
    refine (C2.out _).mono ?_
    rintro e w1 ⟨rfl, rfl⟩
    go_wp2_with fail
    refine (C3.out _ HM1.out).mono ?_
    rintro e w1 ⟨rfl, rfl⟩
    go_wp2_with fail
    refine (C4.out _ HM1.out).mono ?_
    rintro e w1 ⟨rfl, hb⟩
    go_wp2_with fail
    go_ret2
    exact ⟨ret_si (by rw [HF.out.1]) (by rw [HF.out.2]; have := HSZ.out; omega), below_trans (below_drewN w n) hb⟩
  | none =>
    have hf := ft_no hd
    have hcut := Wl.cut_no hd
    have hle := Wl.cut_le s
    have HF := Lib.hid hf
    clear hf hd
    generalize Lib.cut s [0, 1] = T at *
    obtain ⟨a, b, ok⟩ := T
    simp only at c1 hcut hle
    have C1 := Lib.hid c1
    clear c1
    rcases hcut with rfl | ⟨rfl, hne⟩
    · clear hle
      go_enter Tryd.func50, Tryd.ntmps50
      go_wp2_with fail
      refine C1.out.mono ?_
      rintro e w1 ⟨rfl, n, rfl⟩
      go_wp2_with fail
      go_ret2
      exact ⟨ret_si (by rw [HF.out.1]; rfl) (by rw [HF.out.2]; rfl), below_drewN w n⟩
    · have hal : a.length ≤ 1048576 := by omega
      have C2 := Lib.hid (fun W => count_one_any a W)
      have C3 := Lib.hid (fun (W : World) (h : Mx W) => count_two_any a hal h)
      generalize Lib.countByte a 0 = q at *
      generalize Lib.count a [0, 255] = q2 at *
      have dq : ((q : Int) != (q2 : Int)) = true := by simp; omega
      clear hne hle
      generalize sv a = E at *
      go_enter Tryd.func50, Tryd.ntmps50
      go_wp2_with fail
      refine C1.out.mono ?_
      rintro e w1 ⟨rfl, n, rfl⟩
      have HM1 : Hid (Mx (w.drewN n)) := HM
      go_wp2_with fail
      refine (C2.out _).mono ?_
      rintro e w1 ⟨rfl, rfl⟩
      go_wp2_with fail
      refine (C3.out _ HM1.out).mono ?_
      rintro e w1 ⟨rfl, rfl⟩
      go_wp2_with fail
      go_ret2
      exact ⟨ret_si (by rw [HF.out.1]; rfl) (by rw [HF.out.2]; rfl), below_drewN w n⟩

/-- A reader at address r: what is left, and whether it has failed. -/
def Rdr (w : World) (r : Nat) (s : Bs) (f : Bool) : Prop := Blk w r 59 #[.string (sv s), .bool f]
theorem Rdr.below {w w' : World} {r : Nat} {s : Bs} {f : Bool} (h : Rdr w r s f) (hb : Below w.heap.size w w') : Rdr w' r s f := Blk.below h hb (Blk.lt h)

theorem move_fail {w : World} {r : Nat} {s : Bs} {f : Bool} (h : Rdr w r s f) :
    Calls Tryd.prog 48 #[.pointer (some ⟨r, 0, none⟩), .int .i64 0] w fun e w' => e = .returned (.tuple #[]) ∧ Rdr w' r [] true ∧ w.grownBy w' (some r) := by
  have c0 : w.cell? ⟨r, 0, none⟩ = some (.string (sv s)) := Blk.cell h 0
  have c1 : w.cell? ⟨r, 1, none⟩ = some (.bool f) := Blk.cell h 1
  have f0 := Blk.frozen h 0
  have f1 := Blk.frozen h 1
  have HB := Lib.hid h
  clear h
  go_enter Tryd.func48, Tryd.ntmps48
  go_wp2
  refine bodyPost_ret (results_none rfl _ _ _) rfl ?_
  exact ⟨rfl, (Blk.set_ (Blk.set_ HB.out 0 _) 1 _), only_setCell (only_setCell (only_refl _ _) 0 _) 1 _⟩
theorem move_ok {w : World} {r : Nat} {s : Bs} {f : Bool} (h : Rdr w r s f) (n : Nat) (h0 : 0 < n) (hn : n ≤ s.length) (hs : s.length ≤ 1048576) :
    Calls Tryd.prog 48 #[.pointer (some ⟨r, 0, none⟩), .int .i64 n] w fun e w' => e = .returned (.tuple #[]) ∧ Rdr w' r (s.drop n) f ∧ w.grownBy w' (some r) := by
  have c0 : w.cell? ⟨r, 0, none⟩ = some (.string (sv s)) := Blk.cell h 0
  have c1 : w.cell? ⟨r, 1, none⟩ = some (.bool f) := Blk.cell h 1
  have f0 := Blk.frozen h 0
  have f1 := Blk.frozen h 1
  have hx : (sv s).extract n (sv s).size = sv (s.drop n) := by
    apply sv_ext
    rw [Lib.extract_data, sv_list, sv_list, sv_size, List.take_of_length_le (by simp)]
  have hz : (sv s).size = s.length := rfl
  have d0 : ((n : Int) == 0) = false := by simp; omega
  have HX := Lib.hid hx
  have HB := Lib.hid h
  have HZ := Lib.hid hz
  clear h hx hz
  generalize sv s = S at *
  have hS : n ≤ S.size := by have := HZ.out; omega
  have hS2 : S.size ≤ 1048576 := by have := HZ.out; omega
  go_enter Tryd.func48, Tryd.ntmps48
  go_wp2
  go_end0
  refine ⟨rfl, ?_, only_setCell (only_refl _ _) 0 _⟩
  have := Blk.set_ HB.out 0 (.string (S.extract n S.size))
  rw [HX.out] at this ⊢
  exact this
end Go.Proofs.YtocbodjmdgoaiaaDoor
