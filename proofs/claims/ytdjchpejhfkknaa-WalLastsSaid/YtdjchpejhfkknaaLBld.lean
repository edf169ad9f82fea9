/- (*strings.Builder).WriteString at a builder of the caller's own, and slices.ContainsFunc with tooLong. Conditions: at most 2^40 bytes, 10^6 rows. -/
import Derived.Test.YtdjchpejhfkknaaLRep
import Derived.Lib.Builder
import Derived.Lib.AppendStr
namespace Go.Proofs.Ytdjchpejhfkknaa.Lw
open Go.RowKit Km Dk
open Lm hiding Bs
set_option linter.unusedVariables false
set_option maxRecDepth 100000

theorem sizeBld : (Try.prog.info? 105).map (·.size) = some 2 := by kernel_rfl
theorem liesBld : liesAt Try.prog Try.prog.depth 105 (2 / Try.prog.cellsOf 105) 0 105 1 = true := by kernel_rfl
abbrev BAt (B b : Nat) (p : Value) (l : Bs) (w : World) : Prop := Lib.BuilderAt 105 5 B b p (Lib.byteCells l) w
theorem copy_used (b : Nat) (w : World) (h0 : w.cell? ⟨b, 0, none⟩ = some (.pointer (some ⟨b, 0, none⟩))) :
    Calls Try.prog 82 #[.pointer (some ⟨b, 0, none⟩)] w fun e w' => e = .returned (.tuple #[]) ∧ w = w' := by
  obtain ⟨j, hj, _⟩ := Option.map_eq_some_iff.1 sizeBld
  have hne := fun W => Lib.run_neq_ptr_same (P := Try.prog) W ⟨b, 0, none⟩ Try.underlying103 hj
  go_enter Try.func82, Try.ntmps82
  go_wp2_with fail
  go_end0
  exact ⟨rfl, rfl⟩
theorem noesc (a : Option Addr) (W : World) : (callFunc 93 #[.pointer a]).run Try.prog W = .ok (.value (.pointer a)) W := by
  rw [run_callFunc_extern Try.func93 (by kernel_rfl) (by kernel_rfl) (by kernel_rfl) (e := Extern.AbiNoEscape.same) (by kernel_rfl), Lib.run_noEscape]
  rfl
theorem copy_fresh (b : Nat) (w : World) (h0 : w.cell? ⟨b, 0, none⟩ = some (.pointer none)) (hsh : w.shape? b = some (105, 2)) (hfz : w.frozen? ⟨b, 0, none⟩ = false) :
    Calls Try.prog 82 #[.pointer (some ⟨b, 0, none⟩)] w fun e w' => e = .returned (.tuple #[]) ∧ w' = w.setCell ⟨b, 0, none⟩ (.pointer (some ⟨b, 0, none⟩)) := by
  obtain ⟨j, hj, hjs⟩ := Option.map_eq_some_iff.1 sizeBld
  have hto := Lib.run_to_unsafe (P := Try.prog) w ⟨b, 0, none⟩ Try.underlying103 Try.underlying133 hj (by rw [hjs]; decide) hsh (Nat.zero_lt_succ 1)
  have hfrom := Lib.run_from_unsafe (P := Try.prog) w ⟨b, 0, none⟩ Try.underlying133 Try.underlying103 hj hsh liesBld
  have hne := fun W => Lib.run_neq_ptr_same (P := Try.prog) W ⟨b, 0, none⟩ Try.underlying103 hj
  have hno := noesc (some ⟨b, 0, none⟩) w
  go_enter Try.func82, Try.ntmps82
  go_wp2_with fail
  --GG
  go_end0
  exact ⟨rfl, rfl⟩
theorem copy_any (B b : Nat) (q : Value) (l : Bs) (w : World) (h : BAt B b q l w) (hq : q = .pointer none ∨ q = .pointer (some ⟨b, 0, none⟩)) :
    Calls Try.prog 82 #[.pointer (some ⟨b, 0, none⟩)] w fun e w' => e = .returned (.tuple #[]) ∧ BAt B b (.pointer (some ⟨b, 0, none⟩)) l w' ∧ Below B w w' := by
  rcases hq with rfl | rfl
  · refine (copy_fresh b w h.cell0 h.shape h.frozen0).mono ?_
    rintro e w' ⟨rfl, rfl⟩
    exact ⟨rfl, h.used _, (Below.refl B w).setCell (p := ⟨b, 0, none⟩) h.1 _⟩
  · refine (copy_used b w h.cell0).mono ?_
    rintro e w' ⟨rfl, rfl⟩
    exact ⟨rfl, h, Below.refl _ _⟩
theorem strCells_sv (t : Bs) : Lib.strCells (sv t) = Lib.byteCells t := by simp [Lib.strCells, Lib.byteCells, sv]
theorem byteCells_app (a b : Bs) : Lib.byteCells (a ++ b) = Lib.byteCells a ++ Lib.byteCells b := by simp [Lib.byteCells]
theorem write_any (B b : Nat) (q : Value) (l t : Bs) (w : World) (h : BAt B b q l w) (hq : q = .pointer none ∨ q = .pointer (some ⟨b, 0, none⟩)) (hlen : l.length + t.length ≤ 1000000000000) (hBw : B ≤ w.heap.size) :
    Calls Try.prog 62 #[.pointer (some ⟨b, 0, none⟩), .string (sv t)] w fun e w' => e = .returned (.tuple #[.int .i64 ((t.length : Nat) : Int), .nilIface]) ∧ BAt B b (.pointer (some ⟨b, 0, none⟩)) (l ++ t) w' ∧ Below B w w' := by
  obtain ⟨i0, hi, hz0, hz1, hz2⟩ := info_parts infoByte
  have hs : (sv t).size = t.length := rfl
  have HC := Lib.hid (copy_any B b q l w h hq)
  have HSC := Lib.hid (strCells_sv t)
  clear h hq
  generalize hS : sv t = S at *
  generalize hn : t.length = n at *
  go_enter Try.func62, Try.ntmps62
  go_wp2_with fail
  refine HC.out.mono ?_
  rintro e w1 ⟨rfl, h1, hb1⟩
  obtain ⟨hB, v, hbk, hown, hne⟩ := h1
  rw [Lib.byteCells_length] at hown
  have hbk' : Blk w1 b 105 #[.pointer (some ⟨b, 0, none⟩), v] := hbk
  have c1 : w1.cell? ⟨b, 1, none⟩ = some v := hbk'.cell 1
  have HO := Lib.hid hown
  have HBK := Lib.hid hbk'
  have HNE := Lib.hid hne
  have HB1 := Lib.hid hb1
  clear hown hbk hbk' hne hb1
  go_wp2_with (at_builtin; refine Lib.wpList_append_own_string _ rfl (.tmp 12) (.tmp 13) 69 9 rfl B 5 i0 Try.underlying69 Try.underlying9 hi hz0 hz1 hz2 _ _ _ rfl HO.out S rfl ?c3 ?c4 ?c5 ?_)
  case c3 => unfold maxLen; omega
  case c4 => omega
  case c5 => have := HB1.out.size; omega
  intro v' w2 hown' hgrow _
  have hlt : b < w1.heap.size := HBK.out.lt
  have hb2 : Blk w2 b 105 #[.pointer (some ⟨b, 0, none⟩), v] := (hgrow.block b hlt (fun e => HNE.out e.symm)).trans HBK.out
  have d1 : w2.cell? ⟨b, 1, none⟩ = some v := hb2.cell 1
  have f1 := hb2.frozen 1
  have hput : BAt B b (.pointer (some ⟨b, 0, none⟩)) (l ++ t) (w2.setCell ⟨b, 1, none⟩ v') := by
    have hl2 : (Lib.byteCells (l ++ t)).length = l.length + n := by rw [Lib.byteCells_length, List.length_append, hn]
    refine Lib.BuilderAt.put hB hb2 (bs' := Lib.byteCells (l ++ t)) ?_ (by decide)
    rw [hl2, byteCells_app, ← HSC.out]
    exact hown'
  have hbel : Below B w (w2.setCell ⟨b, 1, none⟩ v') := (HB1.out.grown hgrow (by have := HB1.out.size; omega) (fun k hk => (HO.out.lt k hk).1)).setCell (p := ⟨b, 1, none⟩) hB _
  have HP := Lib.hid hput
  have HBL := Lib.hid hbel
  obtain ⟨v2a, v2n, v2c, hvv⟩ : ∃ a n c, v' = .slice a n c := by
    rcases hown'.2 with ⟨hv, _⟩ | ⟨g, cap, cur, hv, _⟩
    · exact ⟨_, _, _, hv⟩
    · exact ⟨_, _, _, hv⟩
  clear hown' hgrow hb2 hput hbel c1
  subst hvv
  go_wp2_with fail
  go_ret2
  exact ⟨rfl, HP.out, HBL.out⟩

set_option maxHeartbeats 2000000 in
/-- The index of the first row that is too long. -/
theorem index_any {w : World} {v : Value} {l : List Bs} (h : Texts w v l) (hl : l.length ≤ 1000000) :
    Calls Try.prog 81 #[v, .func (.func 61) #[] #[]] w fun e w' => e = .returned (.int .i64 (if l.any tooB then (l.findIdx tooB : Nat) else -1)) ∧ Below w.heap.size w w' := by
  obtain ⟨a, c, rfl, _, _, hc⟩ := h
  have HO := Lib.hid hc
  obtain ⟨n, hn⟩ : ∃ n, l.length = n := ⟨_, rfl⟩
  have HN := Lib.hid hn
  rw [hn] at hl ⊢
  clear hc hn
  obtain ⟨R, hR⟩ : ∃ R : Int, (if l.any tooB then ((l.findIdx tooB : Nat) : Int) else -1) = R := ⟨_, rfl⟩
  rw [hR]
  have HR := Lib.hid hR
  clear hR
  go_enter Try.func81, Try.ntmps81
  go_wp2_with fail
  go_loopw [8] (fun i wr => ∃ k : Nat, k ≤ n ∧ i = .int .i64 k ∧ Hid (Below w.heap.size w wr ∧ ∀ j, j < k → ∀ b, l[j]? = some b → tooB b = false)) (fun i _ => n - (intOf i).toNat)
  case atStart => exact ⟨0, Nat.zero_le _, rfl, Lib.hid ⟨below_self _, fun j hj => by omega⟩⟩
  case round =>
    obtain ⟨k, hk, rfl, HB⟩ := hrel
    by_cases hlt : k < n
    · obtain ⟨b, hb⟩ : ∃ b, l[k]? = some b := ⟨l[k]'(by have := HN.out; omega), List.getElem?_eq_getElem _⟩
      obtain ⟨g, o, rfl, hg, hcell⟩ := HO.out (by have := HN.out; omega)
      have c1 : wr.cell? ⟨g, o + k, none⟩ = some (.string (sv b)) := (HB.out.1.cell (p := ⟨g, o + k, none⟩) hg).trans (hcell k b hb)
      have HT := Lib.hid (fun W => tooLong_any b W)
      have HBB := Lib.hid hb
      clear hcell hb hg
      cases hz : tooB b with
      | true =>
        have hi : R = ((k : Nat) : Int) := by
          rw [← HR.out]
          have hbm := List.mem_of_getElem? HBB.out
          rw [if_pos (List.any_eq_true.2 ⟨b, hbm, hz⟩)]
          congr 1
          obtain ⟨hkl, hkb⟩ := List.getElem?_eq_some_iff.1 HBB.out
          rw [List.findIdx_eq hkl]
          refine ⟨by rw [hkb]; exact hz, fun j hj => ?_⟩
          exact HB.out.2 j hj _ (List.getElem?_eq_getElem (by omega))
        have HI := Lib.hid hi
        have HZ := Lib.hid hz
        clear hz hi
        go_wp2_with fail
        refine (HT.out _).mono ?_
        rintro e w2 ⟨rfl, rfl⟩
        rw [HZ.out]
        go_wp2_with fail
        go_ret
        exact ⟨ret_i HI.out.symm, HB.out.1⟩
      | false =>
        have HZ := Lib.hid hz
        clear hz
        go_wp2_with fail
        refine (HT.out _).mono ?_
        rintro e w2 ⟨rfl, rfl⟩
        rw [HZ.out]
        go_wp2_with fail
        go_roundw
        case rel =>
          refine ⟨k + 1, hlt, by go_num, Lib.hid ⟨HB.out.1, fun j hj b' hb' => ?_⟩⟩
          rcases Nat.lt_or_ge j k with h1 | h1
          · exact HB.out.2 j h1 b' hb'
          · obtain rfl : j = k := by omega
            rw [HBB.out] at hb'
            injection hb' with hb'
            rw [← hb']
            exact HZ.out
        case measure => simp [intOf]; omega
    · obtain rfl : k = n := by omega
      have hi : R = -1 := by
        rw [← HR.out, if_neg]
        intro h
        obtain ⟨b, hb, ht⟩ := List.any_eq_true.1 h
        obtain ⟨j, hj, hjb⟩ := List.getElem_of_mem hb
        have := HB.out.2 j (by rw [← HN.out]; exact hj) b (by rw [List.getElem?_eq_getElem hj, hjb])
        rw [this] at ht
        cases ht
      have HI := Lib.hid hi
      clear hi
      go_wp2_with fail
      go_ret
      exact ⟨ret_i HI.out.symm, HB.out.1⟩
theorem contains_any {w : World} {v : Value} {l : List Bs} (h : Texts w v l) (hl : l.length ≤ 1000000) :
    Calls Try.prog 60 #[v, .func (.func 61) #[] #[]] w fun e w' => e = .returned (.bool (l.any tooB)) ∧ Below w.heap.size w w' := by
  have HI := Lib.hid (index_any h hl)
  obtain ⟨a, c, rfl, _⟩ := h
  obtain ⟨R, hR⟩ : ∃ R : Int, (if l.any tooB then ((l.findIdx tooB : Nat) : Int) else -1) = R := ⟨_, rfl⟩
  rw [hR] at HI
  have hd : decide (0 ≤ R) = l.any tooB := by
    rw [← hR]
    cases l.any tooB with
    | true => simp
    | false => simp
  have HD := Lib.hid hd
  clear hR hd hl
  generalize l.length = n at *
  generalize l.any tooB = Bo at *
  go_enter Try.func60, Try.ntmps60
  go_wp2_with fail
  refine HI.out.mono ?_
  rintro e w2 ⟨rfl, hb⟩
  go_wp2_with fail
  go_ret
  exact ⟨ret_b HD.out, hb⟩
end Go.Proofs.Ytdjchpejhfkknaa.Lw
