/- The reference's reader reads a string. Conditions: the text has at most 2^20 bytes; the reader lies in a block of its own. -/
import Derived.Test.YtocbodjmdgoaiaaDoorWRefR
import Derived.Test.YtocbodjmdgoaiaaDoorWRefT
namespace Go.Proofs.YtocbodjmdgoaiaaDoor
open Go.RowKit Wm
set_option linter.unusedVariables false

/-- What the reference's reader gives that reads a string. -/
def QT (r : Nat) (s : Bs) (f : Bool) (w : World) (e : Ending) (w' : World) : Prop :=
  (∃ x u, decT s = some (x, u) ∧ e = .returned (.string (sv x)) ∧ Rdq w' r u f ∧ w.grownBy w' (some r)) ∨ (decT s = none ∧ e = .returned (.string (sv [])) ∧ Rdq w' r [] true ∧ w.grownBy w' (some r))
theorem decT_short {s : Bs} (h : s.length ≤ 1) : decT s = none := by
  match s with
  | [] => rfl
  | [b] =>
    by_cases hb : b = 0
    · subst hb; exact decT_one
    · rw [decT_other hb]; rfl
  | _ :: _ :: _ => simp at h
theorem byte_ne0 (x : UInt8) (h : x ≠ 0) : ((x.toNat : Int) == 0) = false := by
  rw [beq_eq_false_iff_ne]
  intro e
  exact h (UInt8.toNat_inj.1 (show x.toNat = 0 by omega))
theorem byte_ne1 (x : UInt8) (h : x ≠ 1) : ((x.toNat : Int) == 1) = false := by
  rw [beq_eq_false_iff_ne]
  intro e
  exact h (UInt8.toNat_inj.1 (show x.toNat = 1 by omega))
theorem byte_ne255 (x : UInt8) (h : x ≠ 255) : ((x.toNat : Int) == 255) = false := by
  rw [beq_eq_false_iff_ne]
  intro e
  exact h (UInt8.toNat_inj.1 (show x.toNat = 255 by omega))

set_option maxHeartbeats 4000000 in
set_option maxRecDepth 100000 in
theorem qtext_any {w : World} {r : Nat} {s : Bs} {f : Bool} (h : Rdq w r s f) (hs : s.length ≤ 1048576) : Calls Tryd.prog 27 #[.pointer (some ⟨r, 0, none⟩)] w (QT r s f w) := by
  obtain ⟨i0, hi0, hz0, hz1, hz2⟩ := info_parts infoByte
  obtain ⟨c0, c1⟩ := h.cells
  have f0 := Blk.frozen h 0
  have hrl := Blk.lt h
  have hsz : (sv s).size = s.length := rfl
  have hgx : ∀ j (p : j < (sv s).size) (q : j < s.length), (sv s)[j]'p = s[j]'q := fun j p q => sv_get s j p
  have hxd := fun n => drop_sv s n
  have FQ := Lib.hid (fun W (hW : Rdq W r s f) => qfail hW)
  have HQ := Lib.hid h
  have HGX := Lib.hid hgx
  have HSZ := Lib.hid hsz
  have HXD := Lib.hid hxd
  have hS : (sv s).size ≤ 1048576 := by omega
  clear hgx hsz hxd h
  generalize sv s = S at *
  go_enter Tryd.func27, Tryd.ntmps27
  go_wp2_with fail
  go_loopw [3, 4] (fun v i wr => ∃ (k : Nat) (out : Bs), k ≤ S.size ∧ i = .int .i64 k ∧ out.length ≤ k ∧ wr.ownsRow w.heap.size 5 1 v out.length (bc out) ∧ decT s = (decT (s.drop k)).map (fun p => (out ++ p.1, p.2)) ∧ Below w.heap.size w wr) (fun _ i _ => S.size - (intOf i).toNat)
  case atStart => exact ⟨0, [], Nat.zero_le _, rfl, Nat.le_refl _, ⟨rfl, .inl ⟨rfl, rfl⟩⟩, by simp, Below.refl _ _⟩
  case round =>
    obtain ⟨k, out, hk, rfl, hok, hown, hdec, hbel⟩ := hrel
    have hsz := hbel.size
    have cr : wr.cell? ⟨r, 0, none⟩ = some (.string S) := (hbel.cell (p := ⟨r, 0, none⟩) hrl).trans c0
    by_cases hlt : k + 1 < S.size
    · have hks : k + 1 < s.length := by have := HSZ.out; omega
      have g1 := HGX.out k (by omega) (by omega)
      have g2 := HGX.out (k + 1) hlt hks
      have hd1 : s.drop k = s[k] :: s[k + 1] :: s.drop (k + 2) := by rw [List.drop_eq_getElem_cons (by omega), List.drop_eq_getElem_cons hks]
      have hd2 : s.drop (k + 1) = s[k + 1] :: s.drop (k + 2) := by rw [List.drop_eq_getElem_cons hks]
      have hb1 := (s[k]).toNat_lt
      have hb2 := (s[k + 1]).toNat_lt
      have d1 : decide ((k : Int) + 1 < (S.size : Int)) = true := decide_eq_true (by omega)
      by_cases hz : s[k] = 0
      · have e0 : ((S[k].toNat : Int) == 0) = true := by rw [g1, hz]; rfl
        have e0' : (!((S[k].toNat : Int) == 0)) = false := by rw [e0]; rfl
        have e0n : ((S[k].toNat : Int) != 0) = false := by rw [bne, e0]; rfl
        by_cases h1 : s[k + 1] = 1
        · have e1 : ((S[k + 1].toNat : Int) == 1) = true := by rw [g2, h1]; rfl
          have hdd : decT s = some (out, s.drop (k + 2)) := by rw [hdec, hd1, hz, h1, decT_end]; simp
          have hne : u3.ownBlock = none ∨ u3.ownBlock ≠ some r := by
            cases ho : u3.ownBlock with
            | none => exact .inl rfl
            | some q => exact .inr (fun e => by have := (hown.lt q ho).1; have e' := Option.some.inj e; omega)
          have hown2 := hown.kept (only_setCell (only_refl wr (some r)) 0 (.string (S.extract (k + 1 + 1) S.size))) hne
          obtain ⟨A2, c2, rfl, hconv⟩ := own_conv hown2
          have HDD := Lib.hid hdd
          have HBEL := Lib.hid hbel
          have hsl : k + 1 + 1 ≤ S.size := hlt
          have fr : wr.frozen? ⟨r, 0, none⟩ = false := (hbel.frozen (p := ⟨r, 0, none⟩) hrl).trans f0
          clear hown hown2 hbel hdec hd1 hd2 g1 g2 hz h1 hdd
          go_wp2_with fail
          go_ret
          refine .inl ⟨out, _, HDD.out, rfl, ?_, only_setCell (only_of_below HBEL.out (some r)) 0 _⟩
          have h5 := Blk.set_ (Rdq.below HQ.out HBEL.out) 0 (.string (S.extract (k + 1 + 1) S.size))
          rw [HXD.out] at h5 ⊢
          exact h5
        · have e1 : ((S[k + 1].toNat : Int) == 1) = false := by rw [g2]; exact byte_ne1 _ h1
          by_cases h2 : s[k + 1] = 255
          · have e2 : ((S[k + 1].toNat : Int) == 255) = true := by rw [g2, h2]; rfl
            have e2' : (!((S[k + 1].toNat : Int) == 255)) = false := by rw [e2]; rfl
            have e2n : ((S[k + 1].toNat : Int) != 255) = false := by rw [bne, e2]; rfl
            have hdd : decT s = (decT (s.drop (k + 2))).map (fun p => ((out ++ [0]) ++ p.1, p.2)) := by rw [hdec, hd1, hz, h2, decT_zero]; simp [Option.map_map, Function.comp_def]
            have HDD := Lib.hid hdd
            clear hdec hd1 hd2 g1 g2 hz h1 h2 hdd
            go_wp2_with (first
              | (at_builtin; go_loud (refine wpList_append_own _ rfl (.tmp 59) (.tmp 60) 34 rfl w.heap.size 5 i0 (.int .u8 0) 1 1 Tryd.underlying34 hi0 hz0 hz1 hz2 rfl (by decide) _ _ _ rfl (hown.alloc _) ⟨wr.heap.size, 0, none⟩ 1 1 [.int .u8 0] rfl rfl (fun j u hj => one_cell rfl j hj) (one_byte _) (by unfold maxLen; omega) (by omega) (by simp; omega) ?_); intro v2 w2 hown2 hgrow2 _; have hb2 : Below w.heap.size w w2 := (hbel.alloc hsz _).grown hgrow2 (by simp; omega) (fun k e => (hown.lt k e).1)))
            have HO : Hid (w2.ownsRow w.heap.size 5 1 v2 (out ++ [0]).length (bc (out ++ [0]))) := Lib.hid (by
              rw [bc_append]
              simpa [bc] using hown2)
            have HBB := Lib.hid hb2
            clear hown hbel hown2 hgrow2 hb2
            go_roundw
            case rel => exact ⟨k + 2, out ++ [0], by omega, by go_num, by simp; omega, HO.out, HDD.out, HBB.out⟩
            case measure => simp [intOf]; omega
          · have e2 : ((S[k + 1].toNat : Int) == 255) = false := by rw [g2]; exact byte_ne255 _ h2
            have e2' : (!((S[k + 1].toNat : Int) == 255)) = true := by rw [e2]; rfl
            have e2n : ((S[k + 1].toNat : Int) != 255) = true := by rw [bne, e2]; rfl
            have hdd : decT s = none := by rw [hdec, hd1, hz, decT_bad _ h1 h2]; rfl
            have HDD := Lib.hid hdd
            have HBEL := Lib.hid hbel
            clear hown hbel hdec hd1 hd2 g1 g2 hz h1 h2 hdd
            go_wp2_with fail
            refine (FQ.out _ (Rdq.below HQ.out HBEL.out)).mono ?_
            rintro e w5 ⟨rfl, h1, h2⟩
            have HQI : Hid (QT r s f w (.returned (.string (sv []))) w5) := Lib.hid (.inr ⟨HDD.out, rfl, h1, only_trans (only_of_below HBEL.out (some r)) h2⟩)
            clear h1 h2
            go_wp2_with fail
            go_ret
            exact HQI.out
      · have e0 : ((S[k].toNat : Int) == 0) = false := by rw [g1]; exact byte_ne0 _ hz
        have e0' : (!((S[k].toNat : Int) == 0)) = true := by rw [e0]; rfl
        have e0n : ((S[k].toNat : Int) != 0) = true := by rw [bne, e0]; rfl
        have hdd : decT s = (decT (s.drop (k + 1))).map (fun p => ((out ++ [S[k]]) ++ p.1, p.2)) := by rw [hdec, hd1, decT_other hz, ← hd2, g1]; simp [Option.map_map, Function.comp_def]
        have HDD := Lib.hid hdd
        clear hdec hd1 hd2 g2 hdd
        rw [← g1] at hb1
        clear g1 hz
        go_wp2_with (first
          | (at_builtin; go_loud (refine wpList_append_own _ rfl (.tmp 22) (.tmp 29) 34 rfl w.heap.size 5 i0 (.int .u8 0) 1 1 Tryd.underlying34 hi0 hz0 hz1 hz2 rfl (by decide) _ _ _ rfl (hown.alloc _) ⟨wr.heap.size, 0, none⟩ 1 1 [.int .u8 (S[k].toNat : Int)] rfl rfl (fun j u hj => one_cell rfl j hj) (one_byte _) (by unfold maxLen; omega) (by omega) (by simp; omega) ?_); intro v2 w2 hown2 hgrow2 _; have hb2 : Below w.heap.size w w2 := (hbel.alloc hsz _).grown hgrow2 (by simp; omega) (fun k e => (hown.lt k e).1)))
        have HO : Hid (w2.ownsRow w.heap.size 5 1 v2 (out ++ [S[k]]).length (bc (out ++ [S[k]]))) := Lib.hid (by
          rw [bc_append]
          simpa [bc] using hown2)
        have HBB := Lib.hid hb2
        clear hown hbel hown2 hgrow2 hb2
        go_roundw
        case rel => exact ⟨k + 1, out ++ [S[k]], by omega, by go_num, by simp; omega, HO.out, HDD.out, HBB.out⟩
        case measure => simp [intOf]; omega
    · have d1 : decide ((k : Int) + 1 < (S.size : Int)) = false := decide_eq_false (by omega)
      have hdd : decT s = none := by
        rw [hdec, decT_short (by rw [List.length_drop]; have := HSZ.out; omega)]; rfl
      have HDD := Lib.hid hdd
      have HBEL := Lib.hid hbel
      clear hown hbel hdec hdd
      go_wp2_with fail
      refine (FQ.out _ (Rdq.below HQ.out HBEL.out)).mono ?_
      rintro e w5 ⟨rfl, h1, h2⟩
      have HQI : Hid (QT r s f w (.returned (.string (sv []))) w5) := Lib.hid (.inr ⟨HDD.out, rfl, h1, only_trans (only_of_below HBEL.out (some r)) h2⟩)
      clear h1 h2
      go_wp2_with fail
      go_ret
      exact HQI.out
end Go.Proofs.YtocbodjmdgoaiaaDoor
