/- The statement WireWrites, walked: the encodings of light values are those of the reference. Conditions: those of the walk. -/
import Derived.Test.YtocbodjmdgoaiaaDoorWRefT
import Derived.Deep.RegionHeld3
namespace Go.Proofs.YtocbodjmdgoaiaaDoor
open Go.RowKit Wm
set_option linter.unusedVariables false

def numE (n : Int) : Bs := if n < 0 then [] else encI n
theorem num_all (n : Int) (hn : J64 n) (w : World) : Calls Tryd.prog 12 #[.int .i64 n] w fun e w' => e = .returned (.string (sv (numE n))) ∧ Below w.heap.size w w' := by
  unfold numE
  by_cases h : n < 0
  · rw [if_pos h]; exact num_neg n h w
  · rw [if_neg h]; exact num_pos n (by omega) hn w
theorem rf_num_all (n : Int) (hn : J64 n) (w : World) : Calls Tryd.prog 13 #[.int .i64 n] w fun e w' => e = .returned (.string (sv (numE n))) ∧ Below w.heap.size w w' := by
  unfold numE
  by_cases h : n < 0
  · rw [if_pos h]; exact rf_num_neg n h w
  · rw [if_neg h]; exact rf_num_pos n (by omega) hn w
/-- What a step of the comparison needs, and keeps. -/
def Sp (w : World) (g : Nat) (v : Va) (S : ByteArray) (W : World) : Prop := W.cell? ⟨g, 1, none⟩ = some (.int .i64 v.n) ∧ W.cell? ⟨g, 2, none⟩ = some (.string S) ∧ W.cell? ⟨g, 3, none⟩ = some (.slice v.la v.ln v.lc) ∧ W.cell? ⟨g, 4, none⟩ = some (.slice v.ta v.tn v.tc) ∧ Below w.heap.size w W ∧ g < W.heap.size
theorem sp_step {w : World} {g : Nat} {v : Va} {S : ByteArray} {W w' : World} (h : Sp w g v S W) (hb : Below W.heap.size W w') : Sp w g v S w' := by
  obtain ⟨h1, h2, h3, h4, h5, h6⟩ := h
  have hk : ∀ o, w'.cell? ⟨g, o, none⟩ = W.cell? ⟨g, o, none⟩ := fun o => hb.cell (p := ⟨g, o, none⟩) h6
  exact ⟨(hk 1).trans h1, (hk 2).trans h2, (hk 3).trans h3, (hk 4).trans h4, h5.trans (hb.mono h5.size), Nat.lt_of_lt_of_le h6 hb.size⟩

set_option maxHeartbeats 8000000 in
set_option maxRecDepth 100000 in
theorem writes_walk {A : Option Addr} {n c : Nat} {vs : List Va} {x : Int} {w : World} (hr : RdV w A n vs) (hl : lightB vs = true) (hx : J64 x) (hm : Mx w) :
    Calls Tryd.prog 3 #[.slice A n c, .int .i64 x] w (IsTrue w) := by
  have hlen := hr.1
  obtain ⟨l1, l2⟩ := lightB_parts hl
  have hn20 : n ≤ 20 := by omega
  have HR := Lib.hid hr
  have HM := Lib.hid hm
  have HLen := Lib.hid hlen
  have HL2 := Lib.hid l2
  have SM := Lib.hid (small_any hm)
  have LT := Lib.hid (fun W (hW : RdV W A n vs) => light_any (c := c) hW (by omega))
  rw [hl] at LT
  have X1 := Lib.hid (fun W => int_any x hx W)
  have X2 := Lib.hid (fun W => rf_int x hx W)
  clear hr hm hlen l2 hl l1 hx
  go_enter Tryd.func3, Tryd.ntmps3
  go_wp2_with fail
  refine SM.out.mono ?_
  rintro e w1 ⟨rfl, hb1⟩
  have HB1 := Lib.hid hb1
  clear hb1
  go_wp2_with fail
  refine (LT.out _ (HR.out.below HB1.out)).mono ?_
  rintro e w2 ⟨rfl, rfl⟩
  go_wp2_with fail
  go_loopw [7] (fun i wr => ∃ k : Nat, k ≤ n ∧ i = .int .i64 k ∧ Hid (Below w.heap.size w wr)) (fun i _ => n - (intOf i).toNat)
  case atStart => exact ⟨0, Nat.zero_le _, rfl, HB1⟩
  case round =>
    obtain ⟨k, hk, rfl, HBE⟩ := hrel
    by_cases hlt : k < n
    · have hrw2 := HR.out.below HBE.out
      obtain ⟨b, off, e, hlb, hc⟩ := hrw2.2.2 (by omega)
      have hkv : k < vs.length := by have := HLen.out; omega
      obtain ⟨v, hv⟩ : ∃ v, vs[k]? = some v := ⟨vs[k], List.getElem?_eq_getElem hkv⟩
      subst e
      obtain ⟨g0, g1, g2, g3, g4⟩ := hc k v hv
      have HVA := Lib.hid (HR.out.2.1 v (List.mem_of_getElem? hv))
      have HLV := Lib.hid (light_parts (HL2.out v (List.mem_of_getElem? hv)))
      clear hc hlb hrw2 hv
      go_wp2_with fail
      have hA : Sp w wr.heap.size v (sv v.s) (wr.alloc (.cells #[.int .i64 v.k, .int .i64 v.n, .string (sv v.s), .slice v.la v.ln v.lc, .slice v.ta v.tn v.tc] 28)) := by
        have hb := Blk.new wr 28 #[.int .i64 v.k, .int .i64 v.n, .string (sv v.s), .slice v.la v.ln v.lc, .slice v.ta v.tn v.tc]
        exact ⟨hb.cell 1, hb.cell 2, hb.cell 3, hb.cell 4, HBE.out.trans ((below_alloc wr _).mono HBE.out.size), hb.lt⟩
      generalize wr.alloc (.cells #[.int .i64 v.k, .int .i64 v.n, .string (sv v.s), .slice v.la v.ln v.lc, .slice v.ta v.tn v.tc] 28) = W1 at *
      generalize wr.heap.size = g at *
      have C1 := Lib.hid (fun W (h : Sp w g v (sv v.s) W) => (int_any v.n HVA.out.2.1 W).mono fun e w' ⟨he, hb⟩ => (⟨he, sp_step h hb⟩ : _ ∧ Sp w g v (sv v.s) w'))
      have C2 := Lib.hid (fun W (h : Sp w g v (sv v.s) W) => (rf_int v.n HVA.out.2.1 W).mono fun e w' ⟨he, hb⟩ => (⟨he, sp_step h hb⟩ : _ ∧ Sp w g v (sv v.s) w'))
      have C3 := Lib.hid (fun W (h : Sp w g v (sv v.s) W) => (num_all v.n HVA.out.2.1 W).mono fun e w' ⟨he, hb⟩ => (⟨he, sp_step h hb⟩ : _ ∧ Sp w g v (sv v.s) w'))
      have C4 := Lib.hid (fun W (h : Sp w g v (sv v.s) W) => (rf_num_all v.n HVA.out.2.1 W).mono fun e w' ⟨he, hb⟩ => (⟨he, sp_step h hb⟩ : _ ∧ Sp w g v (sv v.s) w'))
      have C5 := Lib.hid (fun W (h : Sp w g v (sv v.s) W) => (text_any v.s (by have := HLV.out.1; omega) (HM.out.self h.2.2.2.2.1)).mono fun e w' ⟨he, hb⟩ => (⟨he, sp_step h hb⟩ : _ ∧ Sp w g v (sv v.s) w'))
      have C6 := Lib.hid (fun W (h : Sp w g v (sv v.s) W) => (rf_text v.s (by have := HLV.out.1; omega) W).mono fun e w' ⟨he, hb⟩ => (⟨he, sp_step h hb⟩ : _ ∧ Sp w g v (sv v.s) w'))
      have C7 := Lib.hid (fun W (h : Sp w g v (sv v.s) W) => (nums_any v.la v.ln v.lc v.l (HVA.out.below h.2.2.2.2.1).2.2.2.2.2.2.2.1 (by have := HLV.out.2.1; omega) HVA.out.2.2.2.2.2.1).mono fun e w' ⟨he, hb⟩ => (⟨he, sp_step h hb⟩ : _ ∧ Sp w g v (sv v.s) w'))
      have C8 := Lib.hid (fun W (h : Sp w g v (sv v.s) W) => (rf_nums (c := v.lc) (HVA.out.below h.2.2.2.2.1).2.2.2.2.2.2.2.1 (by have := HLV.out.2.1; omega) HVA.out.2.2.2.2.2.1).mono fun e w' ⟨he, hb⟩ => (⟨he, sp_step h hb⟩ : _ ∧ Sp w g v (sv v.s) w'))
      have C9 := Lib.hid (fun W (h : Sp w g v (sv v.s) W) => (texts_any v.ta v.tn v.tc v.t (HVA.out.below h.2.2.2.2.1).2.2.2.2.2.2.2.2 (by have := HLV.out.2.2.1; omega) (fun z hz => by have := HLV.out.2.2.2 z hz; omega) (HM.out.self h.2.2.2.2.1)).mono fun e w' ⟨he, hb⟩ => (⟨he, sp_step h hb⟩ : _ ∧ Sp w g v (sv v.s) w'))
      have C10 := Lib.hid (fun W (h : Sp w g v (sv v.s) W) => (rf_texts (c := v.tc) (HVA.out.below h.2.2.2.2.1).2.2.2.2.2.2.2.2 (by have := HLV.out.2.2.1; omega) (fun z hz => by have := HLV.out.2.2.2 z hz; omega)).mono fun e w' ⟨he, hb⟩ => (⟨he, sp_step h hb⟩ : _ ∧ Sp w g v (sv v.s) w'))
      generalize sv (encI v.n) = E1 at *
      generalize sv (numE v.n) = E2 at *
      generalize sv (encT v.s) = E3 at *
      generalize sv (encL encI v.l) = E4 at *
      generalize sv (encL encT v.t) = E5 at *
      generalize sv v.s = S at *
      have a1 : (!E1.toList == E1.toList) = false := by simp
      have a2 : (!E2.toList == E2.toList) = false := by simp
      have a3 : (!E3.toList == E3.toList) = false := by simp
      have a4 : (!E4.toList == E4.toList) = false := by simp
      have a5 : (!E5.toList == E5.toList) = false := by simp
      clear g0 g1 g2 g3 g4
      obtain ⟨s1, s2, s3, s4, s5, s6⟩ := hA
      go_upto_region 9 with fail
      go_cut [67] (fun x wx => x = .bool false ∧ Below w.heap.size w wx)
      case first =>
        go_region_held3 (fun W => W.cell? ⟨g, 1, none⟩ = some (.int .i64 v.n) ∧ W.cell? ⟨g, 2, none⟩ = some (.string S) ∧ W.cell? ⟨g, 3, none⟩ = some (.slice v.la v.ln v.lc) ∧ W.cell? ⟨g, 4, none⟩ = some (.slice v.ta v.tn v.tc) ∧ Below w.heap.size w W ∧ g < W.heap.size)
          (((try dsimp only); (refine ⟨?_, ?_, ?_, ?_, ?_, ?_⟩ <;> (first | assumption | go_keep | exact ⟨s5.os, s5.tape, s5.output, s5.size, s5.block⟩))))
          ((first
            | (go_at_call 10; refine (C1.out _ ?_).mono ?_; assumption; rintro e w' ⟨rfl, h1, h2, h3, h4, h5, h6⟩)
            | (go_at_call 11; refine (C2.out _ ?_).mono ?_; assumption; rintro e w' ⟨rfl, h1, h2, h3, h4, h5, h6⟩)
            | (go_at_call 12; refine (C3.out _ ?_).mono ?_; assumption; rintro e w' ⟨rfl, h1, h2, h3, h4, h5, h6⟩)
            | (go_at_call 13; refine (C4.out _ ?_).mono ?_; assumption; rintro e w' ⟨rfl, h1, h2, h3, h4, h5, h6⟩)
            | (go_at_call 14; refine (C5.out _ ?_).mono ?_; assumption; rintro e w' ⟨rfl, h1, h2, h3, h4, h5, h6⟩)
            | (go_at_call 15; refine (C6.out _ ?_).mono ?_; assumption; rintro e w' ⟨rfl, h1, h2, h3, h4, h5, h6⟩)
            | (go_at_call 16; refine (C7.out _ ?_).mono ?_; assumption; rintro e w' ⟨rfl, h1, h2, h3, h4, h5, h6⟩)
            | (go_at_call 17; refine (C8.out _ ?_).mono ?_; assumption; rintro e w' ⟨rfl, h1, h2, h3, h4, h5, h6⟩)
            | (go_at_call 18; refine (C9.out _ ?_).mono ?_; assumption; rintro e w' ⟨rfl, h1, h2, h3, h4, h5, h6⟩)
            | (go_at_call 19; refine (C10.out _ ?_).mono ?_; assumption; rintro e w' ⟨rfl, h1, h2, h3, h4, h5, h6⟩)))
        all_goals
          go_wp2_with fail
          go_meet
          exact ⟨rfl, by assumption⟩
      case rest =>
        obtain ⟨rfl, hb4⟩ := hcut
        have HB4 := Lib.hid hb4
        clear hb4
        go_wp2_with fail
        go_roundw
        case rel => exact ⟨k + 1, by omega, by go_num, HB4⟩
        case measure => simp [intOf]; omega
    · obtain rfl : k = n := by omega
      have dE : ((sv (encI x)).toList == (sv (encI x)).toList) = true := by simp
      generalize sv (encI x) = E at *
      go_wp2_with fail
      refine (X1.out _).mono ?_
      rintro e w4 ⟨rfl, hb4⟩
      have HB4 := Lib.hid (HBE.out.trans (hb4.mono HBE.out.size))
      clear hb4
      go_wp2_with fail
      refine (X2.out _).mono ?_
      rintro e w5 ⟨rfl, hb5⟩
      have HB5 := Lib.hid (HB4.out.trans (hb5.mono HB4.out.size))
      clear hb5
      go_wp2_with fail
      go_ret
      exact ⟨rfl, HB5.out⟩
end Go.Proofs.YtocbodjmdgoaiaaDoor
