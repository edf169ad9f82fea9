/- wal's Rewrite. Conditions: the disk and the log lie in memory of their own, the rows outside of it; at most 10^6 rows with 10^8 bytes. -/
import Derived.Test.YtdjchpejhfkknaaLBld
namespace Go.Proofs.Ytdjchpejhfkknaa.Lw
open Go.RowKit Km Dk
open Lm hiding Bs
set_option linter.unusedVariables false
set_option maxRecDepth 100000

def wrewE (s : St) (f : Nat) (ts : List Bs) : Int := if ts.any tooB then 8 else (rep s f (recs ts)).1
def wrewS (s : St) (f : Nat) (ts : List Bs) : St := if ts.any tooB then s else (rep s f (recs ts)).2
def wrewR (s : St) (f : Nat) (rows ts : List Bs) : List Bs := if wrewE s f ts = 0 then ts else rows
theorem Texts.stay {w w' : World} {v : Value} {ts : List Bs} (h : Texts w v ts) (hs : w.heap.size ≤ w'.heap.size) (hb : ∀ b, vblock v = some b → w'.heap[b]? = w.heap[b]?) : Texts w' v ts := by
  obtain ⟨a, c, rfl, h1, h2, hc⟩ := h
  refine ⟨a, c, rfl, h1, h2, fun h0 => ?_⟩
  obtain ⟨b, o, rfl, h3, h4⟩ := hc h0
  refine ⟨b, o, rfl, Nat.lt_of_lt_of_le h3 hs, fun j t ht => ?_⟩
  have hbb := hb b (vblock_some h0)
  exact (World.cell?_of_block (a := ⟨b, o + j, none⟩) hbb).trans (h4 j t ht)
theorem Texts.lt {w : World} {v : Value} {ts : List Bs} (h : Texts w v ts) {b : Nat} (hb : vblock v = some b) : b < w.heap.size := by
  obtain ⟨a, c, rfl, h1, h2, hc⟩ := h
  by_cases h0 : 0 < ts.length
  · obtain ⟨b', o, rfl, h3, h4⟩ := hc h0
    rw [vblock_some h0] at hb
    injection hb with hb
    subst hb
    exact h3
  · exfalso
    have e0 : ts.length = 0 := by omega
    rw [e0] at hb
    cases a <;> simp [vblock] at hb
theorem Texts.below {w w' : World} {v : Value} {ts : List Bs} (h : Texts w v ts) (hb : Below w.heap.size w w') : Texts w' v ts := Texts.stay h hb.size fun b e => hb.block b (Texts.lt h e)
/-- slices.Clone of rows. -/
theorem clone_texts {w : World} {v : Value} {l : List Bs} (h : Texts w v l) (hl : l.length ≤ 1000000) : Calls Try.prog 54 #[v] w fun e w' => ∃ v', e = .returned v' ∧ w'.ownsRow w.heap.size 9 1 v' l.length (sc l) ∧ Below w.heap.size w w' := by
  obtain ⟨a, c, rfl, h1, h2, hc⟩ := h
  cases a with
  | none =>
    have h0 : l = [] := by
      rcases l with _ | ⟨x, t⟩
      · rfl
      · obtain ⟨b, o, h, _⟩ := hc (by simp)
        cases h
    subst h0
    refine (Try.slices_Clone_string_nil _ c w).mono ?_
    rintro e w' ⟨rfl, rfl⟩
    exact ⟨_, rfl, World.ownsRow_nil _ _ _ _, below_self _⟩
  | some a =>
    by_cases h0 : l.length = 0
    · have hn : l = [] := List.eq_nil_of_length_eq_zero h0
      subst hn
      refine (Try.slices_Clone_string_zero a c w).mono ?_
      rintro e w' ⟨v, rfl, h1, _, h3⟩
      exact ⟨_, rfl, h1, h3⟩
    · obtain ⟨g, o, hg, _, h4⟩ := hc (by omega)
      injection hg with hg
      subst hg
      have hm : ((l.map sv).take l.length).map Value.string = sc l := by rw [List.take_of_length_le (by simp)]; simp [sc]
      have hcc := Try.slices_Clone_string g o l.length c (l.map sv) w (by simp) (by omega) (fun j hj => by
        have hj' : j < l.length := by simpa using hj
        rw [h4 j _ (List.getElem?_eq_getElem hj'), List.getD_eq_getElem?_getD, List.getElem?_map, List.getElem?_eq_getElem hj']
        rfl)
      rw [hm] at hcc
      refine hcc.mono ?_
      rintro e w' ⟨v, rfl, h1, _, h3⟩
      exact ⟨_, rfl, h1, h3⟩
theorem Below.grownBy {B : Nat} {w w' : World} (h : Below B w w') (hB : w.heap.size ≤ B) : w.grownBy w' none := ⟨h.os, h.tape, h.output, h.size, fun k hk _ => h.block k (by omega)⟩
theorem BAt.keep {B b : Nat} {q : Value} {l : Bs} {w w' : World} (h : BAt B b q l w) (hb : Below w.heap.size w w') : BAt B b q l w' := by
  obtain ⟨h1, v, h2, h3, h4⟩ := h
  have hlt : b < w.heap.size := Lib.BuilderAt.lt ⟨h1, v, h2, h3, h4⟩
  exact ⟨h1, v, (hb.block b hlt).trans h2, owns_block h3 (fun g hg => hb.block g (h3.lt g hg).2), h4⟩
section
variable {D M : Nat → Prop} {p r f : Nat} {s : St} {rows : List Bs} {w w' : World}
set_option maxHeartbeats 4000000 in
theorem wrewrite_any (h : LD D M r p f s rows w) (hf6 : f ≤ 6) {v : Value} {ts : List Bs} (ht : Texts w v ts) (hout : ∀ b, vblock v = some b → ¬ D b) (hl : ts.length ≤ 100000) (hz : (recs ts).length ≤ 100000000) :
    Calls Try.prog 34 #[.pointer (some ⟨p, 0, none⟩), v] w fun e w' => e = .returned (.int .i64 (wrewE s f ts)) ∧ Aft D M r p f (wrewS s f ts) (wrewR s f rows ts) w w' := by
  have HT := Lib.hid ht
  have HCO := Lib.hid (contains_any ht (by omega))
  have HOUT := Lib.hid hout
  have HL := Lib.hid h
  by_cases hany : ts.any tooB = true
  · have e1 : wrewE s f ts = 8 := by unfold wrewE; rw [if_pos hany]
    have e2 : wrewS s f ts = s := by unfold wrewS; rw [if_pos hany]
    have e3 : wrewR s f rows ts = rows := by unfold wrewR; rw [e1, if_neg (by decide)]
    rw [e1, e2, e3]
    rw [hany] at HCO
    clear e1 e2 e3 hout h hany
    obtain ⟨a, c, rfl, _⟩ := ht
    clear hl hz
    generalize ts.length = n at *
    go_enter Try.func34, Try.ntmps34
    go_wp2_with fail
    refine HCO.out.mono ?_
    rintro e w1 ⟨rfl, hb⟩
    go_wp2_with fail
    go_ret
    exact ⟨rfl, HL.out.aft (HL.out.dsk.below hb) ((Fr.refl D w).below hb)⟩
  · have hany' : ts.any tooB = false := by simpa using hany
    have e1 : wrewE s f ts = (rep s f (recs ts)).1 := by unfold wrewE; rw [if_neg hany]
    have e2 : wrewS s f ts = (rep s f (recs ts)).2 := by unfold wrewS; rw [if_neg hany]
    have HE3 := Lib.hid (show wrewR s f rows ts = if (rep s f (recs ts)).1 = 0 then ts else rows from by unfold wrewR; rw [e1])
    rw [e1, e2]
    rw [hany'] at HCO
    have HRP := Lib.hid (fun W (hW : LD D M r p f s rows W) => replace_any hW hf6 (recs ts) (by omega))
    have HZ := Lib.hid hz
    clear e1 e2 hany hany' hout h hz
    generalize rep s f (recs ts) = PP at *
    obtain ⟨a, c, rfl, _⟩ := ht
    obtain ⟨n, hn⟩ : ∃ n, ts.length = n := ⟨_, rfl⟩
    have HN := Lib.hid hn
    rw [hn] at hl HT HCO HOUT ⊢
    clear hn
    go_enter Try.func34, Try.ntmps34
    go_wp2_with fail
    refine HCO.out.mono ?_
    rintro e w1 ⟨rfl, hb1⟩
    have HB1 := Lib.hid hb1
    clear hb1
    go_wp2_with fail
    obtain ⟨B, hB⟩ : ∃ B, w1.heap.size = B := ⟨_, rfl⟩
    have hW0 : BAt B B (.pointer none) (recs (ts.take 0)) (w1.alloc (.cells #[.pointer none, .slice none 0 0] 105)) := by
      rw [← hB]
      exact ⟨Nat.le_refl _, .slice none 0 0, heap_alloc_new w1 _, World.ownsRow_nil _ _ _ _, by simp [Value.ownBlock]⟩
    have hW1 : Below B w1 (w1.alloc (.cells #[.pointer none, .slice none 0 0] 105)) := by rw [← hB]; exact below_alloc _ _
    have HW := Lib.hid (And.intro hW0 hW1)
    have HBB := Lib.hid hB
    clear hW0 hW1
    rw [hB]
    clear hB
    go_loopw [13] (fun i W => ∃ k : Nat, k ≤ n ∧ i = .int .i64 k ∧ Hid ((∃ q, (q = .pointer none ∨ q = .pointer (some ⟨B, 0, none⟩)) ∧ BAt B B q (recs (ts.take k)) W) ∧ Below B w1 W)) (fun i _ => n - (intOf i).toNat)
    case atStart => exact ⟨0, Nat.zero_le _, rfl, Lib.hid ⟨⟨_, .inl rfl, HW.out.1⟩, HW.out.2⟩⟩
    case round =>
      obtain ⟨k, hk, rfl, HD⟩ := hrel
      by_cases hlt : k < n
      · obtain ⟨b, hb⟩ : ∃ b, ts[k]? = some b := ⟨ts[k]'(by have := HN.out; omega), List.getElem?_eq_getElem _⟩
        have hT1 := Texts.below HT.out HB1.out
        obtain ⟨_, _, hsl, _, hlen, hcc⟩ := hT1
        injection hsl with hsl1 hsl2 hsl3
        subst hsl1
        obtain ⟨g, o, rfl, hg, hcell⟩ := hcc (by have := HN.out; omega)
        have c1 : wr.cell? ⟨g, o + k, none⟩ = some (.string (sv b)) := (HD.out.2.cell (p := ⟨g, o + k, none⟩) (by rw [← HBB.out]; exact hg)).trans (hcell k b hb)
        have hsum : (recs (ts.take (k + 1))) = recs (ts.take k) ++ recB b := by rw [take_snoc hb, recs_append, recs_one]
        have hle : (recs (ts.take (k + 1))).length ≤ 100000000 := by
          have := recs_take_mono ts (m := k + 1) (n := ts.length) (by have := HN.out; omega)
          rw [List.take_length] at this
          exact Nat.le_trans this HZ.out
        have hbl : b.length ≤ 1000000000 := by
          have := congrArg List.length hsum
          rw [List.length_append, recB_length] at this
          omega
        have HR := Lib.hid (fun W => record_any b hbl W)
        have HS := Lib.hid hsum
        have HLE := Lib.hid hle
        clear hb hcell hcc hlen hsum hle hbl hg hsl2 hsl3
        --GG
        go_wp2_with fail
        refine (HR.out _).mono ?_
        rintro e w2 ⟨rfl, hb2⟩
        obtain ⟨⟨q, hq, hbd⟩, hbw⟩ := HD.out
        have hlt2 : B < wr.heap.size := hbd.lt
        have hbd2 : BAt B B q (recs (ts.take k)) w2 := BAt.keep hbd hb2
        have hwr := Lib.hid (write_any B B q (recs (ts.take k)) (recB b) w2 hbd2 hq (by have := HLE.out; rw [HS.out, List.length_append] at this; omega) (by have := hb2.size; omega))
        have HB2 := Lib.hid (hbw.trans (hb2.mono (by omega)))
        clear hb2 hbd hbd2 hbw hq
        go_wp2_with fail
        refine hwr.out.mono ?_
        rintro e w3 ⟨rfl, k1, k2⟩
        have K1 := Lib.hid k1
        have K2 := Lib.hid k2
        clear k1 k2
        go_wp2_with fail
        go_roundw
        case rel => exact ⟨k + 1, hlt, by go_num, Lib.hid ⟨⟨_, .inr rfl, by rw [HS.out]; exact K1.out⟩, HB2.out.trans K2.out⟩⟩
        case measure => simp [intOf]; omega
      · obtain rfl : k = n := by omega
        obtain ⟨⟨q, hq, hbd⟩, hbw⟩ := HD.out
        have htk : ts.take k = ts := by rw [← HN.out]; exact List.take_length
        rw [htk] at hbd
        have hst := Try.Builder_String_any B B (recs ts) wr (hq.elim (fun e => .inl (e ▸ hbd)) (fun e => .inr (e ▸ hbd))) (Nat.le_of_lt hbd.lt)
        have HST := Lib.hid hst
        have HBW := Lib.hid hbw
        clear hq hbd hbw htk hst HD
        go_wp2_with fail
        refine HST.out.mono ?_
        rintro e w2 ⟨rfl, hb2⟩
        have hbel : Below w.heap.size w w2 := HB1.out.trans ((HBW.out.trans hb2).mono (by rw [← HBB.out]; exact HB1.out.size))
        have HLD := Lib.hid (HL.out.below hbel)
        have HT2 := Lib.hid (Texts.below HT.out hbel)
        have HFR := Lib.hid ((Fr.refl D w).below hbel)
        clear hb2 hbel HST HBW
        go_wp2_with fail
        refine (HRP.out _ HLD.out).mono ?_
        rintro e w3 ⟨rfl, h3, hf3⟩
        have hT3 : Texts w3 (.slice a k c) ts := Texts.stay HT2.out hf3.size fun b hb => hf3.block b (Texts.lt HT2.out hb) (HOUT.out b hb)
        have HL3 := Lib.hid h3
        have HF3 := Lib.hid (HFR.out.trans hf3)
        have HT3 := Lib.hid hT3
        clear h3 hf3 hT3 HT2 HT HCO HLD
        obtain ⟨E, hE⟩ : ∃ E, PP.1 = E := ⟨_, rfl⟩
        have HE3' := HE3.out
        rw [hE] at HE3' ⊢
        have HPE := Lib.hid hE
        have HE4 := Lib.hid HE3'
        clear HE3' HE3
        by_cases h0 : E = 0
        · have hr := HE4.out
          rw [if_pos h0] at hr
          have HR := Lib.hid hr
          have hcl := clone_texts HT3.out (by have := HN.out; omega)
          rw [HN.out] at hcl
          have HCL := Lib.hid hcl
          obtain ⟨v0, hbl, ho, hv⟩ := HL3.out.log.blk
          have HBL := Lib.hid hbl
          have HO := Lib.hid ho
          have HV := Lib.hid hv
          clear hr hcl hbl ho hv hE
          subst h0
          go_wp2_with fail
          refine HCL.out.mono ?_
          rintro e w4 ⟨v', rfl, hown, hb4⟩
          have hA := (HL3.out.rowsTo (v := v0) (v' := v') (rows' := ts) HBL.out HO.out HV.out ⟨hb4.os, hb4.tape, hb4.output, hb4.size, fun g hg _ => hb4.block g hg⟩ (by rw [HN.out]; exact owns_base hown) (fun b hb => .inl (hown.lt b hb))).from HF3.out
          have hp4 : Blk w4 p 87 #[.pointer (some ⟨r, 0, none⟩), .int .i64 ((f : Nat) : Int), v0] := (hb4.block p HBL.out.lt).trans HBL.out
          have z1 := hp4.cell 2
          have z2 := hp4.frozen 2
          obtain ⟨va', vc', rfl⟩ := owns_slice hown
          have HA := Lib.hid hA
          obtain ⟨v0a, v0c, hv0⟩ := owns_slice HO.out
          have z1 : w4.cell? ⟨p, 2, none⟩ = some (.slice v0a rows.length v0c) := by rw [← hv0]; exact z1
          clear hA hb4 hown hp4
          go_wp2_with fail
          go_ret
          exact ⟨ret_i HPE.out.symm, by rw [HR.out]; exact HA.out⟩
        · have hr := HE4.out
          rw [if_neg h0] at hr
          have HR := Lib.hid hr
          have dE : (E != 0) = true := by simpa using h0
          have hA := HL.out.aft HL3.out.dsk HF3.out
          have HA := Lib.hid hA
          clear hr h0 hA hE
          go_wp2_with fail
          go_ret
          exact ⟨ret_i HPE.out.symm, by rw [HR.out]; exact HA.out⟩
end
end Go.Proofs.Ytdjchpejhfkknaa.Lw
