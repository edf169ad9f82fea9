/- The walk of the law that both readers read the same. Conditions: the row's: at most 1000 bytes, at most 30 calls. -/
import Derived.Test.YtocbodjmdgoaiaaDoorWPair
namespace Go.Proofs.YtocbodjmdgoaiaaDoor
open Go.RowKit Wm
set_option linter.unusedVariables false

/-- Behind the switch: both have the same left. -/
def Even (r q : Nat) (w : World) (x : Value) (wc : World) : Prop := x = .bool true ∧ ∃ (rest : Bs) (f : Bool), rest.length ≤ 1000 ∧ (f = true → rest = []) ∧ Rdr wc r rest f ∧ Rdq wc q rest f ∧ Below w.heap.size w wc

set_option maxHeartbeats 8000000 in
set_option maxRecDepth 100000 in
theorem reads_walk {A : Option Addr} {n c : Nat} {zs : List Int} {s : Bs} {w : World} (hr : Rd w A n (uv zs)) (hz : ∀ z ∈ zs, 0 ≤ z ∧ z ≤ 255) (hs : s.length ≤ 1000) (hn : n ≤ 30) (hm : Mx w) :
    Calls Tryd.prog 4 #[.string (sv s), .slice A n c] w (IsTrue w) := by
  have hsz : (sv s).size = s.length := rfl
  have hlen : zs.length = n := by simpa [uv] using hr.1
  have d1 : decide ((1000 : Int) < ((sv s).size : Int)) = false := decide_eq_false (by omega)
  have d2 : decide ((30 : Int) < (n : Int)) = false := decide_eq_false (by omega)
  have HR := Lib.hid hr
  have HZ := Lib.hid hz
  have HM := Lib.hid hm
  have HL := Lib.hid hlen
  have SM := Lib.hid (small_any hm)
  have OP := Lib.hid (fun W => open_any s W)
  have OQ := Lib.hid (fun W => qopen s W)
  have HSZ := Lib.hid hsz
  clear hr hz hm hlen hsz
  generalize hS : sv s = S at *
  have HS := Lib.hid hS
  clear hS
  have hS1 : S.size ≤ 1000 := by have := HSZ.out; omega
  go_enter Tryd.func4, Tryd.ntmps4
  go_wp2_with fail
  refine SM.out.mono ?_
  rintro e w1 ⟨rfl, hb1⟩
  have HB1 := Lib.hid hb1
  clear hb1
  go_wp2_with fail
  refine (OP.out _).mono ?_
  rintro e w2 ⟨rfl, r2, b2, s2⟩
  have R2 := Lib.hid r2
  have HB2 := Lib.hid (below_trans HB1.out b2)
  have hrw := HB1.out.size
  clear b2
  obtain ⟨r, hrr⟩ : ∃ r, r = w1.heap.size := ⟨_, rfl⟩
  rw [← hrr] at R2 hrw s2 ⊢
  clear hrr r2
  have hmr : 0 < r := by have := Mx.lt HM.out; omega
  go_wp2_with fail
  refine (OQ.out _).mono ?_
  rintro e w3 ⟨rfl, r3, b3, s3⟩
  have R3 := Lib.hid (R2.out.below b3)
  have Q3 := Lib.hid r3
  have HB3 := Lib.hid (below_trans HB2.out b3)
  obtain ⟨q, hqq⟩ : ∃ q, q = w2.heap.size := ⟨_, rfl⟩
  have hqw : w.heap.size ≤ q := by have := HB2.out.size; omega
  rw [← hqq] at Q3 s2 s3 ⊢
  have hrq : r ≠ q := by omega
  clear hqq r3 b3 s2 s3
  go_wp2_with fail
  go_loopw [8] (fun i wr => ∃ (k : Nat) (rest : Bs) (f : Bool), k ≤ n ∧ i = .int .i64 k ∧ Hid (rest.length ≤ 1000) ∧ Hid (f = true → rest = []) ∧ Hid (Rdr wr r rest f) ∧ Hid (Rdq wr q rest f) ∧ Hid (Below w.heap.size w wr)) (fun i _ => n - (intOf i).toNat)
  case atStart => exact ⟨0, s, false, Nat.zero_le _, rfl, Lib.hid hs, Lib.hid (fun h => by cases h), R3, Q3, HB3⟩
  case round =>
    obtain ⟨k, rest, f, hk, rfl, HLN, HF, HRD, HQD, HBE⟩ := hrel
    by_cases hlt : k < n
    · obtain ⟨ad, u, e, _, hx, hc⟩ := (HR.out.below HBE.out).at_ hlt
      obtain ⟨z, hz, rfl⟩ : ∃ z, zs[k]? = some z ∧ u = .int .u8 z := by
        rw [uv, List.getElem?_map] at hx
        obtain ⟨z, hz, rfl⟩ := Option.map_eq_some_iff.1 hx
        exact ⟨z, hz, rfl⟩
      have hz255 := HZ.out z (List.mem_of_getElem? hz)
      subst e
      clear hx hz
      have HMW := Lib.hid (HM.out.self HBE.out)
      go_upto_block 2 with fail
      go_cut [9] (fun x wc => Even r q w x wc)
      case first =>
        have hq5 : z % 5 = 0 ∨ z % 5 = 1 ∨ z % 5 = 2 ∨ z % 5 = 3 ∨ z % 5 = 4 := by omega
        rcases hq5 with hq5 | hq5 | hq5 | hq5 | hq5
        · have q0 : (z % 5 == 0) = true := by simp; omega
          clear hq5
          obtain ⟨m, rest', f', CR, CQ, hl', hf'⟩ := both_num (rest := rest) (f := f) (by have := HLN.out; omega) HF.out
          have CR := Lib.hid CR
          have CQ := Lib.hid CQ
          have HL' := Lib.hid hl'
          have HF' := Lib.hid hf'
          clear hl' hf'
          have e1 : (m == m) = true := by simp
          go_wp2_with fail
          refine (CR.out wr r HRD.out HMW.out hmr).mono ?_
          rintro e wR ⟨rfl, rr, gr⟩
          have RR := Lib.hid rr
          have GR : Hid (wr.grownBy wR (some r)) := Lib.hid ⟨gr.os, gr.tape, gr.output, gr.size, gr.block⟩
          clear rr gr
          have QR := Lib.hid (HQD.out.kept GR.out (fun k e => by have := Option.some.inj e; omega))
          have BR := Lib.hid (only_below' GR.out HBE.out hrw)
          go_wp2_with fail
          refine (CQ.out wR q QR.out).mono ?_
          rintro e wQ ⟨rfl, qq, gq⟩
          have FIN : Hid (Rdr wQ r rest' f' ∧ Rdq wQ q rest' f' ∧ Below w.heap.size w wQ) := Lib.hid ⟨RR.out.other gq (fun k e => by have := Option.some.inj e; omega), qq, only_below' gq BR.out hqw⟩
          clear qq gq
          go_wp2_with fail
          go_meet
          exact ⟨rfl, rest', f', by have := HL'.out; have := HLN.out; omega, HF'.out, FIN.out.1, FIN.out.2.1, FIN.out.2.2⟩
        · have q0 : (z % 5 == 0) = false := by simp; omega
          have q1 : (z % 5 == 1) = true := by simp; omega
          clear hq5
          obtain ⟨m, rest', f', CR, CQ, hl', hf'⟩ := both_int (rest := rest) (f := f) (by have := HLN.out; omega) HF.out
          have CR := Lib.hid CR
          have CQ := Lib.hid CQ
          have HL' := Lib.hid hl'
          have HF' := Lib.hid hf'
          clear hl' hf'
          have e1 : (m == m) = true := by simp
          go_wp2_with fail
          refine (CR.out wr r HRD.out HMW.out hmr).mono ?_
          rintro e wR ⟨rfl, rr, gr⟩
          have RR := Lib.hid rr
          have GR : Hid (wr.grownBy wR (some r)) := Lib.hid ⟨gr.os, gr.tape, gr.output, gr.size, gr.block⟩
          clear rr gr
          have QR := Lib.hid (HQD.out.kept GR.out (fun k e => by have := Option.some.inj e; omega))
          have BR := Lib.hid (only_below' GR.out HBE.out hrw)
          go_wp2_with fail
          refine (CQ.out wR q QR.out).mono ?_
          rintro e wQ ⟨rfl, qq, gq⟩
          have FIN : Hid (Rdr wQ r rest' f' ∧ Rdq wQ q rest' f' ∧ Below w.heap.size w wQ) := Lib.hid ⟨RR.out.other gq (fun k e => by have := Option.some.inj e; omega), qq, only_below' gq BR.out hqw⟩
          clear qq gq
          go_wp2_with fail
          go_meet
          exact ⟨rfl, rest', f', by have := HL'.out; have := HLN.out; omega, HF'.out, FIN.out.1, FIN.out.2.1, FIN.out.2.2⟩
        · have q0 : (z % 5 == 0) = false := by simp; omega
          have q1 : (z % 5 == 1) = false := by simp; omega
          have q2 : (z % 5 == 2) = true := by simp; omega
          clear hq5
          obtain ⟨x, rest', f', CR, CQ, hl', hf'⟩ := both_text (rest := rest) (f := f) (by have := HLN.out; omega) HF.out
          have CR := Lib.hid CR
          have CQ := Lib.hid CQ
          have HL' := Lib.hid hl'
          have HF' := Lib.hid hf'
          clear hl' hf'
          generalize sv x = X at *
          have e1 : (X.toList == X.toList) = true := by simp
          go_wp2_with fail
          refine (CR.out wr r HRD.out HMW.out hmr).mono ?_
          rintro e wR ⟨rfl, rr, gr⟩
          have RR := Lib.hid rr
          have GR : Hid (wr.grownBy wR (some r)) := Lib.hid ⟨gr.os, gr.tape, gr.output, gr.size, gr.block⟩
          clear rr gr
          have QR := Lib.hid (HQD.out.kept GR.out (fun k e => by have := Option.some.inj e; omega))
          have BR := Lib.hid (only_below' GR.out HBE.out hrw)
          go_wp2_with fail
          refine (CQ.out wR q QR.out).mono ?_
          rintro e wQ ⟨rfl, qq, gq⟩
          have FIN : Hid (Rdr wQ r rest' f' ∧ Rdq wQ q rest' f' ∧ Below w.heap.size w wQ) := Lib.hid ⟨RR.out.other gq (fun k e => by have := Option.some.inj e; omega), qq, only_below' gq BR.out hqw⟩
          clear qq gq
          go_wp2_with fail
          go_meet
          exact ⟨rfl, rest', f', by have := HL'.out; have := HLN.out; omega, HF'.out, FIN.out.1, FIN.out.2.1, FIN.out.2.2⟩
        · have q0 : (z % 5 == 0) = false := by simp; omega
          have q1 : (z % 5 == 1) = false := by simp; omega
          have q2 : (z % 5 == 2) = false := by simp; omega
          have q3 : (z % 5 == 3) = true := by simp; omega
          clear hq5
          obtain ⟨l, rest', f', hJ, CR, CQ, hl', hf', hx'⟩ := both_nums (rest := rest) (f := f) (by have := HLN.out; omega) HF.out
          have CR := Lib.hid CR
          have CQ := Lib.hid CQ
          have CS := Lib.hid (fun (W : World) (A1 c1 A2 c2) (h1 : Rd W A1 (iv l).length (iv l)) (h2 : Rd W A2 (iv l).length (iv l)) => same_nums (c := c1) (c' := c2) h1 h2 hx')
          have HL' := Lib.hid hl'
          have HF' := Lib.hid hf'
          clear hl' hf' hx'
          go_wp2_with fail
          refine (CR.out wr r HRD.out HMW.out hmr).mono ?_
          rintro e wR ⟨⟨v, rfl, ov⟩, rr, gr⟩
          have RR := Lib.hid rr
          have OV := Lib.hid ov
          have GR : Hid (wr.grownBy wR (some r)) := Lib.hid ⟨gr.os, gr.tape, gr.output, gr.size, gr.block⟩
          clear rr gr ov
          have QR := Lib.hid (HQD.out.kept GR.out (fun k e => by have := Option.some.inj e; omega))
          have BR := Lib.hid (only_below' GR.out HBE.out hrw)
          go_wp2_with fail
          refine (CQ.out wR q QR.out).mono ?_
          rintro e wQ ⟨⟨v', rfl, ov'⟩, qq, gq⟩
          have FIN : Hid (Rdr wQ r rest' f' ∧ Rdq wQ q rest' f' ∧ Below w.heap.size w wQ) := Lib.hid ⟨RR.out.other gq (fun k e => by have := Option.some.inj e; omega), qq, only_below' gq BR.out hqw⟩
          have OV2 := OV.out.kept gq (by cases ho : v.ownBlock with | none => exact .inl rfl | some k => exact .inr (fun e => by have := (OV.out.lt k ho).1; have e' := Option.some.inj e; have hq2 : q < wr.heap.size := Blk.lt HQD.out; omega))
          obtain ⟨A4, c4, rfl, rd4⟩ := own_rd OV2
          obtain ⟨A5, c5, rfl, rd5⟩ := own_rd ov'
          have RD4 := Lib.hid rd4
          have RD5 := Lib.hid rd5
          clear qq gq OV2 OV ov' rd4 rd5
          go_wp2_with fail
          refine (CS.out wQ A4 c4 A5 c5 RD4.out RD5.out).mono ?_
          rintro e w5 ⟨rfl, m5, rfl⟩
          go_wp2_with fail
          go_meet
          exact ⟨rfl, rest', f', by have := HL'.out; have := HLN.out; omega, HF'.out, FIN.out.1.below (below_drewN wQ m5), FIN.out.2.1.below (below_drewN wQ m5), below_drew FIN.out.2.2 m5⟩
        · have q0 : (z % 5 == 0) = false := by simp; omega
          have q1 : (z % 5 == 1) = false := by simp; omega
          have q2 : (z % 5 == 2) = false := by simp; omega
          have q3 : (z % 5 == 3) = false := by simp; omega
          clear hq5
          obtain ⟨l, rest', f', CR, CQ, hl', hf', hx'⟩ := both_texts (rest := rest) (f := f) (by have := HLN.out; omega) HF.out
          have CR := Lib.hid CR
          have CQ := Lib.hid CQ
          have CS := Lib.hid (fun (W : World) (A1 c1 A2 c2) (h1 : Rd W A1 (tv l).length (tv l)) (h2 : Rd W A2 (tv l).length (tv l)) => same_texts (c := c1) (c' := c2) h1 h2 hx')
          have HL' := Lib.hid hl'
          have HF' := Lib.hid hf'
          clear hl' hf' hx'
          go_wp2_with fail
          refine (CR.out wr r HRD.out HMW.out hmr).mono ?_
          rintro e wR ⟨⟨v, rfl, ov⟩, rr, gr⟩
          have RR := Lib.hid rr
          have OV := Lib.hid ov
          have GR : Hid (wr.grownBy wR (some r)) := Lib.hid ⟨gr.os, gr.tape, gr.output, gr.size, gr.block⟩
          clear rr gr ov
          have QR := Lib.hid (HQD.out.kept GR.out (fun k e => by have := Option.some.inj e; omega))
          have BR := Lib.hid (only_below' GR.out HBE.out hrw)
          go_wp2_with fail
          refine (CQ.out wR q QR.out).mono ?_
          rintro e wQ ⟨⟨v', rfl, ov'⟩, qq, gq⟩
          have FIN : Hid (Rdr wQ r rest' f' ∧ Rdq wQ q rest' f' ∧ Below w.heap.size w wQ) := Lib.hid ⟨RR.out.other gq (fun k e => by have := Option.some.inj e; omega), qq, only_below' gq BR.out hqw⟩
          have OV2 := OV.out.kept gq (by cases ho : v.ownBlock with | none => exact .inl rfl | some k => exact .inr (fun e => by have := (OV.out.lt k ho).1; have e' := Option.some.inj e; have hq2 : q < wr.heap.size := Blk.lt HQD.out; omega))
          obtain ⟨A4, c4, rfl, rd4⟩ := own_rd OV2
          obtain ⟨A5, c5, rfl, rd5⟩ := own_rd ov'
          have RD4 := Lib.hid rd4
          have RD5 := Lib.hid rd5
          clear qq gq OV2 OV ov' rd4 rd5
          go_wp2_with fail
          refine (CS.out wQ A4 c4 A5 c5 RD4.out RD5.out).mono ?_
          rintro e w5 ⟨rfl, m5, rfl⟩
          go_wp2_with fail
          go_meet
          exact ⟨rfl, rest', f', by have := HL'.out; have := HLN.out; omega, HF'.out, FIN.out.1.below (below_drewN wQ m5), FIN.out.2.1.below (below_drewN wQ m5), below_drew FIN.out.2.2 m5⟩
      case rest =>
        obtain ⟨rfl, rest', f', hl', hf', rr, qq, bb⟩ := hcut
        have RR := Lib.hid rr
        have QQ := Lib.hid qq
        have BB := Lib.hid bb
        have HL' := Lib.hid hl'
        have HF' := Lib.hid hf'
        clear hl' hf' rr qq bb
        have L1 := Lib.hid (left_any RR.out)
        have L2 := Lib.hid (qleft QQ.out)
        have D1 := Lib.hid (done_any RR.out)
        have D2 := Lib.hid (qdone QQ.out)
        have e1 : ((rest'.length : Int) == (rest'.length : Int)) = true := by simp
        have e2 : (!((rest'.length : Int) == (rest'.length : Int))) = false := by simp
        have e3 : ((rest'.length : Int) != (rest'.length : Int)) = false := by simp
        generalize (!f' && rest'.isEmpty) = b at *
        cases b
        all_goals
          go_wp2_with fail
          refine L1.out.mono ?_
          rintro e w4 ⟨rfl, rfl⟩
          go_wp2_with fail
          refine L2.out.mono ?_
          rintro e w4 ⟨rfl, rfl⟩
          go_wp2_with fail
          refine D1.out.mono ?_
          rintro e w4 ⟨rfl, rfl⟩
          go_wp2_with fail
          refine D2.out.mono ?_
          rintro e w4 ⟨rfl, rfl⟩
          go_wp2_with fail
          go_roundw
          case rel => exact ⟨k + 1, rest', f', by omega, by go_num, HL', HF', RR, QQ, BB⟩
          case measure => simp [intOf]; omega
    · obtain rfl : k = n := by omega
      go_wp2_with fail
      go_ret
      exact ⟨rfl, HBE.out⟩
end Go.Proofs.YtocbodjmdgoaiaaDoor
