/- The statement WalSkips: its walk where the arguments are within the limits. Conditions: the arguments read as data within the reach. -/
import Derived.Test.YtdjchpejhfkknaaLSkips
import Derived.Deep.RegionHeld3
namespace Go.Proofs.Ytdjchpejhfkknaa.walSkips
open Go.RowKit Km Dk Lw
open Lm hiding Bs
set_option linter.unusedVariables false
set_option maxRecDepth 100000

theorem slice_rows (a : Option Addr) (n c u : Nat) (hu : u ≤ c) (w : World) : (Instr.slice 38 (.slice a n c) none (some (.int .i64 ((u : Nat) : Int))) none).run Try.prog w = .ok (.slice a u c) w := by
  obtain ⟨i0, hi, hz0, hz1, hz2⟩ := info_parts infoStr
  rw [run_slice_h w 38 a n c Try.underlying38 .i64 ((u : Nat) : Int) (by omega) (by omega)]
  have hs : (sizeOf (Try.prog.elem 38)).run Try.prog w = .ok 1 w := by
    have he : Try.prog.elem 38 = 9 := by kernel_rfl
    rw [he]
    simp [sizeOf, typeInfo, hi, hz1]
  rw [hs]
  simp only [Result.andThen, sliced, Int.toNat_natCast, Nat.sub_zero, Nat.zero_mul]
  cases a with
  | none => simp
  | some ad => simp [Addr.add]
theorem texts_take {w : World} {a : Option Addr} {n c : Nat} {l : List Bs} (h : Texts w (.slice a n c) l) (u : Nat) (hu : u ≤ l.length) : Texts w (.slice a u c) (l.take u) := by
  obtain ⟨a', c', e, h1, h2, h3⟩ := h
  injection e with e1 e2 e3
  subst e1 e3
  have hl : (l.take u).length = u := by rw [List.length_take]; omega
  refine ⟨a, c, by rw [hl], by omega, fun t ht => h2 t (List.mem_of_mem_take ht), fun h0 => ?_⟩
  obtain ⟨b, o, ha, hb, hc⟩ := h3 (by omega)
  exact ⟨b, o, ha, hb, fun j t hj => hc j t (by
    have hjl := (List.getElem?_eq_some_iff.1 hj).1
    rw [hl] at hjl
    rwa [List.getElem?_take_of_lt hjl] at hj)⟩
theorem start_cal {s : St} (h : Cal s) (ks : List Int) : Cal (startS (crashS ks s)) ∧ (startS (crashS ks s)).F = (crashS ks s).F := by
  have e := crash_up h.idl.up ks
  exact ⟨⟨⟨rfl, by show (crashS ks s).crash = 0; rw [e]⟩, by show (crashS ks s).lose = 0; rw [e]; exact h.lose, wf_start (wf_crash h.wf ks)⟩, rfl⟩
section
variable {A : Nat → Prop} {r p : Nat} {s : St} {l : List Bs} {i k : Nat} {W : World}
theorem recs_le (l : List Bs) (i : Nat) : (recs (l.take i)).length ≤ (recs l).length := by
  have h := recs_append (l.take i) (l.drop i)
  rw [List.take_append_drop] at h
  rw [h, List.length_append]
  omega
theorem take_next {b : Bs} (hb : l[i]? = some b) : l.take (i + 1) = l.take i ++ [b] := by
  rw [List.take_add_one, hb]
  rfl
theorem sk_size (hD : Lgd A r p 2 s (l.take i) W) (hS : Sk s l i k) : Calls Try.prog 22 #[.pointer (some ⟨r, 0, none⟩), .int .i64 2] W fun e w' => e = .returned (.int .i64 (((recs (l.take i)).length : Nat) : Int)) ∧ W = w' :=
  size_at (lgd_dsk hD) ((2 : Nat) : Int) _ (by rw [size_nat s (by decide), hS.lg.file])
theorem sk_append {b : Bs} (hD : Lgd A r p 2 s (l.take i) W) (hS : Sk s l i k) (hi : l[i]? = some b) (hsm : Small l) (hz : (recs l).length ≤ 10000) (hl : l.length ≤ 100) : Calls Try.prog 35 #[.pointer (some ⟨p, 0, none⟩), .string (sv b)] W fun e w' => e = .returned (.int .i64 0) ∧ Lgd A r p 2 (wappS s 2 b) (l.take (i + 1)) w' ∧ Fr A W w' ∧ Sk (wappS s 2 b) l (i + 1) k := by
  have hb := hsm b (List.mem_of_getElem? hi)
  have h1 := recs_le l (i + 1)
  rw [take_next hi, recs_append, recs_one, List.length_append, recB_length] at h1
  obtain ⟨e1, e2⟩ := sk_app hS hi hb (by rw [hS.lg.file]; omega)
  refine (lgd_append hD b (by omega) (by rw [List.length_take]; omega) e1 (s' := wappS s 2 b) rfl (rows' := l.take (i + 1)) (by rw [wapp_rows e1, take_next hi])).mono ?_
  rintro e w' ⟨h1, h2, h3⟩
  exact ⟨h1, h2, h3, e2⟩
theorem sk_flu (hD : Lgd A r p 2 s (l.take i) W) (hS : Sk s l i k) (hi : i ≤ l.length) : Calls Try.prog 37 #[.pointer (some ⟨p, 0, none⟩)] W fun e w' => e = .returned (.int .i64 0) ∧ Lgd A r p 2 (fluS s 2) (l.take i) w' ∧ Fr A W w' ∧ Sk (fluS s 2) l i i := by
  obtain ⟨e1, e2⟩ := sk_flush hS hi
  refine (lgd_flush hD e1 (s' := fluS s 2) rfl).mono ?_
  rintro e w' ⟨h1, h2, h3⟩
  exact ⟨h1, h2, h3, e2⟩
theorem sk_read {rows : List Bs} {Y : Bs} (hD : Lgd A r p 2 s rows W) (he : readE s ((2 : Nat) : Int) = 0) (hb : readB s ((2 : Nat) : Int) = Y) : Calls Try.prog 36 #[.pointer (some ⟨r, 0, none⟩), .int .i64 2] W fun e w' => e = .returned (.tuple #[.string (sv Y), .int .i64 0]) ∧ Lgd A r p 2 s rows w' ∧ Fr A W w' := by
  subst hb
  refine (read_dsk (lgd_dsk hD) ((2 : Nat) : Int)).mono ?_
  rintro e w' ⟨h1, h2⟩
  exact ⟨by rw [h1, he], hD.below h2, (Fr.refl A W).below h2⟩
theorem sk_all {B : World} {rows : List Bs} (hD : Lgd A r p 2 s rows W) (hl : rows.length ≤ 1000000000) (hs : ∀ t ∈ rows, t.length ≤ 1000000000) (hB : Below B.heap.size B W) : Calls Try.prog 18 #[.pointer (some ⟨p, 0, none⟩)] W fun e w' => ∃ v, e = .returned v ∧ Texts w' v rows ∧ Below B.heap.size B w' := by
  refine (lgd_all hD hl hs).mono ?_
  rintro e w' ⟨v, A', h1, _, _, h4, _, h6⟩
  exact ⟨v, h1, h4, hB.trans (h6.mono hB.size)⟩
theorem sk_same {B : World} {va vb : Value} {rows : List Bs} (ha : Texts W va rows) (hb : Texts W vb rows) (hl : rows.length ≤ 1000000) (hB : Below B.heap.size B W) : Calls Try.prog 17 #[va, vb] W fun e w' => e = .returned (.bool true) ∧ Below B.heap.size B w' := by
  refine (same_any ha hb hl hl).mono ?_
  rintro e w' ⟨h1, h2⟩
  exact ⟨by rw [h1, decide_eq_true rfl], hB.trans (h2.mono hB.size)⟩
end
set_option maxHeartbeats 8000000 in
theorem main {w : World} {a : Option Addr} {c : Nat} {kv : Value} {l : List Bs} {ks : List Int} (fl : Nat) (h : Texts w (.slice a l.length c) l) (hcap : l.length ≤ c) (hk : Ints w kv ks) (hj : ∀ z ∈ ks, J64 z) (hL : Lies w kv) (hn : l.length ≤ 20) (hb : bytB l ≤ 1500) (hK : ks.length ≤ 30) (hfl : fl ≤ l.length) :
    Calls Try.prog 7 #[.slice a l.length c, .int .i64 ((fl : Nat) : Int), kv] w (IsTrue w) := by
  have SM := Lib.hid (fun W => small_any W)
  have HT := Lib.hid h
  have HBY := Lib.hid (fun W (hb : Below w.heap.size w W) => bytes_any (Texts.below HT.out hb))
  have dN : decide ((20 : Int) < ((l.length : Nat) : Int)) = false := decide_eq_false (by omega)
  have dB : decide ((1500 : Int) < ((bytB l : Nat) : Int)) = false := decide_eq_false (by omega)
  have dK : decide ((30 : Int) < ((ks.length : Nat) : Int)) = false := decide_eq_false (by omega)
  have dF : decide (((fl : Nat) : Int) < 0) = false := decide_eq_false (by omega)
  have dM : decide (l.length < fl) = false := decide_eq_false (by omega)
  have HSM := Lib.hid (few_small hb)
  obtain ⟨f1, f2, f3⟩ := few_of hb
  have HRL := Lib.hid (show (recs l).length ≤ 10000 by omega)
  have HKS := Lib.hid hk
  have HJ := Lib.hid hj
  have HL := Lib.hid hL
  have HTC := Lib.hid (show 0 < l.length → ∃ b o, a = some ⟨b, o, none⟩ ∧ b < w.heap.size ∧ ∀ j t, l[j]? = some t → w.cell? ⟨b, o + j, none⟩ = some (.string (sv t)) from by obtain ⟨a', c', e, _, _, h3⟩ := h; injection e with e1; subst e1; exact h3)
  obtain ⟨ka, kc, rfl, hkc⟩ := hk
  have HKC := Lib.hid hkc
  obtain ⟨N, hN⟩ : ∃ N, l.length = N := ⟨_, rfl⟩
  obtain ⟨K, hKK⟩ : ∃ K, ks.length = K := ⟨_, rfl⟩
  have HN := Lib.hid hN
  have HK := Lib.hid hKK
  have HFL := Lib.hid (show fl ≤ N by omega)
  have HCAP := Lib.hid (show N ≤ c by omega)
  have HN20 := Lib.hid (show N ≤ 20 by omega)
  rw [hN] at dN dM h HT HBY ⊢
  rw [hKK] at dK HKS HL ⊢
  have hNi : N ≤ 20 := by omega
  have hKi : K ≤ 30 := by omega
  have hfi : fl ≤ 20 := by omega
  clear h hb hj hL hkc f1 f2 f3 hn hK hfl hcap hN hKK
  generalize bytB l = n at *
  go_enter Try.func7, Try.ntmps7
  go_wp2_with fail
  refine (SM.out _).mono ?_
  rintro e w1 ⟨rfl, hb1⟩
  have HB1 := Lib.hid hb1
  clear hb1
  go_wp2_with fail
  refine (HBY.out _ HB1.out).mono ?_
  rintro e w2 ⟨rfl, hb2⟩
  have HB2 := Lib.hid (HB1.out.trans (hb2.mono HB1.out.size))
  clear hb2 HB1
  go_wp2_with fail
  refine (new_any (A := fun b => w.heap.size ≤ b) (fun b hb => by have := HB2.out.size; omega)).mono ?_
  rintro e w3 ⟨rfl, hd, hf⟩
  have HB3 := Lib.hid (HB2.out.trans (hf.mono HB2.out.size))
  have D3 := Lib.hid hd
  clear hd hf HB2
  generalize hr0 : w2.heap.size = r at *
  clear hr0
  go_wp2_with fail
  refine (open_good D3.out 2 (by decide +kernel) (s' := (opn Km.new ((2 : Nat) : Int)).2) rfl (rows := l.take 0) (by rw [List.take_zero]; decide +kernel)).mono ?_
  rintro e w4 ⟨p, rfl, hd, hf⟩
  have F4 := Lib.hid (((Fr.refl (fun b => w.heap.size ≤ b) w).below HB3.out).trans hf)
  have L4 := Lib.hid hd
  clear hd hf HB3 D3
  go_wp2_with fail
  go_loopw [11, 12, 13] (fun vw vh vi W => ∃ (i : Nat) (s : St), i ≤ N ∧ vw = .int .i64 ((wtS ks fl l i : Nat) : Int) ∧ vh = .bool (whS ks fl l i) ∧ vi = .int .i64 i ∧ Hid (Lgd (fun b => w.heap.size ≤ b) r p 2 s (l.take i) W ∧ Sk s l i (if i < fl then 0 else fl) ∧ Fr (fun b => w.heap.size ≤ b) w W)) (fun _ _ i _ => N - (intOf i).toNat)
  case atStart => exact ⟨0, _, Nat.zero_le _, rfl, rfl, rfl, Lib.hid ⟨L4.out, by rw [show (if 0 < fl then 0 else fl) = 0 by split <;> omega]; exact sk_zero l, F4.out⟩⟩
  case round =>
    obtain ⟨i, s, hi, rfl, rfl, rfl, HD⟩ := hrel
    by_cases hlt : i < N
    · obtain ⟨b, hb⟩ : ∃ b, l[i]? = some b := ⟨l[i]'(by have := HN.out; omega), List.getElem?_eq_getElem _⟩
      obtain ⟨ga, oa, rfl, hga, hcella⟩ := HTC.out (by have := HN.out; omega)
      have hLb := Lib.hid hb
      have HGA := Lib.hid hga
      have HCA := Lib.hid (hcella i b hb)
      have hzi : (recs (l.take (i + 1))).length = (recs (l.take i)).length + (b.length + 7) := by rw [take_next hb, recs_append, recs_one, List.length_append, recB_length]
      have hz1 : (recs (l.take (i + 1))).length ≤ 10000 := Nat.le_trans (recs_le l (i + 1)) HRL.out
      have hq : (((recs (l.take (i + 1))).length : Nat) : Int) - (((recs (l.take i)).length : Nat) : Int) = ((b.length + 7 : Nat) : Int) := by omega
      have HGD := Lib.hid (show l.getD i [] = b by rw [List.getD_eq_getElem?_getD, hb]; rfl)
      have z0 : (recs (l.take i)).length ≤ 10000 := by omega
      have hAP := Lib.hid (sk_append HD.out.1 HD.out.2.1 hb HSM.out HRL.out (by have := HN.out; have := HN20.out; omega))
      have hSI := Lib.hid (sk_size HD.out.1 HD.out.2.1)
      have cw := (HD.out.2.2.cell HCA.out (by show ¬ w.heap.size ≤ ga; omega))
      clear hb hga hcella hzi
      have hiN : (i : Int) < (N : Int) := by omega
      generalize hzb : (recs (l.take (i + 1))).length = zb at *
      have HZB := Lib.hid hzb
      clear hzb
      generalize (recs (l.take i)).length = za at *
      --START
      by_cases hf0 : i < fl
      · have hw0 : whS ks fl l i = true := whS_low ks fl l i (by omega)
        have hw1 : whS ks fl l (i + 1) = true := whS_low ks fl l (i + 1) (by omega)
        have HW1 := Lib.hid hw1
        have HW2 := Lib.hid (show wtS ks fl l (i + 1) = i + 1 by rw [wtS, if_pos hw1])
        have dneg : decide ((i : Int) - (fl : Int) < 0) = true := decide_eq_true (by omega)
        rw [if_pos hf0] at HD hAP
        rw [hw0]
        clear hw0 hw1
        generalize wtS ks fl l i = u0 at *
        by_cases hf1 : i + 1 = fl
        · have HF1 := Lib.hid hf1
          have dI : (((i : Nat) : Int) == ((fl : Nat) : Int) - 1) = true := by rw [beq_iff_eq]; omega
          clear hf1
          go_wp2_with fail
          refine (hSI.out).mono ?_
          rintro e w5 ⟨rfl, rfl⟩
          go_wp2_with fail
          refine (hAP.out).mono ?_
          rintro e w6 ⟨rfl, hd, hf, hs⟩
          have L6 := Lib.hid hd
          have F6 := Lib.hid (HD.out.2.2.trans hf)
          have S6 := Lib.hid hs
          clear hd hf hs
          go_wp2_with fail
          refine (sk_flu L6.out S6.out (by have := HN.out; omega)).mono ?_
          rintro e w7 ⟨rfl, hd, hf, hs⟩
          have L7 := Lib.hid hd
          have F7 := Lib.hid (F6.out.trans hf)
          have S7 := Lib.hid hs
          clear hd hf hs
          go_wp2_with fail
          go_quiet (fail)
          go_wp2_with fail
          go_roundw
          case rel => exact ⟨i + 1, _, by omega, by rw [HW2.out]; try go_num, by rw [HW1.out], by go_num, Lib.hid ⟨(by first | exact L7.out | exact L7.out.below ⟨rfl, rfl, rfl, Nat.le_refl _, fun _ _ => rfl⟩), (by rw [if_neg (by have := HF1.out; omega), ← HF1.out]; exact S7.out), (by first | exact F7.out | exact F7.out.drewN _)⟩⟩
          case measure => simp [intOf]; omega
        · have dI : (((i : Nat) : Int) == ((fl : Nat) : Int) - 1) = false := by rw [beq_eq_false_iff_ne]; omega
          have HF1 := Lib.hid (show i + 1 < fl by omega)
          clear hf1
          go_wp2_with fail
          refine (hSI.out).mono ?_
          rintro e w5 ⟨rfl, rfl⟩
          go_wp2_with fail
          refine (hAP.out).mono ?_
          rintro e w6 ⟨rfl, hd, hf, hs⟩
          have L6 := Lib.hid hd
          have F6 := Lib.hid (HD.out.2.2.trans hf)
          have S6 := Lib.hid hs
          clear hd hf hs
          go_wp2_with fail
          go_quiet (fail)
          go_wp2_with fail
          go_roundw
          case rel => exact ⟨i + 1, _, by omega, by rw [HW2.out]; try go_num, by rw [HW1.out], by go_num, Lib.hid ⟨(by first | exact L6.out | exact L6.out.below ⟨rfl, rfl, rfl, Nat.le_refl _, fun _ _ => rfl⟩), (by rw [if_pos HF1.out]; exact S6.out), (by first | exact F6.out | exact F6.out.drewN _)⟩⟩
          case measure => simp [intOf]; omega
      · rw [if_neg hf0] at HD hAP
        have dI : (((i : Nat) : Int) == ((fl : Nat) : Int) - 1) = false := by rw [beq_eq_false_iff_ne]; omega
        have HF1 := Lib.hid (show ¬ i + 1 < fl by omega)
        cases hwh : whS ks fl l i with
        | false =>
          have hw1 : whS ks fl l (i + 1) = false := by rw [whS, hwh, Bool.false_and]
          have HW1 := Lib.hid hw1
          have HW2 := Lib.hid (show wtS ks fl l (i + 1) = wtS ks fl l i by rw [wtS, hw1]; rfl)
          clear hw1 hwh
          generalize wtS ks fl l i = u0 at *
          go_wp2_with fail
          refine (hSI.out).mono ?_
          rintro e w5 ⟨rfl, rfl⟩
          go_wp2_with fail
          refine (hAP.out).mono ?_
          rintro e w6 ⟨rfl, hd, hf, hs⟩
          have L6 := Lib.hid hd
          have F6 := Lib.hid (HD.out.2.2.trans hf)
          have S6 := Lib.hid hs
          clear hd hf hs
          go_wp2_with fail
          go_quiet (fail)
          go_wp2_with fail
          go_roundw
          case rel => exact ⟨i + 1, _, by omega, by rw [HW2.out]; try go_num, by rw [HW1.out], by go_num, Lib.hid ⟨(by first | exact L6.out | exact L6.out.below ⟨rfl, rfl, rfl, Nat.le_refl _, fun _ _ => rfl⟩), (by rw [if_neg HF1.out]; exact S6.out), (by first | exact F6.out | exact F6.out.drewN _)⟩⟩
          case measure => simp [intOf]; omega
        | true =>
          obtain ⟨j, hij⟩ : ∃ j, i = fl + j := ⟨i - fl, by omega⟩
          have hok : whS ks fl l (i + 1) = decide (((b.length + 7 : Nat) : Int) ≤ ks.getD j 0) := by
            rw [whS, hwh, HGD.out, Bool.true_and, hij]
            exact okS_rest ks fl j _ (by omega)
          have hkj : ((i : Nat) : Int) - ((fl : Nat) : Int) = ((j : Nat) : Int) := by omega
          have hjn : j ≤ 20 := by omega
          have dj0 : decide (((j : Nat) : Int) < 0) = false := decide_eq_false (by omega)
          by_cases hjK : j < K
          · obtain ⟨z, hz⟩ : ∃ z, ks[j]? = some z := ⟨ks[j]'(by have := HK.out; omega), List.getElem?_eq_getElem _⟩
            obtain ⟨gk, ok, rfl, hgk, hck⟩ := HKC.out (by have := HK.out; omega)
            rw [List.getD_eq_getElem?_getD, hz] at hok
            have hok' : whS ks fl l (i + 1) = decide (((b.length + 7 : Nat) : Int) ≤ z) := hok
            have HCK := Lib.hid (hck j z hz)
            have HGK := Lib.hid hgk
            have hzj := HJ.out z (List.mem_of_getElem? hz)
            have dK2 : decide ((j : Int) < (K : Int)) = true := decide_eq_true (by omega)
            have hkK : (j : Int) < (K : Int) := by omega
            clear hz hok hck hgk hij hf0 hwh
            obtain ⟨q, hqq⟩ : ∃ q, b.length + 7 = q := ⟨_, rfl⟩
            rw [hqq] at hq hok'
            clear hqq
            by_cases hge : (q : Int) ≤ z
            · have hw1 : whS ks fl l (i + 1) = true := by rw [hok']; exact decide_eq_true hge
              have dG : decide ((q : Int) ≤ z) = true := decide_eq_true hge
              have HW1 := Lib.hid hw1
              have HW2 := Lib.hid (show wtS ks fl l (i + 1) = i + 1 by rw [wtS, if_pos hw1])
              clear hw1 hok' hge
              generalize wtS ks fl l i = u0 at *
              go_wp2_with fail
              refine (hSI.out).mono ?_
              rintro e w5 ⟨rfl, rfl⟩
              go_wp2_with fail
              refine (hAP.out).mono ?_
              rintro e w6 ⟨rfl, hd, hf, hs⟩
              have L6 := Lib.hid hd
              have F6 := Lib.hid (HD.out.2.2.trans hf)
              have S6 := Lib.hid hs
              clear hd hf hs
              go_wp2_with fail
              --GGC
              have hs2 := fun n => sk_size (L6.out.below (w' := w6.drewN n) ⟨rfl, rfl, rfl, Nat.le_refl _, fun _ _ => rfl⟩) S6.out
              rw [HZB.out] at hs2
              have hSI2 := Lib.hid hs2
              clear hs2
              have ck := (F6.out.cell HCK.out (by have := HGK.out; show ¬ w.heap.size ≤ gk; omega))
              go_quiet ((refine (hSI2.out _).mono ?_; rintro e w' ⟨he, hw⟩; exact ⟨he, _, hw.symm⟩))
              go_wp2_with fail
              go_roundw
              case rel => exact ⟨i + 1, _, by omega, by rw [HW2.out]; try go_num, by rw [HW1.out], by go_num, Lib.hid ⟨(by first | exact L6.out | exact L6.out.below ⟨rfl, rfl, rfl, Nat.le_refl _, fun _ _ => rfl⟩), (by rw [if_neg HF1.out]; exact S6.out), (by first | exact F6.out | exact F6.out.drewN _)⟩⟩
              case measure => simp [intOf]; omega
            · have hw1 : whS ks fl l (i + 1) = false := by rw [hok']; exact decide_eq_false hge
              have dG : decide ((q : Int) ≤ z) = false := decide_eq_false hge
              have HW1 := Lib.hid hw1
              have HW2 := Lib.hid (show wtS ks fl l (i + 1) = wtS ks fl l i by rw [wtS, hw1]; rfl)
              clear hw1 hok' hge
              generalize wtS ks fl l i = u0 at *
              go_wp2_with fail
              refine (hSI.out).mono ?_
              rintro e w5 ⟨rfl, rfl⟩
              go_wp2_with fail
              refine (hAP.out).mono ?_
              rintro e w6 ⟨rfl, hd, hf, hs⟩
              have L6 := Lib.hid hd
              have F6 := Lib.hid (HD.out.2.2.trans hf)
              have S6 := Lib.hid hs
              clear hd hf hs
              go_wp2_with fail
              --GGC
              have hs2 := fun n => sk_size (L6.out.below (w' := w6.drewN n) ⟨rfl, rfl, rfl, Nat.le_refl _, fun _ _ => rfl⟩) S6.out
              rw [HZB.out] at hs2
              have hSI2 := Lib.hid hs2
              clear hs2
              have ck := (F6.out.cell HCK.out (by have := HGK.out; show ¬ w.heap.size ≤ gk; omega))
              go_quiet ((refine (hSI2.out _).mono ?_; rintro e w' ⟨he, hw⟩; exact ⟨he, _, hw.symm⟩))
              go_wp2_with fail
              go_roundw
              case rel => exact ⟨i + 1, _, by omega, by rw [HW2.out]; try go_num, by rw [HW1.out], by go_num, Lib.hid ⟨(by first | exact L6.out | exact L6.out.below ⟨rfl, rfl, rfl, Nat.le_refl _, fun _ _ => rfl⟩), (by rw [if_neg HF1.out]; exact S6.out), (by first | exact F6.out | exact F6.out.drewN _)⟩⟩
              case measure => simp [intOf]; omega
          · rw [getD_out ks j (by have := HK.out; omega)] at hok
            have hw1 : whS ks fl l (i + 1) = false := by rw [hok]; exact decide_eq_false (by omega)
            have HW1 := Lib.hid hw1
            have HW2 := Lib.hid (show wtS ks fl l (i + 1) = wtS ks fl l i by rw [wtS, hw1]; rfl)
            have dK2 : decide ((j : Int) < (K : Int)) = false := decide_eq_false (by omega)
            have dK3 : decide (j < K) = false := decide_eq_false (by omega)
            clear hw1 hok hij hf0 hwh hjK
            generalize wtS ks fl l i = u0 at *
            go_wp2_with fail
            refine (hSI.out).mono ?_
            rintro e w5 ⟨rfl, rfl⟩
            go_wp2_with fail
            refine (hAP.out).mono ?_
            rintro e w6 ⟨rfl, hd, hf, hs⟩
            have L6 := Lib.hid hd
            have F6 := Lib.hid (HD.out.2.2.trans hf)
            have S6 := Lib.hid hs
            clear hd hf hs
            go_wp2_with fail
            go_quiet (fail)
            go_wp2_with fail
            go_roundw
            case rel => exact ⟨i + 1, _, by omega, by rw [HW2.out]; try go_num, by rw [HW1.out], by go_num, Lib.hid ⟨(by first | exact L6.out | exact L6.out.below ⟨rfl, rfl, rfl, Nat.le_refl _, fun _ _ => rfl⟩), (by rw [if_neg HF1.out]; exact S6.out), (by first | exact F6.out | exact F6.out.drewN _)⟩⟩
            case measure => simp [intOf]; omega
    · have hiN : N = i := by omega
      subst hiN
      have hfN := HFL.out
      have hS : Sk s l N fl := by
        have h1 := HD.out.2.1
        rw [show (if N < fl then 0 else fl) = fl by split <;> omega] at h1
        exact h1
      have hcr := sk_crash (s := s) (l := l) (k := fl) (by rw [HN.out]; exact hS) ks (by rw [HN.out]; exact hfN)
      have hwt := wt_val ks fl l (by rw [HN.out]; exact hfN) N (by rw [HN.out]; exact Nat.le_refl _)
      have hfu := fulS_le ks 0 (l.drop fl)
      rw [List.length_drop, HN.out] at hfu
      obtain ⟨u, hu⟩ : ∃ u, wtS ks fl l N = u := ⟨_, rfl⟩
      rw [hu] at hwt
      have hu2 : fl + fulS ks 0 (l.drop fl) = u := by omega
      rw [hu2] at hcr
      have huN : u ≤ N := by omega
      obtain ⟨sc1, sc2⟩ := start_cal hS.cal ks
      obtain ⟨q1, q2, q3, _, _, q6⟩ := opn_cal sc1 (f := 2) (by decide)
      rw [sc2] at q6
      rw [sc2, hcr] at q3
      obtain ⟨k1, k2⟩ := read_up q2.idl.up (show 2 < 8 by decide)
      rw [q3.1] at k2
      have HIK := Lib.hid (HKS.out.fr HD.out.2.2 (fun b hb hn => by have := HL.out b hb; omega))
      have HCRS := Lib.hid (lgd_crash HD.out.1 HIK.out HJ.out (fun b hb hn => by have := HL.out b hb; omega) (s' := crashS ks s) rfl)
      have HST := Lib.hid (fun W (hW : Lgd (fun b => w.heap.size ≤ b) r p 2 (crashS ks s) (l.take N) W) => lgd_start hW (s' := startS (crashS ks s)) rfl)
      have HOP := Lib.hid (fun W (hW : Lgd (fun b => w.heap.size ≤ b) r p 2 (startS (crashS ks s)) (l.take N) W) => open_good (lgd_dsk hW) 2 q1 (s' := (opn (startS (crashS ks s)) ((2 : Nat) : Int)).2) rfl (rows := l.take u) (by rw [q6]; exact hcr))
      have hlu : (l.take u).length ≤ 20 := by rw [List.length_take, HN.out]; omega
      have HFI := Lib.hid (fun W (hB : Below w.heap.size w W) => file_any (texts_take (Texts.below HT.out hB) u (by rw [HN.out]; exact huN)) (small_take HSM.out u) (by omega) (by have h1 := recs_le l u; have h2 := HRL.out; omega))
      have HRD := Lib.hid (fun W y (hW : Lgd (fun b => w.heap.size ≤ b) r y 2 (opn (startS (crashS ks s)) ((2 : Nat) : Int)).2 (l.take u) W) => sk_read hW k1 k2)
      have HSL := Lib.hid (fun W (hB : Below w.heap.size w W) => texts_take (Texts.below HT.out hB) u (by rw [HN.out]; exact huN))
      have HLU := Lib.hid hlu
      have hslr := fun W => slice_rows a N c u (by have := HCAP.out; omega) W
      have HSMU := Lib.hid (small_take HSM.out u)
      have hu20 : u ≤ 20 := by omega
      rw [hu]
      clear hcr hwt hfu hu hu2 sc1 sc2 q1 q2 q3 q6 k1 k2 hlu hS hfN
      generalize (opn (startS (crashS ks s)) ((2 : Nat) : Int)).2 = s4 at *
      generalize sv (recs (l.take u)) = SX at *
      generalize whS ks fl l N = BW at *
      go_wp2_with fail
      refine (HCRS.out).mono ?_
      rintro e w5 ⟨rfl, hd, hf⟩
      have L5 := Lib.hid hd
      have F5 := Lib.hid (HD.out.2.2.trans hf)
      clear hd hf
      go_wp2_with fail
      refine (HST.out _ L5.out).mono ?_
      rintro e w6 ⟨rfl, hd, hf⟩
      have L6 := Lib.hid hd
      have F6 := Lib.hid (F5.out.trans hf)
      clear hd hf
      go_wp2_with fail
      refine (HOP.out _ L6.out).mono ?_
      rintro e w7 ⟨y, rfl, hd, hf⟩
      have L7 := Lib.hid hd
      have HB7 := Lib.hid ((F6.out.trans hf).to_below (Nat.le_refl _))
      clear hd hf
      go_wp2_with fail
      refine (HFI.out _ HB7.out).mono ?_
      rintro e w8 ⟨rfl, hb2⟩
      have HB8 := Lib.hid (HB7.out.trans (hb2.mono HB7.out.size))
      have L8 := Lib.hid (L7.out.below hb2)
      clear hb2
      go_wp2_with fail
      refine (HRD.out _ _ L8.out).mono ?_
      rintro e w9 ⟨rfl, hd, hf⟩
      have L9 := Lib.hid hd
      have HB9 := Lib.hid (HB8.out.trans (hf.to_below HB8.out.size))
      clear hd hf
      have HALL := Lib.hid (fun W (hB : Below w9.heap.size w9 W) => sk_all (L9.out.below hB) (by have := HLU.out; omega) (fun t ht => by have := HSMU.out t ht; omega) hB)
      have HSA := Lib.hid (fun W v (hB : Below w9.heap.size w9 W) (hT : Texts W v (l.take u)) => sk_same hT (HSL.out W (HB9.out.trans (hB.mono HB9.out.size))) (by have := HLU.out; omega) hB)
      go_wp2_with fail
      --GG
      have HR9 := (Below.refl w9.heap.size w9)
      go_region_held3 (fun W => Below w9.heap.size w9 W)
        (((try dsimp only); (first | assumption | exact (Below.refl _ _).drew | exact Below.drew (by assumption) | go_keep)))
        ((first
          | (go_at_call 18; refine (HALL.out _ ?_).mono ?_; assumption; rintro e w10 ⟨v9, rfl, ht9, hb9⟩)
          | (go_at_call 17; refine (HSA.out _ _ ?_ ?_).mono ?_; assumption; assumption; rintro e w11 ⟨rfl, hb11⟩)))
      go_wp2_with fail
      go_ret
      exact ⟨rfl, HB9.out.trans (Below.mono hb11 HB9.out.size)⟩
theorem walk {w : World} {v kv : Value} {l : List Bs} {ks : List Int} {fl : Int} (h : Texts w v l) (hcap : ∀ a n c, v = .slice a n c → n ≤ c) (hk : Ints w kv ks) (hj : ∀ z ∈ ks, J64 z) (hL : Lies w kv) : Calls Try.prog 7 #[v, .int .i64 fl, kv] w (IsTrue w) := by
  by_cases h1 : 20 < l.length
  · exact out_len fl h hk h1
  · by_cases h2 : 1500 < bytB l
    · exact out_bytes fl h hk (by omega) h2
    · by_cases h3 : 30 < ks.length
      · exact out_keep fl h hk (by omega) (by omega) h3
      · by_cases h4 : fl < 0
        · exact out_neg fl h hk (by omega) (by omega) (by omega) h4
        · by_cases h5 : ((l.length : Nat) : Int) < fl
          · exact out_more fl h hk (by omega) (by omega) (by omega) h4 h5
          · obtain ⟨n, rfl⟩ : ∃ n : Nat, fl = (n : Nat) := ⟨fl.toNat, by omega⟩
            obtain ⟨a, c, rfl⟩ := texts_len h
            exact main n h (hcap _ _ _ rfl) hk hj hL (by omega) (by omega) (by omega) (by omega)
end Go.Proofs.Ytdjchpejhfkknaa.walSkips
