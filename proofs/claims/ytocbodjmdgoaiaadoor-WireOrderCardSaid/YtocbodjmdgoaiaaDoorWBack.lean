/- The statement WireBack, walked: a reader of the encodings of light values returns the values in order and leaves what follows. Conditions: those of the walk. -/
import Derived.Test.YtocbodjmdgoaiaaDoorWOnly
import Derived.Deep.RegionWith
namespace Go.Proofs.YtocbodjmdgoaiaaDoor
open Go.RowKit Wm
set_option linter.unusedVariables false

theorem allE_cons (v : Va) (vs : List Va) : allE (v :: vs) = encV v ++ allE vs := by simp [allE]
theorem allE_drop (vs : List Va) (k : Nat) (v : Va) (h : vs[k]? = some v) : allE (vs.drop k) = encV v ++ allE (vs.drop (k + 1)) := by
  obtain ⟨hk, rfl⟩ := List.getElem?_eq_some_iff.1 h
  rw [List.drop_eq_getElem_cons hk, allE_cons]
theorem rnums_yes {w : World} {r : Nat} {l : List Int} {t : Bs} {f : Bool} (h : Rdr w r (encL encI l ++ t) f) (hs : (encL encI l ++ t).length ≤ 1048576) (hl : ∀ x ∈ l, J64 x) :
    Calls Tryd.prog 29 #[.pointer (some ⟨r, 0, none⟩)] w fun e w' => ∃ (A : Option Addr) (c : Nat), e = .returned (.slice A l.length c) ∧ Rd w' A l.length (iv l) ∧ Rdr w' r t f ∧ w.grownBy w' (some r) := by
  refine (rnums_any h hs).mono ?_
  rintro e w' (⟨l', t', v, h1, h2, rfl, h3, h4, h5⟩ | ⟨h1, _⟩)
  · obtain ⟨rfl, rfl⟩ := encL_inj J64 inj_ints l t l' t' hl h1 h2
    obtain ⟨A, c, rfl, hr⟩ := own_rd h3
    exact ⟨A, c, rfl, hr, h4, h5⟩
  · exact absurd ⟨l, t, hl, rfl⟩ h1
theorem rtexts_yes {w : World} {r : Nat} {l : List Bs} {t : Bs} {f : Bool} (h : Rdr w r (encL encT l ++ t) f) (hs : (encL encT l ++ t).length ≤ 1048576) (hm : Mx w) (hg : 0 < r) :
    Calls Tryd.prog 32 #[.pointer (some ⟨r, 0, none⟩)] w fun e w' => ∃ (A : Option Addr) (c : Nat), e = .returned (.slice A l.length c) ∧ Rd w' A l.length (tv l) ∧ Rdr w' r t f ∧ w.grownBy w' (some r) := by
  refine (rtexts_any h hs hm hg).mono ?_
  rintro e w' (⟨l', t', v, h1, h2, rfl, h3, h4, h5⟩ | ⟨h1, _⟩)
  · obtain ⟨rfl, rfl⟩ := encL_inj (fun _ => True) inj_texts l t l' t' (fun _ _ => trivial) h1 h2
    obtain ⟨A, c, rfl, hr⟩ := own_rd h3
    exact ⟨A, c, rfl, hr, h4, h5⟩
  · exact absurd ⟨l, t, fun _ _ => trivial, rfl⟩ h1

theorem rnums_len {w : World} {r n : Nat} {l : List Int} {t : Bs} {f : Bool} (hn : l.length = n) (h : Rdr w r (encL encI l ++ t) f) (hs : (encL encI l ++ t).length ≤ 1048576) (hl : ∀ x ∈ l, J64 x) :
    Calls Tryd.prog 29 #[.pointer (some ⟨r, 0, none⟩)] w fun e w' => ∃ (A : Option Addr) (c : Nat), e = .returned (.slice A n c) ∧ Rd w' A n (iv l) ∧ Rdr w' r t f ∧ w.grownBy w' (some r) := by
  subst hn
  exact rnums_yes h hs hl
theorem rtexts_len {w : World} {r n : Nat} {l : List Bs} {t : Bs} {f : Bool} (hn : l.length = n) (h : Rdr w r (encL encT l ++ t) f) (hs : (encL encT l ++ t).length ≤ 1048576) (hm : Mx w) (hg : 0 < r) :
    Calls Tryd.prog 32 #[.pointer (some ⟨r, 0, none⟩)] w fun e w' => ∃ (A : Option Addr) (c : Nat), e = .returned (.slice A n c) ∧ Rd w' A n (tv l) ∧ Rdr w' r t f ∧ w.grownBy w' (some r) := by
  subst hn
  exact rtexts_yes h hs hm hg
theorem done_full {w : World} {r : Nat} {s : Bs} (h : Rdr w r s false) : Calls Tryd.prog 36 #[.pointer (some ⟨r, 0, none⟩)] w fun e w' => e = .returned (.bool s.isEmpty) ∧ w = w' := by
  have := done_any h
  simpa using this
/-- Behind the choice of what is read: it was the value, and the reader stands behind it. -/
def Back (t : Bs) (r : Nat) (w : World) (v : Value) (wc : World) : Prop := v = .bool true ∧ Below w.heap.size w wc ∧ Rdr wc r t false

set_option maxHeartbeats 8000000 in
set_option maxRecDepth 100000 in
theorem back_walk {A : Option Addr} {n c : Nat} {vs : List Va} {t : Bs} {w : World} (hr : RdV w A n vs) (hl : lightB vs = true) (ht : t.length ≤ 500) (hm : Mx w) :
    Calls Tryd.prog 5 #[.slice A n c, .string (sv t)] w (IsTrue w) := by
  have hlen := hr.1
  obtain ⟨l1, l2⟩ := lightB_parts hl
  have hall := allE_le_light hr hl
  have hn20 : n ≤ 20 := by omega
  have HR := Lib.hid hr
  have HM := Lib.hid hm
  have HLen := Lib.hid hlen
  have HL2 := Lib.hid l2
  have SM := Lib.hid (small_any hm)
  have LT := Lib.hid (fun W (hW : RdV W A n vs) => light_any (c := c) hW (by omega))
  rw [hl] at LT
  have AL := Lib.hid (fun W (hW : RdV W A n vs) (hx : Mx W) => all_any (c := c) hW hl hx)
  have OP := Lib.hid (fun W => open_any (allE vs ++ t) W)
  have hT : (sv t).size = t.length := rfl
  have hS : (sv (allE vs)).size = (allE vs).length := rfl
  have hcat : sv (allE vs) ++ sv t = sv (allE vs ++ t) := sv_append _ _
  have hTe : (sv t).toList.isEmpty = t.isEmpty := by rw [sv_toList]
  have HT := Lib.hid hT
  have HC := Lib.hid hcat
  have HTE := Lib.hid hTe
  rw [← hcat] at OP
  have hT5 : (sv t).size ≤ 500 := ht
  have hS1 : (sv (allE vs)).size ≤ 1020000 := hall
  clear hr hm hlen l2 hl hT hS hcat hTe l1
  generalize sv (allE vs) = S at *
  generalize sv t = T at *
  go_enter Tryd.func5, Tryd.ntmps5
  go_wp2_with fail
  refine SM.out.mono ?_
  rintro e w1 ⟨rfl, hb1⟩
  have HB1 := Lib.hid hb1
  clear hb1
  go_wp2_with fail
  refine (LT.out _ (HR.out.below HB1.out)).mono ?_
  rintro e w2 ⟨rfl, rfl⟩
  go_wp2_with fail
  refine (AL.out _ (HR.out.below HB1.out) (HM.out.self HB1.out)).mono ?_
  rintro e w2 ⟨rfl, hb2⟩
  have HB2 := Lib.hid (below_trans HB1.out hb2)
  clear hb2
  go_wp2_with fail
  refine (OP.out _).mono ?_
  rintro e w3 ⟨rfl, r3, b3, s3⟩
  have R3 := Lib.hid r3
  have HB3 := Lib.hid (below_trans HB2.out b3)
  have hrw := HB2.out.size
  clear r3 b3 s3
  obtain ⟨r, hrr⟩ : ∃ r, r = w2.heap.size := ⟨_, rfl⟩
  rw [← hrr] at R3 hrw ⊢
  clear hrr
  have hmr : 0 < r := by have := Mx.lt HM.out; omega
  go_wp2_with fail
  go_loopw [8] (fun i wr => ∃ k : Nat, k ≤ n ∧ i = .int .i64 k ∧ Hid (Rdr wr r (allE (vs.drop k) ++ t) false) ∧ Hid (Below w.heap.size w wr)) (fun i _ => n - (intOf i).toNat)
  case atStart => exact ⟨0, Nat.zero_le _, rfl, R3, HB3⟩
  case round =>
    obtain ⟨k, hk, rfl, HRD, HBE⟩ := hrel
    by_cases hlt : k < n
    · have hrw2 := HR.out.below HBE.out
      obtain ⟨b, off, e, hlb, hc⟩ := hrw2.2.2 (by omega)
      have hkv : k < vs.length := by have := HLen.out; omega
      obtain ⟨v, hv⟩ : ∃ v, vs[k]? = some v := ⟨vs[k], List.getElem?_eq_getElem hkv⟩
      subst e
      obtain ⟨g0, g1, g2, g3, g4⟩ := hc k v hv
      have hva := hrw2.2.1 v (List.mem_of_getElem? hv)
      have hlv := HL2.out v (List.mem_of_getElem? hv)
      have hdr := allE_drop vs k v hv
      have hrl : (allE (vs.drop k) ++ t).length ≤ 1048576 := by
        have h1 := allE_le (vs.drop k) fun x hx => encV_le (hrw2.2.1 x (List.mem_of_mem_drop hx)) (HL2.out x (List.mem_of_mem_drop hx))
        have h2 : (vs.drop k).length ≤ vs.length := by simp
        have h3 := HLen.out
        rw [List.length_append]
        omega
      have HVA := Lib.hid hva
      have HVW := Lib.hid (HR.out.2.1 v (List.mem_of_getElem? hv))
      have HLV := Lib.hid hlv
      have HDR := Lib.hid hdr
      rw [hdr, List.append_assoc] at HRD hrl
      have HRL := Lib.hid hrl
      clear hc hlb hrw2 hva hlv hdr hv hrl
      generalize hN : allE (vs.drop (k + 1)) ++ t = Nx at *
      have HN := Lib.hid hN
      clear hN
      have hkd : bits .and .i64 v.k 3 = kd v.k := rfl
      have hE : encV v = if kd v.k = 0 then encI v.n else if kd v.k = 1 then encT v.s else if kd v.k = 2 then encL encI v.l else encL encT v.t := rfl
      have HE := Lib.hid hE
      clear hE
      generalize kd v.k = q at *
      go_upto_block 2 with fail
      have hA : VaAt (wr.alloc (.cells #[.int .i64 v.k, .int .i64 v.n, .string (sv v.s), .slice v.la v.ln v.lc, .slice v.ta v.tn v.tc] 28)) wr.heap.size 0 v := by
        have hb := Blk.new wr 28 #[.int .i64 v.k, .int .i64 v.n, .string (sv v.s), .slice v.la v.ln v.lc, .slice v.ta v.tn v.tc]
        exact ⟨hb.cell 0, hb.cell 1, hb.cell 2, hb.cell 3, hb.cell 4⟩
      have HR1 := Lib.hid (HRD.out.below (below_alloc wr (.cells #[.int .i64 v.k, .int .i64 v.n, .string (sv v.s), .slice v.la v.ln v.lc, .slice v.ta v.tn v.tc] 28)))
      have HB1' := Lib.hid (HBE.out.trans ((below_alloc wr (.cells #[.int .i64 v.k, .int .i64 v.n, .string (sv v.s), .slice v.la v.ln v.lc, .slice v.ta v.tn v.tc] 28)).mono HBE.out.size))
      have HVA1 := Lib.hid (HVA.out.below (below_alloc wr (.cells #[.int .i64 v.k, .int .i64 v.n, .string (sv v.s), .slice v.la v.ln v.lc, .slice v.ta v.tn v.tc] 28)))
      have hrg : r < wr.heap.size := Blk.lt HRD.out
      generalize wr.alloc (.cells #[.int .i64 v.k, .int .i64 v.n, .string (sv v.s), .slice v.la v.ln v.lc, .slice v.ta v.tn v.tc] 28) = W1 at *
      generalize wr.heap.size = g at *
      have hne : some g ≠ some r := fun e => by have := Option.some.inj e; omega
      have HNE := Lib.hid hne
      obtain ⟨a0, a1, a2, a3, a4⟩ := hA
      clear hne g0 g1 g2 g3 g4
      go_cut [10] (fun x wc => Back Nx r w x wc)
      case first =>
        by_cases h0 : q = 0
        · subst h0
          have hrd := HR1.out
          rw [HE.out, if_pos rfl] at hrd
          have hlen : (encI v.n ++ Nx).length ≤ 1048576 := by have := HRL.out; rwa [HE.out, if_pos rfl] at this
          have C1 := Lib.hid (fun W (hW : Rdr W r (encI v.n ++ Nx) false) => rint_yes hW hlen (decI_enc HVA.out.2.1 Nx))
          have RR := Lib.hid hrd
          have e1 : (v.n == v.n) = true := by simp
          clear hrd hlen
          go_wp2_with fail
          go_region_with ((go_at_call 24; refine (C1.out W1.drew RR.out).mono ?_; rintro e w4 ⟨rfl, r4, g4⟩; have c4 := World.grownBy.cell g4 (show W1.drew.cell? ⟨g, 0 + 1, none⟩ = _ from a1) HNE.out; have R4 := Lib.hid r4; have G4 : Hid (W1.grownBy w4 (some r)) := Lib.hid ⟨g4.os, g4.tape, g4.output, g4.size, g4.block⟩; clear r4 g4))
          all_goals
            go_wp2_with fail
            go_meet
            exact ⟨rfl, only_below' G4.out HB1'.out hrw, R4.out⟩
        · have e0 : (q == 0) = false := beq_eq_false_iff_ne.2 h0
          by_cases h1 : q = 1
          · subst h1
            have henc : encV v = encT v.s := by rw [HE.out]; rfl
            have hrd := HR1.out
            rw [henc] at hrd
            have hlen : (encT v.s ++ Nx).length ≤ 1048576 := by have := HRL.out; rwa [henc] at this
            have RR := Lib.hid hrd
            have HMW := Lib.hid (HM.out.self HB1'.out)
            have C1 := Lib.hid (fun W (hW : Rdr W r (encT v.s ++ Nx) false) (hx : Mx W) => rtext_yes hW hlen hx (decT_enc v.s Nx))
            generalize hs : sv v.s = S2 at *
            have e1 : (S2.toList == S2.toList) = true := by simp
            clear hrd hlen henc hs
            go_wp2_with fail
            go_region_with ((go_at_call 26; refine (C1.out W1.drew RR.out HMW.out).mono ?_; rintro e w4 ⟨rfl, r4, g4⟩; have c4 := World.grownBy.cell g4 (show W1.drew.cell? ⟨g, 0 + 2, none⟩ = _ from a2) HNE.out; have R4 := Lib.hid r4; have G4 : Hid (W1.grownBy w4 (some r)) := Lib.hid ⟨g4.os, g4.tape, g4.output, g4.size, g4.block⟩; clear r4 g4))
            all_goals
              go_wp2_with fail
              go_meet
              exact ⟨rfl, only_below' G4.out HB1'.out hrw, R4.out⟩
          · have e1 : (q == 1) = false := beq_eq_false_iff_ne.2 h1
            by_cases h2 : q = 2
            · subst h2
              have henc : encV v = encL encI v.l := by rw [HE.out]; rfl
              have hrd := HR1.out
              rw [henc] at hrd
              have hlen : (encL encI v.l ++ Nx).length ≤ 1048576 := by have := HRL.out; rwa [henc] at this
              have RR := Lib.hid hrd
              have HMW := Lib.hid (HM.out.self HB1'.out)
              have hll : v.l.length = v.ln := by have := HVA.out.2.2.2.2.2.2.2.1.1; simpa [iv] using this
              have hl50 := (light_parts HLV.out).2.1
              have C1 := Lib.hid (fun W (hW : Rdr W r (encL encI v.l ++ Nx) false) => rnums_len hll hW hlen HVA.out.2.2.2.2.2.1)
              have C2 := Lib.hid (fun (W : World) (A c) (h : Rd W A v.ln (iv v.l)) (h' : RdVa W v) => same_nums (c := c) (c' := v.lc) h h'.2.2.2.2.2.2.2.1 (by omega))
              clear hrd hlen henc hll
              go_wp2_with fail
              go_region_with ((first
                | (go_at_call 29; refine (C1.out W1.drew RR.out).mono ?_; rintro e w4 ⟨A4, c4', rfl, rd4, r4, g4⟩; have c4 := World.grownBy.cell g4 (show W1.drew.cell? ⟨g, 0 + 3, none⟩ = _ from a3) HNE.out; have R4 := Lib.hid r4; have G4 : Hid (W1.grownBy w4 (some r)) := Lib.hid ⟨g4.os, g4.tape, g4.output, g4.size, g4.block⟩; have RD4 := Lib.hid rd4; have HB4 := Lib.hid (only_below' G4.out HB1'.out hrw); clear r4 g4 rd4)
                | (go_at_call 28; refine (C2.out w4 A4 c4' RD4.out (HVW.out.below HB4.out)).mono ?_; rintro e w5 ⟨rfl, m5, rfl⟩)))
              all_goals
                go_wp2_with fail
                go_meet
                exact ⟨rfl, below_drew HB4.out m5, R4.out⟩
            · have e2 : (q == 2) = false := beq_eq_false_iff_ne.2 h2
              have henc : encV v = encL encT v.t := by rw [HE.out, if_neg h0, if_neg h1, if_neg h2]
              have hrd := HR1.out
              rw [henc] at hrd
              have hlen : (encL encT v.t ++ Nx).length ≤ 1048576 := by have := HRL.out; rwa [henc] at this
              have RR := Lib.hid hrd
              have HMW := Lib.hid (HM.out.self HB1'.out)
              have hll : v.t.length = v.tn := by have := HVA.out.2.2.2.2.2.2.2.2.1; simpa [tv] using this
              have hl50 := (light_parts HLV.out).2.2.1
              have C1 := Lib.hid (fun W (hW : Rdr W r (encL encT v.t ++ Nx) false) (hx : Mx W) => rtexts_len hll hW hlen hx hmr)
              have C2 := Lib.hid (fun (W : World) (A c) (h : Rd W A v.tn (tv v.t)) (h' : RdVa W v) => same_texts (c := c) (c' := v.tc) h h'.2.2.2.2.2.2.2.2 (by omega))
              clear hrd hlen henc hll h0 h1 h2
              go_wp2_with fail
              go_region_with ((first
                | (go_at_call 32; refine (C1.out W1.drew RR.out HMW.out).mono ?_; rintro e w4 ⟨A4, c4', rfl, rd4, r4, g4⟩; have c4 := World.grownBy.cell g4 (show W1.drew.cell? ⟨g, 0 + 4, none⟩ = _ from a4) HNE.out; have R4 := Lib.hid r4; have G4 : Hid (W1.grownBy w4 (some r)) := Lib.hid ⟨g4.os, g4.tape, g4.output, g4.size, g4.block⟩; have RD4 := Lib.hid rd4; have HB4 := Lib.hid (only_below' G4.out HB1'.out hrw); clear r4 g4 rd4)
                | (go_at_call 31; refine (C2.out w4 A4 c4' RD4.out (HVW.out.below HB4.out)).mono ?_; rintro e w5 ⟨rfl, m5, rfl⟩)))
              all_goals
                go_wp2_with fail
                go_meet
                exact ⟨rfl, below_drew HB4.out m5, R4.out⟩
      case rest =>
        obtain ⟨rfl, hb4, hr4⟩ := hcut
        have HB4 := Lib.hid hb4
        have HR4 := Lib.hid hr4
        clear hb4 hr4
        go_wp2_with fail
        go_roundw
        case rel => exact ⟨k + 1, by omega, by go_num, by rw [HN.out]; exact HR4, HB4⟩
        case measure => simp [intOf]; omega
    · obtain rfl : k = n := by omega
      have hrd := HRD.out
      rw [List.drop_of_length_le (by have := HLen.out; omega)] at hrd
      have hrd2 : Rdr wr r t false := by simpa [allE] using hrd
      have C1 := Lib.hid (left_any hrd2)
      have C2 := Lib.hid (done_full hrd2)
      have hTs := HT.out
      have hTe := HTE.out
      rw [← hTs] at C1
      have d1 : ((T.size : Int) == (T.size : Int)) = true := by simp
      clear hrd hrd2 hTs
      cases hem : t.isEmpty with
      | true =>
        rw [hem] at C2 hTe
        clear hem
        go_wp2_with fail
        refine C1.out.mono ?_
        rintro e w4 ⟨rfl, rfl⟩
        go_wp2_with fail
        refine C2.out.mono ?_
        rintro e w4 ⟨rfl, rfl⟩
        go_wp2_with fail
        go_ret
        exact ⟨rfl, HBE.out⟩
      | false =>
        rw [hem] at C2 hTe
        clear hem
        go_wp2_with fail
        refine C1.out.mono ?_
        rintro e w4 ⟨rfl, rfl⟩
        go_wp2_with fail
        refine C2.out.mono ?_
        rintro e w4 ⟨rfl, rfl⟩
        go_wp2_with fail
        go_ret
        exact ⟨rfl, HBE.out⟩
end Go.Proofs.YtocbodjmdgoaiaaDoor
