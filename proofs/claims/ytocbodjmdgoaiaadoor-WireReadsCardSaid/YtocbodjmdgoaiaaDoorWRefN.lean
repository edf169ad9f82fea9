/- The reference's reader reads an int where its text is h :: t. Conditions: the text has at most 2^20 bytes; the reader lies in a block of its own. -/
import Derived.Test.YtocbodjmdgoaiaaDoorWRefR
import Derived.RegionTactic
namespace Go.Proofs.YtocbodjmdgoaiaaDoor
open Go.RowKit Wm
set_option linter.unusedVariables false

set_option maxHeartbeats 16000000 in
set_option maxRecDepth 100000 in
theorem qint_cons {w : World} {r : Nat} {f : Bool} (h : UInt8) (t : Bs) (hs : t.length ≤ 1048576) (hq : Rdq w r (h :: t) f) : Calls Tryd.prog 25 #[.pointer (some ⟨r, 0, none⟩)] w (QI r (h :: t) f w) := by
  obtain ⟨c0, c1⟩ := hq.cells
  have e1 := sv_cons_ne h t
  have hsz : (sv (h :: t)).size = t.length + 1 := rfl
  have hg0 : ∀ p : 0 < (sv (h :: t)).size, ((sv (h :: t))[0]).toNat = h.toNat := fun p => by rw [sv_get]; rfl
  have hgx : ∀ j (p : j + 1 < (sv (h :: t)).size) (q : j < t.length), (sv (h :: t))[j + 1] = t[j] := fun j p q => by rw [sv_get]; rfl
  have hlt := h.toNat_lt
  have hK : kH h = if h.toNat < 128 then 127 - h.toNat else h.toNat - 128 := by unfold kH isNeg; by_cases hh : h.toNat < 128 <;> simp [hh]
  have hk127 : kH h ≤ 127 := by rw [hK]; split <;> omega
  have hneg : isNeg h = decide (h.toNat < 128) := rfl
  have h0 : 0 < (sv (h :: t)).size := by rw [hsz]; omega
  have hg1 := hg0 h0
  have F := Lib.hid (qfail hq)
  have FQ := Lib.hid (fun W (hW : Rdq W r (h :: t) f) => qfail hW)
  have HQ := Lib.hid hq
  have f0 := Blk.frozen hq 0
  have hbd := fun j => mv_bd h (t.take j)
  have hj64 := fun j => mv_j64 h (t.take j)
  have hte := fun hk hj => take_enc (h := h) (t := t) hk hj
  have hxt := take_sv (h :: t) (1 + kH h)
  have hxd := drop_sv (h :: t) (1 + kH h)
  have hnone : (8 < kH h ∨ t.length < kH h) → decI (h :: t) = none := fun hh => by
    rw [decI_cons, if_neg]
    rintro ⟨a, b, c⟩
    have := kOf_le (bval (st h) (t.take (kH h)))
    omega
  have hstep : ∀ j (hj : j < t.length), mvI (isNeg h) (bval (st h) (t.take (j + 1))) = 256 * mvI (isNeg h) (bval (st h) (t.take j)) + (if isNeg h then 255 - (t[j].toNat : Int) else (t[j].toNat : Int)) := fun j hj => by
    rw [List.take_succ_eq_append_getElem hj, bval_snoc, mv_step]
  have HGX := Lib.hid hgx
  have HSZ := Lib.hid hsz
  have HNEG := Lib.hid hneg
  have HBD := Lib.hid hbd
  have HJ := Lib.hid hj64
  have HTE := Lib.hid hte
  have HXT := Lib.hid hxt
  have HXD := Lib.hid hxd
  have HNO := Lib.hid hnone
  have HST := Lib.hid hstep
  have hSl : (sv (h :: t)).size ≤ 1048577 := by omega
  clear hgx hsz hneg hg0 hq hbd hj64 hte hxt hxd hnone hstep
  generalize hF : h :: t = l at *
  generalize hS : sv l = S at *
  have HS := Lib.hid hS
  have HF := Lib.hid hF
  clear hF hS
  generalize h.toNat = a at *
  go_enter Tryd.func25, Tryd.ntmps25
  go_upto_if 25 with fail
  go_cut [4] (fun k wc => k = .int .i64 (kH h : Nat) ∧ w = wc)
  case first =>
    by_cases hh : a < 128
    · have d : decide (a < 128) = true := decide_eq_true hh
      have ek : (127 - (a : Int)) = (kH h : Int) := by rw [hK, if_pos hh]; omega
      have EK := Lib.hid ek
      clear hK ek
      go_wp2_with fail
      go_meet
      exact ⟨by rw [EK.out], rfl⟩
    · have d : decide (a < 128) = false := decide_eq_false hh
      have ek : ((a : Int) - 128) = (kH h : Int) := by rw [hK, if_neg hh]; omega
      have EK := Lib.hid ek
      clear hK ek
      go_wp2_with fail
      go_meet
      exact ⟨by rw [EK.out], rfl⟩
  case rest =>
    obtain ⟨rfl, rfl⟩ := hcut
    clear hK hg1 e1
    by_cases hbad : 8 < kH h ∨ t.length < kH h
    · have hd := HNO.out hbad
      have HR : Hid (decI l = none) := Lib.hid hd
      have HSZo := HSZ.out
      clear hd
      generalize kH h = K at *
      by_cases h8 : 8 < K
      · have d8 : decide ((8 : Int) < (K : Int)) = true := decide_eq_true (by omega)
        clear hbad HSZo
        go_wp2_with fail
        refine F.out.mono ?_
        rintro e w1 ⟨rfl, h1, h2⟩
        have HQI : Hid (QI r l f w (.returned (.int .i64 0)) w1) := Lib.hid (.inr ⟨HR.out, rfl, h1, h2⟩)
        clear h1 h2
        go_wp2_with fail
        go_ret
        exact HQI.out
      · have d8 : decide ((8 : Int) < (K : Int)) = false := decide_eq_false (by omega)
        have d9 : decide ((S.size : Int) < 1 + (K : Int)) = true := decide_eq_true (by omega)
        clear hbad HSZo
        go_wp2_with fail
        refine F.out.mono ?_
        rintro e w1 ⟨rfl, h1, h2⟩
        have HQI : Hid (QI r l f w (.returned (.int .i64 0)) w1) := Lib.hid (.inr ⟨HR.out, rfl, h1, h2⟩)
        clear h1 h2
        go_wp2_with fail
        go_ret
        exact HQI.out
    · have hk8 : kH h ≤ 8 := by omega
      have hkt : kH h ≤ t.length := by omega
      have hSs := HSZ.out
      have d8 : decide ((8 : Int) < (kH h : Int)) = false := decide_eq_false (by omega)
      have d9 : decide ((S.size : Int) < 1 + (kH h : Int)) = false := decide_eq_false (by omega)
      clear hbad hSs
      go_wp2_with fail
      go_loop [5, 6] (fun m i => ∃ j : Nat, j ≤ kH h ∧ i = .int .i64 ((j : Int) + 1) ∧ m = .int .u64 (mvI (isNeg h) (bval (st h) (t.take j)))) (fun _ i => kH h + 1 - (intOf i).toNat)
      case atStart => exact ⟨0, Nat.zero_le _, rfl, by show _ = Value.int .u64 (mvI (isNeg h) (st h)); unfold mvI st; cases isNeg h <;> rfl⟩
      case round =>
        obtain ⟨j, hj, rfl, rfl⟩ := hrel
        by_cases hlt : j < kH h
        · have hjt : j < t.length := by omega
          have hjS : j + 1 < S.size := by have := HSZ.out; omega
          have hgj := HGX.out j hjS hjt
          have hst := HST.out j hjt
          have hb := HBD.out j
          have hpw : (256 : Int) ^ (t.take j).length ≤ 72057594037927936 := by
            have h1 : (t.take j).length ≤ 7 := by have := List.length_take_le j t; omega
            have h3 : ((256 ^ (t.take j).length : Nat) : Int) ≤ ((256 ^ 7 : Nat) : Int) := Int.ofNat_le.2 (Nat.pow_le_pow_right (by decide) h1)
            rw [pow_cast] at h3
            exact h3
          have hb0 := hb.1
          have hb1 : mvI (isNeg h) (bval (st h) (t.take j)) < 72057594037927936 := by omega
          have hx := (t[j]).toNat_lt
          have HSN := Lib.hid hst
          clear hst hb hpw
          generalize mvI (isNeg h) (bval (st h) (t.take j)) = M at *
          generalize hX : t[j] = x at *
          clear hX
          by_cases hh : a < 128
          · have d : decide ((a : Int) < 128) = true := decide_eq_true (by omega)
            have HN : Hid (mvI (isNeg h) (bval (st h) (t.take (j + 1))) = 256 * M + (255 - (x.toNat : Int))) := Lib.hid (by rw [HSN.out, HNEG.out, decide_eq_true hh]; rfl)
            go_wp2_with fail
            go_round
            case rel => exact ⟨j + 1, by omega, by congr 1, by rw [HN.out]⟩
            case measure => simp [intOf]; omega
          · have d : decide ((a : Int) < 128) = false := decide_eq_false (by omega)
            have HN : Hid (mvI (isNeg h) (bval (st h) (t.take (j + 1))) = 256 * M + (x.toNat : Int)) := Lib.hid (by rw [HSN.out, HNEG.out, decide_eq_false hh]; rfl)
            go_wp2_with fail
            go_round
            case rel => exact ⟨j + 1, by omega, by congr 1, by rw [HN.out]⟩
            case measure => simp [intOf]; omega
        · obtain rfl : j = kH h := by omega
          have hgt : ¬ (kH h + 1 ≤ kH h) := by omega
          have HJX := Lib.hid (HJ.out (kH h))
          have hb0 := (HBD.out (kH h)).1
          generalize hX : bval (st h) (t.take (kH h)) = X at *
          by_cases hjx : J64 X
          · by_cases hh : a < 128
            · have d : decide ((a : Int) < 128) = true := decide_eq_true (by omega)
              have hng : isNeg h = true := by rw [HNEG.out]; exact decide_eq_true hh
              have ex : -(mvI (isNeg h) X) - 1 = X := by unfold mvI; rw [hng]; simp only [if_true]; omega
              have hM := (HJX.out.1 hjx)
              have w1 : wrap64 (mvI (isNeg h) X) = mvI (isNeg h) X := IntWalk.wrap64_in _ ⟨by omega, by omega⟩
              have w2 : wrap64 (-(mvI (isNeg h) X)) = -(mvI (isNeg h) X) := IntWalk.wrap64_in _ ⟨by omega, by omega⟩
              have w3 : wrap64 (-(mvI (isNeg h) X) - 1) = X := by rw [ex]; exact IntWalk.wrap64_in _ hjx
              have d63 : decide (9223372036854775808 ≤ mvI (isNeg h) X) = false := decide_eq_false (by omega)
              have CI := Lib.hid (fun W => rf_int X hjx W)
              have hrl := Blk.lt HQ.out
              have hcs := HTE.out hkt hjx
              have EX := Lib.hid ex
              clear hM ex hng
              generalize mvI (isNeg h) X = M at *
              rcases hcs with ⟨heq, hdd⟩ | ⟨heq, hdd⟩
              · have HDD := Lib.hid (show decI l = some (X, t.drop (kH h)) from hdd)
                have b1 : ((sv (encI X)).toList == (S.extract 0 (1 + kH h)).toList) = true := by rw [HXT.out, sv_toList, sv_toList]; exact heq
                have b2 : (!(sv (encI X)).toList == (S.extract 0 (1 + kH h)).toList) = false := by rw [b1]; rfl
                have b3 : ((sv (encI X)).toList != (S.extract 0 (1 + kH h)).toList) = false := by rw [bne, b1]; rfl
                clear heq hdd
                generalize sv (encI X) = E at *
                go_wp2_with fail
                have hsl1 : (0 : Int) ≤ 1 + (kH h : Int) := by omega
                have hsl2 : (1 + (kH h : Int)) ≤ (S.size : Int) := by have := HSZ.out; omega
                have hsl3 : (1 + (kH h : Int)).toNat = 1 + kH h := by omega
                have hrT : ∀ W, (Instr.slice 9 (.string S) none (some (.int .i64 (1 + (kH h : Int)))) none).run Tryd.prog W = .ok (.string (S.extract 0 (1 + kH h))) W := fun W => by rw [run_slice_string_to_if W 9 S .i64 _ Tryd.underlying9, if_pos ⟨hsl1, hsl2⟩, hsl3]
                have hrF : ∀ W, (Instr.slice 9 (.string S) (some (.int .i64 (1 + (kH h : Int)))) none none).run Tryd.prog W = .ok (.string (S.extract (1 + kH h) S.size)) W := fun W => by rw [run_slice_string_from_if W 9 S .i64 _ Tryd.underlying9, if_pos ⟨hsl1, hsl2⟩, hsl3]
                have hwK : IntKind.i64.wrap (1 + (kH h : Int)) = 1 + (kH h : Int) := by rw [IntKind.wrap_i64]; omega
                clear hsl1 hsl2 hsl3
                have hbr : Below w.heap.size w w := Below.refl _ _
                have CI2 : Hid (∀ W, (W.cell? ⟨r, 0, none⟩ = some (.string S) ∧ Below w.heap.size w W) → Calls Tryd.prog 11 #[.int .i64 X] W fun e w' => e = .returned (.string E) ∧ w'.cell? ⟨r, 0, none⟩ = some (.string S) ∧ Below w.heap.size w w') := Lib.hid (fun W hW => (CI.out W).mono (fun e w' he => ⟨he.1, (he.2.cell (p := ⟨r, 0, none⟩) (Nat.lt_of_lt_of_le hrl hW.2.size)).trans hW.1, hW.2.trans (he.2.mono hW.2.size)⟩))
                have hS2 : w.cell? ⟨r, 0, none⟩ = some (.string S) ∧ Below w.heap.size w w := ⟨c0, hbr⟩
                go_region_held3 (fun W => W.cell? ⟨r, 0, none⟩ = some (.string S) ∧ Below w.heap.size w W)
                  (((try dsimp only); (refine ⟨?_, ?_⟩ <;> (first | assumption | go_keep | exact ⟨hbr.os, hbr.tape, hbr.output, hbr.size, hbr.block⟩))))
                  ((first
                    | (go_at_call 11; refine (CI2.out _ ?_).mono ?_; assumption; rintro e w4 ⟨rfl, h1, h2⟩)))
                have HB4 : Hid (Below w.heap.size w w4) := Lib.hid h2
                have f4 : w4.frozen? ⟨r, 0, none⟩ = false := (HB4.out.frozen (p := ⟨r, 0, none⟩) hrl).trans f0
                clear h2 hS2 hbr
                go_wp2_with fail
                go_ret
                refine .inl ⟨X, _, HDD.out, rfl, ?_, only_setCell (only_of_below HB4.out (some r)) 0 _⟩
                have h5 := Blk.set_ (Rdq.below HQ.out HB4.out) 0 (.string (S.extract (1 + kH h) S.size))
                rw [HXD.out] at h5 ⊢
                have e5 : (l.drop (1 + kH h)) = t.drop (kH h) := by rw [← HF.out, Nat.add_comm]; rfl
                rw [e5] at h5 ⊢
                exact h5
              · have HDN := Lib.hid (show decI l = none from hdd)
                have b1 : ((sv (encI X)).toList == (S.extract 0 (1 + kH h)).toList) = false := by rw [HXT.out, sv_toList, sv_toList]; exact heq
                have b2 : (!(sv (encI X)).toList == (S.extract 0 (1 + kH h)).toList) = true := by rw [b1]; rfl
                have b3 : ((sv (encI X)).toList != (S.extract 0 (1 + kH h)).toList) = true := by rw [bne, b1]; rfl
                clear heq hdd
                generalize sv (encI X) = E at *
                go_wp2_with fail
                have hsl1 : (0 : Int) ≤ 1 + (kH h : Int) := by omega
                have hsl2 : (1 + (kH h : Int)) ≤ (S.size : Int) := by have := HSZ.out; omega
                have hsl3 : (1 + (kH h : Int)).toNat = 1 + kH h := by omega
                have hrT : ∀ W, (Instr.slice 9 (.string S) none (some (.int .i64 (1 + (kH h : Int)))) none).run Tryd.prog W = .ok (.string (S.extract 0 (1 + kH h))) W := fun W => by rw [run_slice_string_to_if W 9 S .i64 _ Tryd.underlying9, if_pos ⟨hsl1, hsl2⟩, hsl3]
                have hrF : ∀ W, (Instr.slice 9 (.string S) (some (.int .i64 (1 + (kH h : Int)))) none none).run Tryd.prog W = .ok (.string (S.extract (1 + kH h) S.size)) W := fun W => by rw [run_slice_string_from_if W 9 S .i64 _ Tryd.underlying9, if_pos ⟨hsl1, hsl2⟩, hsl3]
                have hwK : IntKind.i64.wrap (1 + (kH h : Int)) = 1 + (kH h : Int) := by rw [IntKind.wrap_i64]; omega
                clear hsl1 hsl2 hsl3
                have hbr : Below w.heap.size w w := Below.refl _ _
                have CI2 : Hid (∀ W, (W.cell? ⟨r, 0, none⟩ = some (.string S) ∧ Below w.heap.size w W) → Calls Tryd.prog 11 #[.int .i64 X] W fun e w' => e = .returned (.string E) ∧ w'.cell? ⟨r, 0, none⟩ = some (.string S) ∧ Below w.heap.size w w') := Lib.hid (fun W hW => (CI.out W).mono (fun e w' he => ⟨he.1, (he.2.cell (p := ⟨r, 0, none⟩) (Nat.lt_of_lt_of_le hrl hW.2.size)).trans hW.1, hW.2.trans (he.2.mono hW.2.size)⟩))
                have hS2 : w.cell? ⟨r, 0, none⟩ = some (.string S) ∧ Below w.heap.size w w := ⟨c0, hbr⟩
                go_region_held3 (fun W => W.cell? ⟨r, 0, none⟩ = some (.string S) ∧ Below w.heap.size w W)
                  (((try dsimp only); (refine ⟨?_, ?_⟩ <;> (first | assumption | go_keep | exact ⟨hbr.os, hbr.tape, hbr.output, hbr.size, hbr.block⟩))))
                  ((first
                    | (go_at_call 11; refine (CI2.out _ ?_).mono ?_; assumption; rintro e w4 ⟨rfl, h1, h2⟩)))
                have HB4 : Hid (Below w.heap.size w w4) := Lib.hid h2
                have f4 : w4.frozen? ⟨r, 0, none⟩ = false := (HB4.out.frozen (p := ⟨r, 0, none⟩) hrl).trans f0
                clear h2 hS2 hbr
                go_wp2_with fail
                refine (FQ.out _ (Rdq.below HQ.out HB4.out)).mono ?_
                rintro e w5 ⟨rfl, h1, h2⟩
                have HQI : Hid (QI r l f w (.returned (.int .i64 0)) w5) := Lib.hid (.inr ⟨HDN.out, rfl, h1, only_trans (only_of_below HB4.out (some r)) h2⟩)
                clear h1 h2
                go_wp2_with fail
                go_ret
                exact HQI.out
            · have d : decide ((a : Int) < 128) = false := decide_eq_false (by omega)
              have hng : isNeg h = false := by rw [HNEG.out]; exact decide_eq_false hh
              have ex : mvI (isNeg h) X = X := by unfold mvI; rw [hng]; rfl
              have hM := (HJX.out.1 hjx)
              have w1 : wrap64 (mvI (isNeg h) X) = mvI (isNeg h) X := IntWalk.wrap64_in _ ⟨by omega, by omega⟩
              have d63 : decide (9223372036854775808 ≤ mvI (isNeg h) X) = false := decide_eq_false (by omega)
              have CI := Lib.hid (fun W => rf_int X hjx W)
              have hrl := Blk.lt HQ.out
              have hcs := HTE.out hkt hjx
              have EX := Lib.hid ex
              clear hM ex hng
              rw [EX.out] at w1 d63 ⊢
              rcases hcs with ⟨heq, hdd⟩ | ⟨heq, hdd⟩
              · have HDD := Lib.hid (show decI l = some (X, t.drop (kH h)) from hdd)
                have b1 : ((sv (encI X)).toList == (S.extract 0 (1 + kH h)).toList) = true := by rw [HXT.out, sv_toList, sv_toList]; exact heq
                have b2 : (!(sv (encI X)).toList == (S.extract 0 (1 + kH h)).toList) = false := by rw [b1]; rfl
                have b3 : ((sv (encI X)).toList != (S.extract 0 (1 + kH h)).toList) = false := by rw [bne, b1]; rfl
                clear heq hdd
                generalize sv (encI X) = E at *
                go_wp2_with fail
                have hsl1 : (0 : Int) ≤ 1 + (kH h : Int) := by omega
                have hsl2 : (1 + (kH h : Int)) ≤ (S.size : Int) := by have := HSZ.out; omega
                have hsl3 : (1 + (kH h : Int)).toNat = 1 + kH h := by omega
                have hrT : ∀ W, (Instr.slice 9 (.string S) none (some (.int .i64 (1 + (kH h : Int)))) none).run Tryd.prog W = .ok (.string (S.extract 0 (1 + kH h))) W := fun W => by rw [run_slice_string_to_if W 9 S .i64 _ Tryd.underlying9, if_pos ⟨hsl1, hsl2⟩, hsl3]
                have hrF : ∀ W, (Instr.slice 9 (.string S) (some (.int .i64 (1 + (kH h : Int)))) none none).run Tryd.prog W = .ok (.string (S.extract (1 + kH h) S.size)) W := fun W => by rw [run_slice_string_from_if W 9 S .i64 _ Tryd.underlying9, if_pos ⟨hsl1, hsl2⟩, hsl3]
                have hwK : IntKind.i64.wrap (1 + (kH h : Int)) = 1 + (kH h : Int) := by rw [IntKind.wrap_i64]; omega
                clear hsl1 hsl2 hsl3
                have hbr : Below w.heap.size w w := Below.refl _ _
                have CI2 : Hid (∀ W, (W.cell? ⟨r, 0, none⟩ = some (.string S) ∧ Below w.heap.size w W) → Calls Tryd.prog 11 #[.int .i64 X] W fun e w' => e = .returned (.string E) ∧ w'.cell? ⟨r, 0, none⟩ = some (.string S) ∧ Below w.heap.size w w') := Lib.hid (fun W hW => (CI.out W).mono (fun e w' he => ⟨he.1, (he.2.cell (p := ⟨r, 0, none⟩) (Nat.lt_of_lt_of_le hrl hW.2.size)).trans hW.1, hW.2.trans (he.2.mono hW.2.size)⟩))
                have hS2 : w.cell? ⟨r, 0, none⟩ = some (.string S) ∧ Below w.heap.size w w := ⟨c0, hbr⟩
                go_region_held3 (fun W => W.cell? ⟨r, 0, none⟩ = some (.string S) ∧ Below w.heap.size w W)
                  (((try dsimp only); (refine ⟨?_, ?_⟩ <;> (first | assumption | go_keep | exact ⟨hbr.os, hbr.tape, hbr.output, hbr.size, hbr.block⟩))))
                  ((first
                    | (go_at_call 11; refine (CI2.out _ ?_).mono ?_; assumption; rintro e w4 ⟨rfl, h1, h2⟩)))
                have HB4 : Hid (Below w.heap.size w w4) := Lib.hid h2
                have f4 : w4.frozen? ⟨r, 0, none⟩ = false := (HB4.out.frozen (p := ⟨r, 0, none⟩) hrl).trans f0
                clear h2 hS2 hbr
                go_wp2_with fail
                go_ret
                refine .inl ⟨X, _, HDD.out, rfl, ?_, only_setCell (only_of_below HB4.out (some r)) 0 _⟩
                have h5 := Blk.set_ (Rdq.below HQ.out HB4.out) 0 (.string (S.extract (1 + kH h) S.size))
                rw [HXD.out] at h5 ⊢
                have e5 : (l.drop (1 + kH h)) = t.drop (kH h) := by rw [← HF.out, Nat.add_comm]; rfl
                rw [e5] at h5 ⊢
                exact h5
              · have HDN := Lib.hid (show decI l = none from hdd)
                have b1 : ((sv (encI X)).toList == (S.extract 0 (1 + kH h)).toList) = false := by rw [HXT.out, sv_toList, sv_toList]; exact heq
                have b2 : (!(sv (encI X)).toList == (S.extract 0 (1 + kH h)).toList) = true := by rw [b1]; rfl
                have b3 : ((sv (encI X)).toList != (S.extract 0 (1 + kH h)).toList) = true := by rw [bne, b1]; rfl
                clear heq hdd
                generalize sv (encI X) = E at *
                go_wp2_with fail
                have hsl1 : (0 : Int) ≤ 1 + (kH h : Int) := by omega
                have hsl2 : (1 + (kH h : Int)) ≤ (S.size : Int) := by have := HSZ.out; omega
                have hsl3 : (1 + (kH h : Int)).toNat = 1 + kH h := by omega
                have hrT : ∀ W, (Instr.slice 9 (.string S) none (some (.int .i64 (1 + (kH h : Int)))) none).run Tryd.prog W = .ok (.string (S.extract 0 (1 + kH h))) W := fun W => by rw [run_slice_string_to_if W 9 S .i64 _ Tryd.underlying9, if_pos ⟨hsl1, hsl2⟩, hsl3]
                have hrF : ∀ W, (Instr.slice 9 (.string S) (some (.int .i64 (1 + (kH h : Int)))) none none).run Tryd.prog W = .ok (.string (S.extract (1 + kH h) S.size)) W := fun W => by rw [run_slice_string_from_if W 9 S .i64 _ Tryd.underlying9, if_pos ⟨hsl1, hsl2⟩, hsl3]
                have hwK : IntKind.i64.wrap (1 + (kH h : Int)) = 1 + (kH h : Int) := by rw [IntKind.wrap_i64]; omega
                clear hsl1 hsl2 hsl3
                have hbr : Below w.heap.size w w := Below.refl _ _
                have CI2 : Hid (∀ W, (W.cell? ⟨r, 0, none⟩ = some (.string S) ∧ Below w.heap.size w W) → Calls Tryd.prog 11 #[.int .i64 X] W fun e w' => e = .returned (.string E) ∧ w'.cell? ⟨r, 0, none⟩ = some (.string S) ∧ Below w.heap.size w w') := Lib.hid (fun W hW => (CI.out W).mono (fun e w' he => ⟨he.1, (he.2.cell (p := ⟨r, 0, none⟩) (Nat.lt_of_lt_of_le hrl hW.2.size)).trans hW.1, hW.2.trans (he.2.mono hW.2.size)⟩))
                have hS2 : w.cell? ⟨r, 0, none⟩ = some (.string S) ∧ Below w.heap.size w w := ⟨c0, hbr⟩
                go_region_held3 (fun W => W.cell? ⟨r, 0, none⟩ = some (.string S) ∧ Below w.heap.size w W)
                  (((try dsimp only); (refine ⟨?_, ?_⟩ <;> (first | assumption | go_keep | exact ⟨hbr.os, hbr.tape, hbr.output, hbr.size, hbr.block⟩))))
                  ((first
                    | (go_at_call 11; refine (CI2.out _ ?_).mono ?_; assumption; rintro e w4 ⟨rfl, h1, h2⟩)))
                have HB4 : Hid (Below w.heap.size w w4) := Lib.hid h2
                have f4 : w4.frozen? ⟨r, 0, none⟩ = false := (HB4.out.frozen (p := ⟨r, 0, none⟩) hrl).trans f0
                clear h2 hS2 hbr
                go_wp2_with fail
                refine (FQ.out _ (Rdq.below HQ.out HB4.out)).mono ?_
                rintro e w5 ⟨rfl, h1, h2⟩
                have HQI : Hid (QI r l f w (.returned (.int .i64 0)) w5) := Lib.hid (.inr ⟨HDN.out, rfl, h1, only_trans (only_of_below HB4.out (some r)) h2⟩)
                clear h1 h2
                go_wp2_with fail
                go_ret
                exact HQI.out
          · by_cases hh : a < 128
            · have d : decide ((a : Int) < 128) = true := decide_eq_true (by omega)
              have hng : isNeg h = true := by rw [HNEG.out]; exact decide_eq_true hh
              have hM : 9223372036854775808 ≤ mvI (isNeg h) X := by have h9 := HJX.out; exact Int.not_lt.1 (fun h1 => hjx (h9.2 h1))
              have d63 : decide (9223372036854775808 ≤ mvI (isNeg h) X) = true := decide_eq_true hM
              have HDN : Hid (decI l = none) := Lib.hid (by rw [← HF.out, decI_cons, if_neg (fun e => hjx (by rw [← hX]; exact e.2.1))])
              clear hM hng
              generalize mvI (isNeg h) X = M at *
              go_wp2_with fail
              refine wp_region_any (by kernel_rfl) ?_
              change wpAny _ _ _ _ _ _ _ (World.drew _)
              refine wpAny_take (i := 0) (v := .int .u64 M) rfl (by kernel_rfl) (by kernel_rfl) (by kernel_rfl) (fun _ _ _ h => h) (Or.inl ⟨by rfl, fun w => by go_simp⟩) ?_
              try simp only [Act.put, List.getElem_toArray, List.getElem_cons_zero, List.setIfInBounds_toArray, List.set_cons_zero, List.set_cons_succ]
              refine wpAny_take (i := 1) (v := .bool true) rfl (by kernel_rfl) (by kernel_rfl) (by kernel_rfl) (fun _ _ _ h => h) (Or.inl ⟨by rfl, fun w => by go_simp⟩) ?_
              try simp only [Act.put, List.getElem_toArray, List.getElem_cons_succ, List.getElem_cons_zero, List.setIfInBounds_toArray, List.set_cons_zero, List.set_cons_succ]
              refine wpAny_take (i := 2) (v := .bool true) rfl (by kernel_rfl) (by kernel_rfl) (by kernel_rfl) (fun _ _ _ h => h) (Or.inl ⟨by rfl, fun w => by go_simp⟩) ?_
              try simp only [Act.put, List.getElem_toArray, List.getElem_cons_succ, List.getElem_cons_zero, List.setIfInBounds_toArray, List.set_cons_zero, List.set_cons_succ]
              refine wpAny_take (i := 3) (v := undef) rfl (by kernel_rfl) (by kernel_rfl) (by kernel_rfl) (fun _ _ _ h => h) (Or.inr ⟨by kernel_rfl, rfl⟩) ?_
              try simp only [Act.put, List.getElem_toArray, List.getElem_cons_succ, List.getElem_cons_zero, List.setIfInBounds_toArray, List.set_cons_zero, List.set_cons_succ]
              refine wpAny_take (i := 4) (v := undef) rfl (by kernel_rfl) (by kernel_rfl) (by kernel_rfl) (fun _ _ _ h => h) (Or.inr ⟨by kernel_rfl, rfl⟩) ?_
              try simp only [Act.put, List.getElem_toArray, List.getElem_cons_succ, List.getElem_cons_zero, List.setIfInBounds_toArray, List.set_cons_zero, List.set_cons_succ]
              refine wpAny_take (i := 5) (v := undef) rfl (by kernel_rfl) (by kernel_rfl) (by kernel_rfl) (fun _ _ _ h => h) (Or.inr ⟨by kernel_rfl, rfl⟩) ?_
              try simp only [Act.put, List.getElem_toArray, List.getElem_cons_succ, List.getElem_cons_zero, List.setIfInBounds_toArray, List.set_cons_zero, List.set_cons_succ]
              refine wpAny_take (i := 6) (v := undef) rfl (by kernel_rfl) (by kernel_rfl) (by kernel_rfl) (fun _ _ _ h => h) (Or.inr ⟨by kernel_rfl, rfl⟩) ?_
              try simp only [Act.put, List.getElem_toArray, List.getElem_cons_succ, List.getElem_cons_zero, List.setIfInBounds_toArray, List.set_cons_zero, List.set_cons_succ]
              refine wpAny_take (i := 7) (v := undef) rfl (by kernel_rfl) (by kernel_rfl) (by kernel_rfl) (fun _ _ _ h => h) (Or.inr ⟨by kernel_rfl, rfl⟩) ?_
              try simp only [Act.put, List.getElem_toArray, List.getElem_cons_succ, List.getElem_cons_zero, List.setIfInBounds_toArray, List.set_cons_zero, List.set_cons_succ]
              refine wpAny_take (i := 8) (v := undef) rfl (by kernel_rfl) (by kernel_rfl) (by kernel_rfl) (fun _ _ _ h => h) (Or.inr ⟨by kernel_rfl, rfl⟩) ?_
              try simp only [Act.put, List.getElem_toArray, List.getElem_cons_succ, List.getElem_cons_zero, List.setIfInBounds_toArray, List.set_cons_zero, List.set_cons_succ]
              refine wpAny_take (i := 9) (v := undef) rfl (by kernel_rfl) (by kernel_rfl) (by kernel_rfl) (fun _ _ _ h => h) (Or.inr ⟨by kernel_rfl, rfl⟩) ?_
              try simp only [Act.put, List.getElem_toArray, List.getElem_cons_succ, List.getElem_cons_zero, List.setIfInBounds_toArray, List.set_cons_zero, List.set_cons_succ]
              refine wpAny_take (i := 10) (v := undef) rfl (by kernel_rfl) (by kernel_rfl) (by kernel_rfl) (fun _ _ _ h => h) (Or.inr ⟨by kernel_rfl, rfl⟩) ?_
              try simp only [Act.put, List.getElem_toArray, List.getElem_cons_succ, List.getElem_cons_zero, List.setIfInBounds_toArray, List.set_cons_zero, List.set_cons_succ]
              refine wpAny_take (i := 11) (v := undef) rfl (by kernel_rfl) (by kernel_rfl) (by kernel_rfl) (fun _ _ _ h => h) (Or.inr ⟨by kernel_rfl, rfl⟩) ?_
              try simp only [Act.put, List.getElem_toArray, List.getElem_cons_succ, List.getElem_cons_zero, List.setIfInBounds_toArray, List.set_cons_zero, List.set_cons_succ]
              refine wpAny_take (i := 12) (v := undef) rfl (by kernel_rfl) (by kernel_rfl) (by kernel_rfl) (fun _ _ _ h => h) (Or.inr ⟨by kernel_rfl, rfl⟩) ?_
              try simp only [Act.put, List.getElem_toArray, List.getElem_cons_succ, List.getElem_cons_zero, List.setIfInBounds_toArray, List.set_cons_zero, List.set_cons_succ]
              refine wpAny_take (i := 13) (v := .bool true) rfl (by kernel_rfl) (by kernel_rfl) (by kernel_rfl) (fun _ _ _ h => h) (Or.inl ⟨by rfl, fun w => by go_simp⟩) ?_
              try simp only [Act.put, List.getElem_toArray, List.getElem_cons_succ, List.getElem_cons_zero, List.setIfInBounds_toArray, List.set_cons_zero, List.set_cons_succ]
              refine wpAny_done (by kernel_rfl) ?_ _
              all_goals
                go_wp2_with fail
                refine (FQ.out _ (Rdq.below HQ.out (below_drewN w 1))).mono ?_
                rintro e w5 ⟨rfl, h1, h2⟩
                have HQI : Hid (QI r l f w (.returned (.int .i64 0)) w5) := Lib.hid (.inr ⟨HDN.out, rfl, h1, only_trans (only_of_below (below_drewN w 1) (some r)) h2⟩)
                clear h1 h2
                go_wp2_with fail
                go_ret
                exact HQI.out
            · have d : decide ((a : Int) < 128) = false := decide_eq_false (by omega)
              have hng : isNeg h = false := by rw [HNEG.out]; exact decide_eq_false hh
              have hM : 9223372036854775808 ≤ mvI (isNeg h) X := by have h9 := HJX.out; exact Int.not_lt.1 (fun h1 => hjx (h9.2 h1))
              have d63 : decide (9223372036854775808 ≤ mvI (isNeg h) X) = true := decide_eq_true hM
              have HDN : Hid (decI l = none) := Lib.hid (by rw [← HF.out, decI_cons, if_neg (fun e => hjx (by rw [← hX]; exact e.2.1))])
              clear hM hng
              generalize mvI (isNeg h) X = M at *
              go_wp2_with fail
              refine wp_region_any (by kernel_rfl) ?_
              change wpAny _ _ _ _ _ _ _ (World.drew _)
              refine wpAny_take (i := 0) (v := .int .u64 M) rfl (by kernel_rfl) (by kernel_rfl) (by kernel_rfl) (fun _ _ _ h => h) (Or.inl ⟨by rfl, fun w => by go_simp⟩) ?_
              try simp only [Act.put, List.getElem_toArray, List.getElem_cons_zero, List.setIfInBounds_toArray, List.set_cons_zero, List.set_cons_succ]
              refine wpAny_take (i := 1) (v := .bool true) rfl (by kernel_rfl) (by kernel_rfl) (by kernel_rfl) (fun _ _ _ h => h) (Or.inl ⟨by rfl, fun w => by go_simp⟩) ?_
              try simp only [Act.put, List.getElem_toArray, List.getElem_cons_succ, List.getElem_cons_zero, List.setIfInBounds_toArray, List.set_cons_zero, List.set_cons_succ]
              refine wpAny_take (i := 2) (v := .bool true) rfl (by kernel_rfl) (by kernel_rfl) (by kernel_rfl) (fun _ _ _ h => h) (Or.inl ⟨by rfl, fun w => by go_simp⟩) ?_
              try simp only [Act.put, List.getElem_toArray, List.getElem_cons_succ, List.getElem_cons_zero, List.setIfInBounds_toArray, List.set_cons_zero, List.set_cons_succ]
              refine wpAny_take (i := 3) (v := undef) rfl (by kernel_rfl) (by kernel_rfl) (by kernel_rfl) (fun _ _ _ h => h) (Or.inr ⟨by kernel_rfl, rfl⟩) ?_
              try simp only [Act.put, List.getElem_toArray, List.getElem_cons_succ, List.getElem_cons_zero, List.setIfInBounds_toArray, List.set_cons_zero, List.set_cons_succ]
              refine wpAny_take (i := 4) (v := undef) rfl (by kernel_rfl) (by kernel_rfl) (by kernel_rfl) (fun _ _ _ h => h) (Or.inr ⟨by kernel_rfl, rfl⟩) ?_
              try simp only [Act.put, List.getElem_toArray, List.getElem_cons_succ, List.getElem_cons_zero, List.setIfInBounds_toArray, List.set_cons_zero, List.set_cons_succ]
              refine wpAny_take (i := 5) (v := undef) rfl (by kernel_rfl) (by kernel_rfl) (by kernel_rfl) (fun _ _ _ h => h) (Or.inr ⟨by kernel_rfl, rfl⟩) ?_
              try simp only [Act.put, List.getElem_toArray, List.getElem_cons_succ, List.getElem_cons_zero, List.setIfInBounds_toArray, List.set_cons_zero, List.set_cons_succ]
              refine wpAny_take (i := 6) (v := undef) rfl (by kernel_rfl) (by kernel_rfl) (by kernel_rfl) (fun _ _ _ h => h) (Or.inr ⟨by kernel_rfl, rfl⟩) ?_
              try simp only [Act.put, List.getElem_toArray, List.getElem_cons_succ, List.getElem_cons_zero, List.setIfInBounds_toArray, List.set_cons_zero, List.set_cons_succ]
              refine wpAny_take (i := 7) (v := undef) rfl (by kernel_rfl) (by kernel_rfl) (by kernel_rfl) (fun _ _ _ h => h) (Or.inr ⟨by kernel_rfl, rfl⟩) ?_
              try simp only [Act.put, List.getElem_toArray, List.getElem_cons_succ, List.getElem_cons_zero, List.setIfInBounds_toArray, List.set_cons_zero, List.set_cons_succ]
              refine wpAny_take (i := 8) (v := undef) rfl (by kernel_rfl) (by kernel_rfl) (by kernel_rfl) (fun _ _ _ h => h) (Or.inr ⟨by kernel_rfl, rfl⟩) ?_
              try simp only [Act.put, List.getElem_toArray, List.getElem_cons_succ, List.getElem_cons_zero, List.setIfInBounds_toArray, List.set_cons_zero, List.set_cons_succ]
              refine wpAny_take (i := 9) (v := undef) rfl (by kernel_rfl) (by kernel_rfl) (by kernel_rfl) (fun _ _ _ h => h) (Or.inr ⟨by kernel_rfl, rfl⟩) ?_
              try simp only [Act.put, List.getElem_toArray, List.getElem_cons_succ, List.getElem_cons_zero, List.setIfInBounds_toArray, List.set_cons_zero, List.set_cons_succ]
              refine wpAny_take (i := 10) (v := undef) rfl (by kernel_rfl) (by kernel_rfl) (by kernel_rfl) (fun _ _ _ h => h) (Or.inr ⟨by kernel_rfl, rfl⟩) ?_
              try simp only [Act.put, List.getElem_toArray, List.getElem_cons_succ, List.getElem_cons_zero, List.setIfInBounds_toArray, List.set_cons_zero, List.set_cons_succ]
              refine wpAny_take (i := 11) (v := undef) rfl (by kernel_rfl) (by kernel_rfl) (by kernel_rfl) (fun _ _ _ h => h) (Or.inr ⟨by kernel_rfl, rfl⟩) ?_
              try simp only [Act.put, List.getElem_toArray, List.getElem_cons_succ, List.getElem_cons_zero, List.setIfInBounds_toArray, List.set_cons_zero, List.set_cons_succ]
              refine wpAny_take (i := 12) (v := undef) rfl (by kernel_rfl) (by kernel_rfl) (by kernel_rfl) (fun _ _ _ h => h) (Or.inr ⟨by kernel_rfl, rfl⟩) ?_
              try simp only [Act.put, List.getElem_toArray, List.getElem_cons_succ, List.getElem_cons_zero, List.setIfInBounds_toArray, List.set_cons_zero, List.set_cons_succ]
              refine wpAny_take (i := 13) (v := .bool true) rfl (by kernel_rfl) (by kernel_rfl) (by kernel_rfl) (fun _ _ _ h => h) (Or.inl ⟨by rfl, fun w => by go_simp⟩) ?_
              try simp only [Act.put, List.getElem_toArray, List.getElem_cons_succ, List.getElem_cons_zero, List.setIfInBounds_toArray, List.set_cons_zero, List.set_cons_succ]
              refine wpAny_done (by kernel_rfl) ?_ _
              all_goals
                go_wp2_with fail
                refine (FQ.out _ (Rdq.below HQ.out (below_drewN w 1))).mono ?_
                rintro e w5 ⟨rfl, h1, h2⟩
                have HQI : Hid (QI r l f w (.returned (.int .i64 0)) w5) := Lib.hid (.inr ⟨HDN.out, rfl, h1, only_trans (only_of_below (below_drewN w 1) (some r)) h2⟩)
                clear h1 h2
                go_wp2_with fail
                go_ret
                exact HQI.out
end Go.Proofs.YtocbodjmdgoaiaaDoor
