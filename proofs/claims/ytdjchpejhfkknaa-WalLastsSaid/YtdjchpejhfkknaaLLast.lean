/- The statement WalLasts: its walk. Conditions: the arguments read as data within the reach. -/
import Derived.Test.YtdjchpejhfkknaaLLastP
namespace Go.Proofs.Ytdjchpejhfkknaa.walLasts
open Go.RowKit Km Dk Lw
open Lm hiding Bs
set_option linter.unusedVariables false
set_option maxRecDepth 100000

theorem fr_true {w w' : World} (h : Fr (fun b => w.heap.size ≤ b) w w') : Below w.heap.size w w' := h.to_below (Nat.le_refl _)
set_option maxHeartbeats 16000000 in
theorem walk {w : World} {v kv : Value} {l : List (Ax × Value × Value)} {ks : List Int} (h : Axs w v l) (hk : Ints w kv ks) (hj : ∀ z ∈ ks, J64 z) (hL : Lies w kv) :
    Calls Try.prog 4 #[v, kv] w (IsTrue w) := by
  have SM := Lib.hid (fun W => small_any W)
  have HA := Lib.hid h
  have HKS := Lib.hid hk
  have HJ := Lib.hid hj
  have HLI := Lib.hid hL
  obtain ⟨ka, kc, rfl, _⟩ := hk
  obtain ⟨va, vc, rfl, _, _, _⟩ := h
  obtain ⟨N, hN⟩ : ∃ N, l.length = N := ⟨_, rfl⟩
  obtain ⟨K, hKK⟩ : ∃ K, ks.length = K := ⟨_, rfl⟩
  have HN := Lib.hid hN
  rw [hN] at HA ⊢
  rw [hKK] at HKS HLI ⊢
  have HFW := Lib.hid (fun W (hW : Axs W (.slice va N vc) l) => few_any7 hW)
  have NI := Lib.hid new_iv
  clear hj hL hN hKK
  go_enter Try.func4, Try.ntmps4
  go_wp2_with fail
  refine (SM.out _).mono ?_
  rintro e w1 ⟨rfl, hb1⟩
  have HB1 := Lib.hid hb1
  clear hb1
  go_wp2_with fail
  refine (new_any (A := fun b => w.heap.size ≤ b) (fun b hb => by have := HB1.out.size; omega)).mono ?_
  rintro e w2 ⟨rfl, hd, hf⟩
  have HB2 := Lib.hid (HB1.out.trans (hf.mono HB1.out.size))
  have D2 := Lib.hid hd
  clear hd hf HB1
  generalize hr0 : w1.heap.size = r at *
  clear hr0
  go_wp2_with fail
  refine (HFW.out _ (axs_below HA.out HB2.out)).mono ?_
  rintro e w3 ⟨b, rfl, hfp, hb⟩
  have HB3 := Lib.hid (HB2.out.trans (hb.mono HB2.out.size))
  have D3 := Lib.hid (D2.out.below hb)
  clear hb HB2 D2
  cases b with
  | false =>
    clear hfp
    go_wp2_with fail
    go_ret
    exact ⟨rfl, HB3.out⟩
  | true =>
    have FP := Lib.hid (hfp rfl)
    clear hfp
    by_cases hK8 : 8 < K
    · have d3 : decide ((8 : Int) < ((K : Nat) : Int)) = true := decide_eq_true (by omega)
      clear hK8
      go_wp2_with fail
      go_ret
      exact ⟨rfl, HB3.out⟩
    have d3 : decide ((8 : Int) < ((K : Nat) : Int)) = false := decide_eq_false (by omega)
    clear hK8
    go_wp2_with fail
    refine (open_good D3.out 2 NI.out.2.1 (s' := (opn Km.new ((2 : Nat) : Int)).2) rfl (rows := []) NI.out.2.2).mono ?_
    rintro e w4 ⟨p, rfl, hd, hf⟩
    have F4 := Lib.hid (((Fr.refl (fun b => w.heap.size ≤ b) w).below HB3.out).trans hf)
    have L4 := Lib.hid hd
    have I4 := Lib.hid NI.out.1
    clear hd hf HB3 D3
    generalize (opn Km.new ((2 : Nat) : Int)).2 = s0 at *
    have hU : Up w r p w4.heap.size 0 (.slice none 0 0) (w4.alloc (.cells hope0 Hope7)) :=
      ⟨s0, [], 0, fun b => w.heap.size ≤ b ∧ ¬ b = w4.heap.size, .slice none 0 0, .slice none 0 0, .slice none 0 0, false, I4.out, by simp, by simp, L4.out.alloc _, fun b hb => ⟨hb.1, hb.2⟩, ⟨none, 0, rfl, by decide, by simp, fun h => by simp at h⟩, (fun b e => by cases e), F4.out.alloc _, Blk.new w4 Hope7 hope0, ⟨_, _, _, rfl⟩, ⟨_, _, _, rfl⟩, ⟨_, _, _, rfl⟩⟩
    have HU := Lib.hid hU
    have HG := Lib.hid F4.out.size
    clear hU NI I4 L4 F4
    generalize hgg : w4.heap.size = g at *
    have hNi : N ≤ 30 := by rw [← HN.out]; exact FP.out.len
    go_wp2_with fail
    go_loopw [9, 11] (fun vs vi W => ∃ i : Nat, i ≤ N ∧ vi = .int .i64 i ∧ IsSl vs ∧ Hid (Up w r p g i vs W ∨ Dn w r g W)) (fun _ i _ => N - (intOf i).toNat)
    case atStart => exact ⟨0, Nat.zero_le _, rfl, ⟨_, _, _, rfl⟩, Lib.hid (.inl HU.out)⟩
    case round =>
      obtain ⟨i, hi, rfl, hvs, HR⟩ := hrel
      obtain ⟨sa, sn, sc, rfl⟩ := hvs
      clear HU
      by_cases hlt : i < N
      · rcases HR.out with hU | hD
        · have HUP := Lib.hid hU
          obtain ⟨s, rows, k, B, va0, vx0, vf0, b0, u1, u2, u3, u4, u5, u6, u7, u8, u9, u10⟩ := hU
          obtain ⟨q, hq⟩ : ∃ q, l[i]? = some q := ⟨_, List.getElem?_eq_getElem (by rw [HN.out]; exact hlt)⟩
          obtain ⟨bb, oo, rfl, c0, c1, c2, c3, c4, hnj, hkj, tl, bl, tk, bk⟩ := ax_cells HA.out u8 rfl hq
          obtain ⟨f1, f2, f3, f4⟩ := FP.out.all q (List.mem_of_getElem? hq)
          obtain ⟨a, lv, kv⟩ := q
          simp only at c0 c1 c2 c3 c4 hnj hkj tl bl tk bk f1 f2 f3 f4
          have hbf : Bf B r p (12 + (i + 1)) s rows k wr (.slice sa sn sc) lv kv a := ⟨u4, u1, u6, u7, tl, fun b e hb => by have := bl b e; have := (u5 b hb).1; omega, tk, fun b e hb => by have := bk b e; have := (u5 b hb).1; omega, by omega, f1, by omega, by omega, u3, f3, f4, f2, hkj, hnj⟩
          have HDN := Lib.hid (down_at (lgd_dsk u4) false u1.up)
          have HST := Lib.hid (fun w' e (h : AfR B r p (12 + (i + 1)) wr e w') => after_step u5 HG.out u8 u9 u10 h)
          have HAF := Lib.hid (fun h4 => after_any a hbf h4)
          obtain ⟨la, lc, rfl⟩ := texts_len tl
          obtain ⟨ka2, kc2, rfl, _⟩ := tk
          obtain ⟨⟨x1, x2, x3, rfl⟩, ⟨y1, y2, y3, rfl⟩, ⟨z1, z2, z3, rfl⟩⟩ := u10
          have e5 : axC a (.slice la a.l.length lc) (.slice ka2 a.k.length kc2) = #[.int .i64 a.d, .string (sv a.s), .slice la a.l.length lc, .int .i64 a.n, .slice ka2 a.k.length kc2] := rfl
          rw [e5] at HAF
          generalize a.l.length = ln at *
          generalize a.k.length = kn at *
          have wi : IntKind.i64.wrap ((i : Int) + 1) = ((i + 1 : Nat) : Int) := by rw [IntKind.wrap_i64]; omega
          have HWI := Lib.hid wi
          clear HR u1 u2 u3 u4 u5 u6 u7 u8 u9 hq hnj hkj tl bl bk f1 f2 f3 f4 hbf e5 wi
          go_wp2_with fail
          refine (HDN.out).mono ?_
          rintro e w' ⟨rfl, rfl⟩
          by_cases h4 : (bits BinOp.and IntKind.i64 a.d 7 == 4) = true
          · clear HAF HST c1 c2 c3 c4
            go_wp2_with fail
            go_round
            case rel => exact ⟨i + 1, by omega, (by first | rfl | simp), ⟨_, _, _, rfl⟩, Lib.hid (.inl (Up.mono HUP.out (by omega)))⟩
            case measure => simp [intOf]; omega
          · have h4 : (bits BinOp.and IntKind.i64 a.d 7 == 4) = false := by simpa using h4
            go_wp2_with fail
            refine (HAF.out h4).mono ?_
            rintro e w5 haf
            obtain ⟨vs', va', vx', vf', b', rfl, ⟨⟨s1, s2, s3, rfl⟩, ⟨v1, v2, v3, rfl⟩, ⟨v4, v5, v6, rfl⟩, ⟨v7, v8, v9, rfl⟩⟩, hbk, hud⟩ := HST.out _ _ haf
            have HUD := Lib.hid hud
            have HBK := Lib.hid hbk
            clear hud hbk haf HAF HST c0 c1 c2 c3 c4
            have g0 := HBK.out.cell 0
            have g1 := HBK.out.cell 1
            have g2 := HBK.out.cell 2
            have g3 := HBK.out.cell 3
            have q0 := HBK.out.frozen 0
            have q1 := HBK.out.frozen 1
            have q2 := HBK.out.frozen 2
            have q3 := HBK.out.frozen 3
            go_wp2_with fail
            go_round
            case rel => exact ⟨i + 1, by omega, (by first | rfl | simp), ⟨_, _, _, rfl⟩, HUD⟩
            case measure => simp [intOf]; omega
        · have hD := hD
          obtain ⟨s, B, all, safe, va0, vx0, vf0, b0, f1, f2, f3, f4, f5, f6, f7, f8, f9, f10, f11, f12, f13⟩ := hD
          have HFD := Lib.hid (show Calls Try.prog 29 #[.pointer (some ⟨r, 0, none⟩), .agg #[va0, vx0, vf0, .bool b0]] wr fun e w' => e = .returned (.bool true) ∧ Fr B wr w' from by
            cases b0 with
            | false => exact found_plain f4 f1 f6 f8 f7 f9 f2 f3
            | true => obtain ⟨fresh, t1, t2, t3⟩ := f10 rfl; exact found_tried f4 f1 f6 f8 t1 t3 t2 f7 f9 f2 f3)
          have HDN := Lib.hid (down_at f4 true f1.dn)
          have HFR := Lib.hid (fun w' (h : Fr B wr w') => fr_true (f11.trans (h.mono fun b hb => (f5 b hb).1)))
          have HBK := Lib.hid f12
          obtain ⟨⟨x1, x2, x3, rfl⟩, ⟨y1, y2, y3, rfl⟩, ⟨z1, z2, z3, rfl⟩⟩ := f13
          clear HR f1 f2 f3 f4 f5 f6 f7 f8 f9 f10 f11 f12
          have g0 := HBK.out.cell 0
          have g1 := HBK.out.cell 1
          have g2 := HBK.out.cell 2
          have g3 := HBK.out.cell 3
          go_wp2_with fail
          refine (HDN.out).mono ?_
          rintro e w' ⟨rfl, rfl⟩
          go_wp2_with fail
          refine (HDN.out).mono ?_
          rintro e w' ⟨rfl, rfl⟩
          go_wp2_with fail
          refine (HFD.out).mono ?_
          rintro e w9 ⟨rfl, hf⟩
          have HBL := Lib.hid (HFR.out _ hf)
          clear hf
          go_wp2_with fail
          go_ret
          exact ⟨rfl, HBL.out⟩
      · have hNi2 : i = N := by omega
        subst hNi2
        rcases HR.out with hU | hD
        · have hU := hU
          obtain ⟨s, rows, k, B, va0, vx0, vf0, b0, u1, u2, u3, u4, u5, u6, u7, u8, u9, u10⟩ := hU
          have HDN := Lib.hid (down_at (lgd_dsk u4) false u1.up)
          have HAL := Lib.hid (lgd_all u4 (by omega) (fun t ht => by have := u3 t ht; omega))
          have HFN := Lib.hid (crash_fin u1 ks)
          have HU1 := Lib.hid (show rows.length ≤ 1000 ∧ ∀ t ∈ rows, t.length ≤ 1000000000 from ⟨by omega, fun t ht => by have := u3 t ht; omega⟩)
          have HU5 := Lib.hid u5
          have HU6 := Lib.hid u6
          have HU7 := Lib.hid u7
          have HU8 := Lib.hid u8
          have HU9 := Lib.hid u9
          have HU10 := Lib.hid u10
          obtain ⟨⟨x1, x2, x3, rfl⟩, ⟨y1, y2, y3, rfl⟩, ⟨z1, z2, z3, rfl⟩⟩ := u10
          clear HR u1 u2 u3 u4 u5 u6 u7 u8 u9
          go_wp2_with fail
          refine (HDN.out).mono ?_
          rintro e w' ⟨rfl, rfl⟩
          go_wp2_with fail
          refine (HAL.out).mono ?_
          rintro e w5 ⟨vn, B5, rfl, h1, h2, h3, h4, hb⟩
          obtain ⟨na, nc, rfl⟩ := texts_len h3
          obtain ⟨rn, hrn⟩ : ∃ rn, rows.length = rn := ⟨_, rfl⟩
          rw [hrn] at h3 h4 ⊢
          clear hrn
          have BK5 := Lib.hid (HU9.out.below hb HU9.out.lt)
          have g0 := BK5.out.cell 0
          have g1 := BK5.out.cell 1
          have g2 := BK5.out.cell 2
          have g3 := BK5.out.cell 3
          have q0 := BK5.out.frozen 0
          have q1 := BK5.out.frozen 1
          have q2 := BK5.out.frozen 2
          have q3 := BK5.out.frozen 3
          have H1 := Lib.hid h1
          have H2 := Lib.hid h2
          have H3 := Lib.hid h3
          have H4 := Lib.hid h4
          have HBB := Lib.hid hb
          have HUE := Lib.hid (up_end HU5.out HU6.out HU8.out HG.out HU9.out HU10.out h1 h2 h3 hb HKS.out HLI.out)
          clear h1 h2 h3 h4 hb HAL HDN g0 g1 g2 g3 q0 q1 q2 q3
          have g0 := BK5.out.cell 0
          have g1 := BK5.out.cell 1
          have g2 := BK5.out.cell 2
          have g3 := BK5.out.cell 3
          have q0 := BK5.out.frozen 0
          have q1 := BK5.out.frozen 1
          have q2 := BK5.out.frozen 2
          have q3 := BK5.out.frozen 3
          go_wp2_with fail
          refine (lgd_crash HUE.out.1 HUE.out.2.1 HJ.out HUE.out.2.2.1 rfl).mono ?_
          rintro e w6 ⟨rfl, hl, hf⟩
          have B6 := Lib.hid (hf.blk HUE.out.2.2.2.2.2.1 HUE.out.2.2.2.2.2.2.2)
          have T6 := Lib.hid (Texts.frs HUE.out.2.2.2.1 hf (fun b e => (H4.out b e).1))
          have S6 := Lib.hid (Texts.frs HUE.out.2.2.2.2.1 hf (fun b e x => HU7.out b e (H1.out b x)))
          have F6 := Lib.hid (HUE.out.2.2.2.2.2.2.1.trans (hf.mono fun b hb => (HU5.out b (H1.out b hb)).1))
          have HFD := Lib.hid (found_plain (vf := .slice none 0 0) (lgd_dsk hl) HFN.out T6.out S6.out (fun b e => (H4.out b e).1) (fun b e x => HU7.out b e (H1.out b x)) HU1.out.1 HU1.out.2)
          clear hl hf g0 g1 g2 g3 q0 q1 q2 q3
          have g0 := B6.out.cell 0
          have g1 := B6.out.cell 1
          have g2 := B6.out.cell 2
          have g3 := B6.out.cell 3
          go_wp2_with fail
          refine (HFD.out).mono ?_
          rintro e w9 ⟨rfl, hf⟩
          have HBL := Lib.hid (fr_true (F6.out.trans (hf.mono fun b hb => (HU5.out b (H1.out b hb)).1)))
          clear hf
          go_wp2_with fail
          go_ret
          exact ⟨rfl, HBL.out⟩
        · have hD := hD
          obtain ⟨s, B, all, safe, va0, vx0, vf0, b0, f1, f2, f3, f4, f5, f6, f7, f8, f9, f10, f11, f12, f13⟩ := hD
          have HFD := Lib.hid (show Calls Try.prog 29 #[.pointer (some ⟨r, 0, none⟩), .agg #[va0, vx0, vf0, .bool b0]] wr fun e w' => e = .returned (.bool true) ∧ Fr B wr w' from by
            cases b0 with
            | false => exact found_plain f4 f1 f6 f8 f7 f9 f2 f3
            | true => obtain ⟨fresh, t1, t2, t3⟩ := f10 rfl; exact found_tried f4 f1 f6 f8 t1 t3 t2 f7 f9 f2 f3)
          have HDN := Lib.hid (down_at f4 true f1.dn)
          have HFR := Lib.hid (fun w' (h : Fr B wr w') => fr_true (f11.trans (h.mono fun b hb => (f5 b hb).1)))
          have HBK := Lib.hid f12
          obtain ⟨⟨x1, x2, x3, rfl⟩, ⟨y1, y2, y3, rfl⟩, ⟨z1, z2, z3, rfl⟩⟩ := f13
          clear HR f1 f2 f3 f4 f5 f6 f7 f8 f9 f10 f11 f12
          have g0 := HBK.out.cell 0
          have g1 := HBK.out.cell 1
          have g2 := HBK.out.cell 2
          have g3 := HBK.out.cell 3
          go_wp2_with fail
          refine (HDN.out).mono ?_
          rintro e w' ⟨rfl, rfl⟩
          go_wp2_with fail
          refine (HFD.out).mono ?_
          rintro e w9 ⟨rfl, hf⟩
          have HBL := Lib.hid (HFR.out _ hf)
          clear hf
          go_wp2_with fail
          go_ret
          exact ⟨rfl, HBL.out⟩
end Go.Proofs.Ytdjchpejhfkknaa.walLasts
