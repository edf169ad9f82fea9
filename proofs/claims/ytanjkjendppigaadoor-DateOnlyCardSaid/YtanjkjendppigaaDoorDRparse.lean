/- The reference's Parse gives the hour whose text a string is. Conditions: none beyond those of each lemma. -/
import Derived.Test.YtanjkjendppigaaDoorDRpM
namespace Go.Proofs.YtanjkjendppigaaDoor.Dy
open Go.RowKit Cal
set_option linter.unusedVariables false
set_option maxRecDepth 100000

theorem rparse_len (l : Bs) (hl : l.length ≠ 14) (hm : l.length ≤ 140737488355328) (w : World) : Calls Tryd.prog 17 #[.string (sv l)] w fun e w' => e = .returned (.tuple #[.int .i64 0, .bool false]) ∧ Below w.heap.size w w' := by
  have hz : (sv l).size = l.length := rfl
  generalize sv l = S at *
  generalize l.length = n at *
  have d1 : (((n : Nat) : Int) != 14) = true := by rw [bne, beq_eq_false_iff_ne.2 (show ((n : Nat) : Int) ≠ 14 by omega)]; rfl
  clear hl
  go_enter Tryd.func17, Tryd.ntmps17
  go_wp2_with fail
  go_ret2
  exact ⟨rfl, below_self _⟩
theorem u8_ne {a : UInt8} {n : Nat} (hn : n < 256) (h : a ≠ UInt8.ofNat n) : (((a.toNat : Nat) : Int) != ((n : Nat) : Int)) = true := by
  have e : ((a.toNat : Nat) : Int) ≠ (n : Int) := by
    intro e
    apply h
    apply UInt8.toNat_inj.1
    simp
    omega
  rw [bne, beq_eq_false_iff_ne.2 e]
  rfl
set_option maxHeartbeats 1000000 in
theorem rparse_sep (c0 c1 c2 c3 c4 c5 c6 c7 c8 c9 c10 c11 c12 c13 : UInt8) (hs : ¬ (c4 = 45 ∧ c7 = 45 ∧ c10 = 32 ∧ c13 = 104)) (w : World) : Calls Tryd.prog 17 #[.string (sv [c0, c1, c2, c3, c4, c5, c6, c7, c8, c9, c10, c11, c12, c13])] w fun e w' => e = .returned (.tuple #[.int .i64 0, .bool false]) ∧ Below w.heap.size w w' := by
  have hz : (sv [c0, c1, c2, c3, c4, c5, c6, c7, c8, c9, c10, c11, c12, c13]).size = 14 := rfl
  have hk4 : 4 < (sv [c0, c1, c2, c3, c4, c5, c6, c7, c8, c9, c10, c11, c12, c13]).size := by omega
  have hk7 : 7 < (sv [c0, c1, c2, c3, c4, c5, c6, c7, c8, c9, c10, c11, c12, c13]).size := by omega
  have hk10 : 10 < (sv [c0, c1, c2, c3, c4, c5, c6, c7, c8, c9, c10, c11, c12, c13]).size := by omega
  have hk13 : 13 < (sv [c0, c1, c2, c3, c4, c5, c6, c7, c8, c9, c10, c11, c12, c13]).size := by omega
  have g4 : (sv [c0, c1, c2, c3, c4, c5, c6, c7, c8, c9, c10, c11, c12, c13])[4]'hk4 = c4 := sv_get _ 4 _
  have g7 : (sv [c0, c1, c2, c3, c4, c5, c6, c7, c8, c9, c10, c11, c12, c13])[7]'hk7 = c7 := sv_get _ 7 _
  have g10 : (sv [c0, c1, c2, c3, c4, c5, c6, c7, c8, c9, c10, c11, c12, c13])[10]'hk10 = c10 := sv_get _ 10 _
  have g13 : (sv [c0, c1, c2, c3, c4, c5, c6, c7, c8, c9, c10, c11, c12, c13])[13]'hk13 = c13 := sv_get _ 13 _
  generalize sv [c0, c1, c2, c3, c4, c5, c6, c7, c8, c9, c10, c11, c12, c13] = S at *
  by_cases h4 : c4 = 45
  case neg =>
    have d4 : (((c4.toNat : Nat) : Int) != 45) = true := u8_ne (n := 45) (by decide) h4
    clear hs h4
    go_enter Tryd.func17, Tryd.ntmps17
    go_wp2_with fail
    go_ret2
    exact ⟨rfl, below_self _⟩
  subst h4
  by_cases h7 : c7 = 45
  case neg =>
    have d7 : (((c7.toNat : Nat) : Int) != 45) = true := u8_ne (n := 45) (by decide) h7
    clear hs h7
    go_enter Tryd.func17, Tryd.ntmps17
    go_wp2_with fail
    go_ret2
    exact ⟨rfl, below_self _⟩
  subst h7
  by_cases h10 : c10 = 32
  case neg =>
    have d10 : (((c10.toNat : Nat) : Int) != 32) = true := u8_ne (n := 32) (by decide) h10
    clear hs h10
    go_enter Tryd.func17, Tryd.ntmps17
    go_wp2_with fail
    go_ret2
    exact ⟨rfl, below_self _⟩
  subst h10
  by_cases h13 : c13 = 104
  case neg =>
    have d13 : (((c13.toNat : Nat) : Int) != 104) = true := u8_ne (n := 104) (by decide) h13
    clear hs h13
    go_enter Tryd.func17, Tryd.ntmps17
    go_wp2_with fail
    go_ret2
    exact ⟨rfl, below_self _⟩
  subst h13
  exact absurd ⟨rfl, rfl, rfl, rfl⟩ hs
theorem Blk.cast {w : World} {g : Nat} {t : TypeId} {cs cs' : Array Value} (h : Blk w g t cs) (e : cs = cs') : Blk w g t cs' := e ▸ h
set_option maxHeartbeats 2000000 in
theorem rparse_main (c0 c1 c2 c3 c5 c6 c8 c9 c11 c12 : UInt8) (w : World) : Calls Tryd.prog 17 #[.string (sv [c0, c1, c2, c3, 45, c5, c6, 45, c8, c9, 32, c11, c12, 104])] w fun e w' => ∃ v, e = .returned v ∧ IsParse [c0, c1, c2, c3, 45, c5, c6, 45, c8, c9, 32, c11, c12, 104] v ∧ Below w.heap.size w w' := by
  have hz : (sv [c0, c1, c2, c3, 45, c5, c6, 45, c8, c9, 32, c11, c12, 104]).size = 14 := rfl
  have hk4 : 4 < (sv [c0, c1, c2, c3, 45, c5, c6, 45, c8, c9, 32, c11, c12, 104]).size := by omega
  have hk7 : 7 < (sv [c0, c1, c2, c3, 45, c5, c6, 45, c8, c9, 32, c11, c12, 104]).size := by omega
  have hk10 : 10 < (sv [c0, c1, c2, c3, 45, c5, c6, 45, c8, c9, 32, c11, c12, 104]).size := by omega
  have hk13 : 13 < (sv [c0, c1, c2, c3, 45, c5, c6, 45, c8, c9, 32, c11, c12, 104]).size := by omega
  have g4 : (sv [c0, c1, c2, c3, 45, c5, c6, 45, c8, c9, 32, c11, c12, 104])[4]'hk4 = 45 := sv_get _ 4 _
  have g7 : (sv [c0, c1, c2, c3, 45, c5, c6, 45, c8, c9, 32, c11, c12, 104])[7]'hk7 = 45 := sv_get _ 7 _
  have g10 : (sv [c0, c1, c2, c3, 45, c5, c6, 45, c8, c9, 32, c11, c12, 104])[10]'hk10 = 32 := sv_get _ 10 _
  have g13 : (sv [c0, c1, c2, c3, 45, c5, c6, 45, c8, c9, 32, c11, c12, 104])[13]'hk13 = 104 := sv_get _ 13 _
  have x0 : sv [c0, c1] = (sv [c0, c1, c2, c3, 45, c5, c6, 45, c8, c9, 32, c11, c12, 104]).extract 0 2 := by rw [sv_extract]; rfl
  have x1 : sv [c2, c3] = (sv [c0, c1, c2, c3, 45, c5, c6, 45, c8, c9, 32, c11, c12, 104]).extract 2 4 := by rw [sv_extract]; rfl
  have x2 : sv [c5, c6] = (sv [c0, c1, c2, c3, 45, c5, c6, 45, c8, c9, 32, c11, c12, 104]).extract 5 7 := by rw [sv_extract]; rfl
  have x3 : sv [c8, c9] = (sv [c0, c1, c2, c3, 45, c5, c6, 45, c8, c9, 32, c11, c12, 104]).extract 8 10 := by rw [sv_extract]; rfl
  have x4 : sv [c11, c12] = (sv [c0, c1, c2, c3, 45, c5, c6, 45, c8, c9, 32, c11, c12, 104]).extract 11 13 := by rw [sv_extract]; rfl
  have HN0 := Lib.hid (fun W => rnumber_any c0 c1 W)
  have HN1 := Lib.hid (fun W => rnumber_any c2 c3 W)
  have HN2 := Lib.hid (fun W => rnumber_any c5 c6 W)
  have HN3 := Lib.hid (fun W => rnumber_any c8 c9 W)
  have HN4 := Lib.hid (fun W => rnumber_any c11 c12 W)
  rw [x0] at HN0
  rw [x1] at HN1
  rw [x2] at HN2
  rw [x3] at HN3
  rw [x4] at HN4
  have HT := Lib.hid (fun t (ht : t ≤ 16777216) (h : text t = [c0, c1, c2, c3, 45, c5, c6, 45, c8, c9, 32, c11, c12, 104]) => (text_rnums ht h))
  have HR := Lib.hid (fun ha hb hok => rnums_text (c0 := c0) (c1 := c1) (c2 := c2) (c3 := c3) (c5 := c5) (c6 := c6) (c8 := c8) (c9 := c9) (c11 := c11) (c12 := c12) ha hb hok)
  have ha := rnum_le c0 c1
  have hb := rnum_le c2 c3
  clear x0 x1 x2 x3 x4
  generalize sv [c0, c1, c2, c3, 45, c5, c6, 45, c8, c9, 32, c11, c12, 104] = S at *
  obtain ⟨L, hL⟩ : ∃ L, [c0, c1, c2, c3, 45, c5, c6, 45, c8, c9, 32, c11, c12, 104] = L := ⟨_, rfl⟩
  rw [hL] at HT HR ⊢
  clear hL
  generalize rnum c0 c1 = a at *
  generalize rnum c2 c3 = b at *
  generalize rnum c5 c6 = m at *
  generalize rnum c8 c9 = d at *
  generalize rnum c11 c12 = h at *
  obtain ⟨y, hy⟩ : ∃ y, 100 * a + b = y := ⟨_, rfl⟩
  have hy1 : wrap64 (100 * a) = 100 * a := by unfold wrap64; omega
  have hy2 : wrap64 (100 * a + b) = y := by rw [← hy]; unfold wrap64; omega
  rw [hy] at HT HR
  have HIW := Lib.hid (show IntKind.i64.wrap (IntKind.i64.wrap (100 * a) + b) = y by rw [IntKind.wrap_i64, IntKind.wrap_i64]; omega)
  have HAB := Lib.hid (show -1 ≤ a ∧ -1 ≤ b from ⟨ha.1, hb.1⟩)
  clear hy ha hb
  have HNONE := Lib.hid (fun (h : ∀ t, t ≤ 16777216 → text t ≠ L) => (show IsParse L (.tuple #[.int .i64 0, .bool false]) from Or.inr ⟨h, rfl⟩))
  go_enter Tryd.func17, Tryd.ntmps17
  go_wp2_with fail
  refine (HN0.out _).mono ?_
  rintro e w1 ⟨rfl, hb1⟩
  have HB1 := Lib.hid hb1
  clear hb1
  go_wp2_with fail
  refine (HN1.out _).mono ?_
  rintro e w2 ⟨rfl, hb2⟩
  have HB2 := Lib.hid (below_trans HB1.out hb2)
  clear hb2 HB1 HN0 HN1
  go_upto_region 5 with fail
  have HBW := HB2.out
  go_cut [6] from 36 to 49 (fun p wc => ∃ g, p = .pointer (some ⟨g, 0, none⟩) ∧ Hid (Blk wc g 23 #[.int .i64 y, .int .i64 m, .int .i64 d, .int .i64 h] ∧ Below w.heap.size w wc))
  case first =>
    go_region_with ((first
    | (go_at_call 32; with_reducible refine (HN2.out _).mono ?_; rintro e w5 ⟨rfl, hb5⟩; have bb5 : Below w.heap.size w w5 := below_trans (by (first | assumption | exact Below.drew (by assumption) | exact below_trans (by assumption) (below_alloc _ _).drew | exact below_trans (by assumption) (below_alloc _ _))) hb5; (first | (have k5 := Fd.firstD hb5; obtain ⟨_, _, _, _, _, _, _, _⟩ := k5.facts) | (have k5 := Fd.first hb5; obtain ⟨_, _, _, _, _, _, _, _⟩ := k5.facts) | (have k5 := Fd.next (by assumption) hb5; obtain ⟨_, _, _, _, _, _, _, _⟩ := k5.facts) | skip))
    | (go_at_call 32; with_reducible refine (HN3.out _).mono ?_; rintro e w6 ⟨rfl, hb6⟩; have bb6 : Below w.heap.size w w6 := below_trans (by (first | assumption | exact Below.drew (by assumption) | exact below_trans (by assumption) (below_alloc _ _).drew | exact below_trans (by assumption) (below_alloc _ _))) hb6; (first | (have k6 := Fd.firstD hb6; obtain ⟨_, _, _, _, _, _, _, _⟩ := k6.facts) | (have k6 := Fd.first hb6; obtain ⟨_, _, _, _, _, _, _, _⟩ := k6.facts) | (have k6 := Fd.next (by assumption) hb6; obtain ⟨_, _, _, _, _, _, _, _⟩ := k6.facts) | skip))
    | (go_at_call 32; with_reducible refine (HN4.out _).mono ?_; rintro e w7 ⟨rfl, hb7⟩; have bb7 : Below w.heap.size w w7 := below_trans (by (first | assumption | exact Below.drew (by assumption) | exact below_trans (by assumption) (below_alloc _ _).drew | exact below_trans (by assumption) (below_alloc _ _))) hb7; (first | (have k7 := Fd.firstD hb7; obtain ⟨_, _, _, _, _, _, _, _⟩ := k7.facts) | (have k7 := Fd.first hb7; obtain ⟨_, _, _, _, _, _, _, _⟩ := k7.facts) | (have k7 := Fd.next (by assumption) hb7; obtain ⟨_, _, _, _, _, _, _, _⟩ := k7.facts) | skip))))
    · go_wp2_with fail
      go_meet
      exact ⟨_, rfl, Lib.hid ⟨(Blk.new _ _ _).cast (by rw [HIW.out]), below_trans bb7 (below_alloc _ _)⟩⟩
    all_goals (
      go_wp2_with fail
      go_meet
      exact ⟨_, rfl, Lib.hid ⟨(blk_four k7.blk _ _ _ _).cast (by rw [HIW.out]), below_four bb7 (by first | exact HBW.size | exact bb6.size | exact bb5.size) _ _ _ _⟩⟩)
  case rest =>
    obtain ⟨g, rfl, HC⟩ := hcut
    have HH := Lib.hid (fun W => rhour_any y m d h W)
    have c0 := HC.out.1.cell 0
    have c1 := HC.out.1.cell 1
    have c2 := HC.out.1.cell 2
    have c3 := HC.out.1.cell 3
    clear HN2 HN3 HN4 HBW HIW
    unfold dv at HH
    by_cases ha : a < 0
    · have da := decide_eq_true ha
      have HP := Lib.hid (HNONE.out (fun t ht e => by have := (HT.out t ht e).1.2.2.2.2.1; omega))
      clear ha HH HT HR
      go_wp2_with fail
      go_ret2
      exact ⟨_, rfl, HP.out, HC.out.2⟩
    · have da := decide_eq_false ha
      by_cases hb : b < 0
      · have db := decide_eq_true hb
        have HP := Lib.hid (HNONE.out (fun t ht e => by have := (HT.out t ht e).1.2.2.2.2.2; omega))
        clear ha hb HH HT HR
        go_wp2_with fail
        go_ret2
        exact ⟨_, rfl, HP.out, HC.out.2⟩
      · have db := decide_eq_false hb
        by_cases hok : okI y m d h
        · have hx := HR.out (by omega) (by omega) hok
          obtain ⟨n, hn⟩ : ∃ n, hourOf y.toNat m.toNat d.toNat h.toNat = n := ⟨_, rfl⟩
          have hnb : n ≤ 16777216 := by rw [← hn]; exact hok.2
          rw [hourV_some hok, hn] at HH
          rw [hn] at hx
          have HP := Lib.hid (show IsParse L (.tuple #[.int .i64 ((n : Nat) : Int), .bool true]) from Or.inl ⟨n, hnb, hx, rfl⟩)
          clear ha hb hok hn hnb hx HT HR
          go_wp2_with fail
          refine (HH.out _).mono ?_
          rintro e w8 ⟨rfl, hb8⟩
          have HB8 := Lib.hid (below_trans HC.out.2 hb8)
          clear hb8
          go_wp2_with fail
          go_ret2
          exact ⟨_, rfl, HP.out, HB8.out⟩
        · have HP := Lib.hid (HNONE.out (fun t ht e => hok (HT.out t ht e).2.1))
          rw [hourV_none hok] at HH
          clear ha hb hok HT HR
          go_wp2_with fail
          refine (HH.out _).mono ?_
          rintro e w8 ⟨rfl, hb8⟩
          have HB8 := Lib.hid (below_trans HC.out.2 hb8)
          clear hb8
          go_wp2_with fail
          go_ret2
          exact ⟨_, rfl, HP.out, HB8.out⟩
theorem rparse_any (l : Bs) (hm : l.length ≤ 140737488355328) (w : World) : Calls Tryd.prog 17 #[.string (sv l)] w fun e w' => ∃ v, e = .returned v ∧ IsParse l v ∧ Below w.heap.size w w' := by
  by_cases hl : l.length = 14
  · match l, hl with
    | [c0, c1, c2, c3, c4, c5, c6, c7, c8, c9, c10, c11, c12, c13], _ =>
      by_cases hs : c4 = 45 ∧ c7 = 45 ∧ c10 = 32 ∧ c13 = 104
      · obtain ⟨rfl, rfl, rfl, rfl⟩ := hs
        exact rparse_main c0 c1 c2 c3 c5 c6 c8 c9 c11 c12 w
      · refine (rparse_sep c0 c1 c2 c3 c4 c5 c6 c7 c8 c9 c10 c11 c12 c13 hs w).mono ?_
        rintro e w' ⟨rfl, hb⟩
        exact ⟨_, rfl, Or.inr ⟨fun t ht e => hs (by obtain ⟨⟨h1, h2, h3, h4, _⟩, _⟩ := text_rnums ht e; exact ⟨h1, h2, h3, h4⟩), rfl⟩, hb⟩
  · refine (rparse_len l hl hm w).mono ?_
    rintro e w' ⟨rfl, hb⟩
    exact ⟨_, rfl, Or.inr ⟨fun t ht e => hl (by rw [← e]; exact txt_length _), rfl⟩, hb⟩
end Go.Proofs.YtanjkjendppigaaDoor.Dy
