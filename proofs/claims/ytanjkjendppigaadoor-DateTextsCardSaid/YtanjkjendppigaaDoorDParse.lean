/- Parse gives the hour whose text a string is. Conditions: the listed variables hold what the text gives them. -/
import Derived.Test.YtanjkjendppigaaDoorDText
namespace Go.Proofs.YtanjkjendppigaaDoor.Dy
open Go.RowKit Cal
set_option linter.unusedVariables false
set_option maxRecDepth 100000

theorem parse_len (l : Bs) (hl : l.length ≠ 14) (hm : l.length ≤ 140737488355328) (w : World) : Calls Tryd.prog 16 #[.string (sv l)] w fun e w' => e = .returned (.tuple #[.int .i64 0, .bool false]) ∧ Below w.heap.size w w' := by
  have hz : (sv l).size = l.length := rfl
  generalize sv l = S at *
  generalize l.length = n at *
  have d1 : (((n : Nat) : Int) != 14) = true := by rw [bne, beq_eq_false_iff_ne.2 (show ((n : Nat) : Int) ≠ 14 by omega)]; rfl
  clear hl
  go_enter Tryd.func16, Tryd.ntmps16
  go_wp2_with fail
  go_ret2
  exact ⟨rfl, below_self _⟩
theorem sv_extract (s : Bs) (a b : Nat) : (sv s).extract a b = sv ((s.drop a).take (b - a)) := by
  apply sv_ext
  rw [Lib.extract_data, sv_list, sv_list]
theorem slice_at (s : Bs) (a b : Nat) (h : a ≤ b) (hb : b ≤ s.length) (W : World) : (Instr.slice 9 (.string (sv s)) (some (.int .i64 ((a : Nat) : Int))) (some (.int .i64 ((b : Nat) : Int))) none).run Tryd.prog W = .ok (.string (sv ((s.drop a).take (b - a)))) W := by
  rw [run_slice_string W 9 (sv s) .i64 .i64 _ _ Tryd.underlying9 (by omega) (by omega) (by rw [sv_size]; omega), Int.toNat_natCast, Int.toNat_natCast, sv_extract]
def IsParse (l : Bs) (v : Value) : Prop := (∃ t, t ≤ 16777216 ∧ text t = l ∧ v = .tuple #[.int .i64 ((t : Nat) : Int), .bool true]) ∨ ((∀ t, t ≤ 16777216 → text t ≠ l) ∧ v = .tuple #[.int .i64 0, .bool false])
theorem text_fields {t : Nat} (ht : t ≤ 16777216) {c0 c1 c2 c3 c4 c5 c6 c7 c8 c9 c10 c11 c12 c13 : UInt8} (h : text t = [c0, c1, c2, c3, c4, c5, c6, c7, c8, c9, c10, c11, c12, c13]) :
    ∃ a0 a1 a2 a3 b0 b1 e0 e1 f0 f1 : Nat, (a0 < 10 ∧ a1 < 10 ∧ a2 < 10 ∧ a3 < 10 ∧ b0 < 10 ∧ b1 < 10 ∧ e0 < 10 ∧ e1 < 10 ∧ f0 < 10 ∧ f1 < 10) ∧ (c0 = dg a0 ∧ c1 = dg a1 ∧ c2 = dg a2 ∧ c3 = dg a3 ∧ c4 = 45 ∧ c5 = dg b0 ∧ c6 = dg b1 ∧ c7 = 45 ∧ c8 = dg e0 ∧ c9 = dg e1 ∧ c10 = 32 ∧ c11 = dg f0 ∧ c12 = dg f1 ∧ c13 = 104) ∧
      (dateOf t).y = 1000 * a0 + 100 * a1 + 10 * a2 + a3 ∧ (dateOf t).m = 10 * b0 + b1 ∧ (dateOf t).d = 10 * e0 + e1 ∧ (dateOf t).h = 10 * f0 + f1 := by
  obtain ⟨s1, s2, s3, s4⟩ := dateOf_small ht
  unfold text txt d2 at h
  simp only [List.cons_append, List.nil_append, List.cons.injEq] at h
  obtain ⟨h0, h1, h2, h3, h4, h5, h6, h7, h8, h9, h10, h11, h12, h13, _⟩ := h
  exact ⟨_, _, _, _, _, _, _, _, _, _, ⟨by omega, by omega, by omega, by omega, by omega, by omega, by omega, by omega, by omega, by omega⟩, ⟨h0.symm, h1.symm, h2.symm, h3.symm, h4.symm, h5.symm, h6.symm, h7.symm, h8.symm, h9.symm, h10.symm, h11.symm, h12.symm, h13.symm⟩, by omega, by omega, by omega, by omega⟩
theorem okI_date {t : Nat} (ht : t ≤ 16777216) : okI (dateOf t).y (dateOf t).m (dateOf t).d (dateOf t).h ∧ hourOf ((dateOf t).y : Int).toNat ((dateOf t).m : Int).toNat ((dateOf t).d : Int).toNat ((dateOf t).h : Int).toNat = t := by
  have h := dateOf_ok t
  have he := hourOf_dateOf t
  simp only [Int.toNat_natCast]
  refine ⟨⟨⟨by have := h.y0; omega, by have := h.m1; omega, by have := h.m2; omega, by have := h.d1; omega, ?_, by omega, by have := h.h0; omega⟩, ?_⟩, he⟩
  · rw [lenI_nat]; have := h.d2; omega
  · simp only [Int.toNat_natCast]; omega
/-- If a string is the text of an hour, the numbers that are read from it are the hour's date. -/
theorem text_nums {t : Nat} (ht : t ≤ 16777216) {c0 c1 c2 c3 c4 c5 c6 c7 c8 c9 c10 c11 c12 c13 : UInt8} (h : text t = [c0, c1, c2, c3, c4, c5, c6, c7, c8, c9, c10, c11, c12, c13]) :
    okI (numI [c0, c1, c2, c3]) (numI [c5, c6]) (numI [c8, c9]) (numI [c11, c12]) ∧ hourOf (numI [c0, c1, c2, c3]).toNat (numI [c5, c6]).toNat (numI [c8, c9]).toNat (numI [c11, c12]).toNat = t := by
  obtain ⟨a0, a1, a2, a3, b0, b1, e0, e1, f0, f1, ⟨k0, k1, k2, k3, k4, k5, k6, k7, k8, k9⟩, ⟨rfl, rfl, rfl, rfl, _, rfl, rfl, _, rfl, rfl, _, rfl, rfl, _⟩, hy, hm, hd, hh⟩ := text_fields ht h
  have q := okI_date ht
  rw [hy, hm, hd, hh] at q
  unfold numI
  rw [atoi_four k0 k1 k2 k3, atoi_two k4 k5, atoi_two k6 k7, atoi_two k8 k9]
  exact q
def zD : Array Value := #[.int .i64 0, .int .i64 0, .int .i64 0, .int .i64 0]
structure Fd (w : World) (g : Nat) : Prop where
  blk : Blk w g 23 zD
theorem Fd.next {w w' : World} {g : Nat} (h : Fd w g) (hb : Below w.heap.size w w') : Fd w' g := ⟨h.blk.below hb (Nat.le_refl _)⟩
theorem Fd.first {w w' : World} (hb : Below (w.alloc (.cells #[.int .i64 0, .int .i64 0, .int .i64 0, .int .i64 0] 23)).heap.size (w.alloc (.cells #[.int .i64 0, .int .i64 0, .int .i64 0, .int .i64 0] 23)) w') : Fd w' w.heap.size := ⟨(Blk.new _ _ _).below hb (Nat.le_refl _)⟩
theorem Fd.firstD {w w' : World} (hb : Below (w.alloc (.cells #[.int .i64 0, .int .i64 0, .int .i64 0, .int .i64 0] 23)).drew.heap.size (w.alloc (.cells #[.int .i64 0, .int .i64 0, .int .i64 0, .int .i64 0] 23)).drew w') : Fd w' w.heap.size := ⟨(show Blk (w.alloc (.cells #[.int .i64 0, .int .i64 0, .int .i64 0, .int .i64 0] 23)).drew w.heap.size _ zD from Blk.new _ _ _).below hb (Nat.le_refl _)⟩
theorem Blk.set_ {w : World} {g : Nat} {t : TypeId} {cs : Array Value} (h : Blk w g t cs) (i : Nat) (u : Value) : Blk (w.setCell ⟨g, i, none⟩ u) g t (cs.setIfInBounds i u) := heap_setCell_same w g i _ _ u h
theorem blk_four {w : World} {g : Nat} {t : TypeId} (h : Blk w g t zD) (x y z u : Value) : Blk ((((w.setCell ⟨g, 0, none⟩ x).setCell ⟨g, 1, none⟩ y).setCell ⟨g, 2, none⟩ z).setCell ⟨g, 3, none⟩ u) g t #[x, y, z, u] := (((h.set_ 0 x).set_ 1 y).set_ 2 z).set_ 3 u
theorem below_four {w W : World} {g : Nat} (hb : Below w.heap.size w W) (hg : w.heap.size ≤ g) (x y z u : Value) : Below w.heap.size w ((((W.setCell ⟨g, 0, none⟩ x).setCell ⟨g, 1, none⟩ y).setCell ⟨g, 2, none⟩ z).setCell ⟨g, 3, none⟩ u) :=
  (((hb.setCell (p := ⟨g, 0, none⟩) hg x).setCell (p := ⟨g, 1, none⟩) hg y).setCell (p := ⟨g, 2, none⟩) hg z).setCell (p := ⟨g, 3, none⟩) hg u
theorem Fd.facts {w : World} {g : Nat} (h : Fd w g) : w.cell? ⟨g, 0, none⟩ = some (.int .i64 0) ∧ w.cell? ⟨g, 1, none⟩ = some (.int .i64 0) ∧ w.cell? ⟨g, 2, none⟩ = some (.int .i64 0) ∧ w.cell? ⟨g, 3, none⟩ = some (.int .i64 0) ∧ w.frozen? ⟨g, 0, none⟩ = false ∧ w.frozen? ⟨g, 1, none⟩ = false ∧ w.frozen? ⟨g, 2, none⟩ = false ∧ w.frozen? ⟨g, 3, none⟩ = false :=
  ⟨h.blk.cell 0, h.blk.cell 1, h.blk.cell 2, h.blk.cell 3, h.blk.frozen 0, h.blk.frozen 1, h.blk.frozen 2, h.blk.frozen 3⟩
set_option maxHeartbeats 2000000 in
theorem parse_14 (c0 c1 c2 c3 c4 c5 c6 c7 c8 c9 c10 c11 c12 c13 : UInt8) (w : World) (hW : Wd w) : Calls Tryd.prog 16 #[.string (sv [c0, c1, c2, c3, c4, c5, c6, c7, c8, c9, c10, c11, c12, c13])] w fun e w' => ∃ v, e = .returned v ∧ IsParse [c0, c1, c2, c3, c4, c5, c6, c7, c8, c9, c10, c11, c12, c13] v ∧ Below w.heap.size w w' := by
  have hz : (sv [c0, c1, c2, c3, c4, c5, c6, c7, c8, c9, c10, c11, c12, c13]).size = 14 := rfl
  have x1 : sv [c0, c1, c2, c3] = (sv [c0, c1, c2, c3, c4, c5, c6, c7, c8, c9, c10, c11, c12, c13]).extract 0 4 := by rw [sv_extract]; rfl
  have x2 : sv [c5, c6] = (sv [c0, c1, c2, c3, c4, c5, c6, c7, c8, c9, c10, c11, c12, c13]).extract 5 7 := by rw [sv_extract]; rfl
  have x3 : sv [c8, c9] = (sv [c0, c1, c2, c3, c4, c5, c6, c7, c8, c9, c10, c11, c12, c13]).extract 8 10 := by rw [sv_extract]; rfl
  have x4 : sv [c11, c12] = (sv [c0, c1, c2, c3, c4, c5, c6, c7, c8, c9, c10, c11, c12, c13]).extract 11 13 := by rw [sv_extract]; rfl
  have HWD := Lib.hid (fun W (hb : Below w.heap.size w W) => hW.below hb)
  have HN1 := Lib.hid (fun W hW => number_any [c0, c1, c2, c3] (by show 4 ≤ 18; decide) W hW)
  have HN2 := Lib.hid (fun W hW => number_any [c5, c6] (by show 2 ≤ 18; decide) W hW)
  have HN3 := Lib.hid (fun W hW => number_any [c8, c9] (by show 2 ≤ 18; decide) W hW)
  have HN4 := Lib.hid (fun W hW => number_any [c11, c12] (by show 2 ≤ 18; decide) W hW)
  rw [x1] at HN1
  rw [x2] at HN2
  rw [x3] at HN3
  rw [x4] at HN4
  clear x1 x2 x3 x4
  have HTN := Lib.hid (fun t (ht : t ≤ 16777216) (h : text t = [c0, c1, c2, c3, c4, c5, c6, c7, c8, c9, c10, c11, c12, c13]) => text_nums ht h)
  have HEQ := Lib.hid (fun a => (show ((sv a).toList == (sv [c0, c1, c2, c3, c4, c5, c6, c7, c8, c9, c10, c11, c12, c13]).toList) = decide (a = [c0, c1, c2, c3, c4, c5, c6, c7, c8, c9, c10, c11, c12, c13]) by rw [sv_toList, sv_toList]; by_cases e : a = [c0, c1, c2, c3, c4, c5, c6, c7, c8, c9, c10, c11, c12, c13] <;> simp [e]))
  obtain ⟨L, hL⟩ : ∃ L, [c0, c1, c2, c3, c4, c5, c6, c7, c8, c9, c10, c11, c12, c13] = L := ⟨_, rfl⟩
  obtain ⟨S, hS⟩ : ∃ S, sv [c0, c1, c2, c3, c4, c5, c6, c7, c8, c9, c10, c11, c12, c13] = S := ⟨_, rfl⟩
  rw [hS] at hz HN1 HN2 HN3 HN4 HEQ ⊢
  rw [hL] at HEQ HTN ⊢
  clear hL hS
  generalize numI [c0, c1, c2, c3] = y at *
  generalize numI [c5, c6] = m at *
  generalize numI [c8, c9] = d at *
  generalize numI [c11, c12] = h at *
  go_enter Tryd.func16, Tryd.ntmps16
  go_wp2_with fail
  clear hW
  go_cut [4] from 10 to 22 (fun p wc => ∃ g, p = .pointer (some ⟨g, 0, none⟩) ∧ Hid (Blk wc g 23 #[.int .i64 y, .int .i64 m, .int .i64 d, .int .i64 h] ∧ Below w.heap.size w wc))
  case first =>
    go_region_with ((first
    | (go_at_call 31; with_reducible refine (HN1.out _ (HWD.out _ ?_)).mono ?_; (first | assumption | exact (below_self w).drew | exact (below_alloc w _).drew | exact below_trans (by assumption) (below_alloc _ _)); rintro e w4 ⟨rfl, hb4⟩; have bb4 : Below w.heap.size w w4 := below_trans (by (first | assumption | exact (below_self w).drew | exact (below_alloc w _).drew | exact below_trans (by assumption) (below_alloc _ _))) hb4; (first | (have k4 := Fd.firstD hb4; obtain ⟨_, _, _, _, _, _, _, _⟩ := k4.facts) | (have k4 := Fd.first hb4; obtain ⟨_, _, _, _, _, _, _, _⟩ := k4.facts) | (have k4 := Fd.next (by assumption) hb4; obtain ⟨_, _, _, _, _, _, _, _⟩ := k4.facts) | skip))
    | (go_at_call 31; with_reducible refine (HN2.out _ (HWD.out _ ?_)).mono ?_; (first | assumption | exact (below_self w).drew | exact (below_alloc w _).drew | exact below_trans (by assumption) (below_alloc _ _)); rintro e w5 ⟨rfl, hb5⟩; have bb5 : Below w.heap.size w w5 := below_trans (by (first | assumption | exact (below_self w).drew | exact (below_alloc w _).drew | exact below_trans (by assumption) (below_alloc _ _))) hb5; (first | (have k5 := Fd.firstD hb5; obtain ⟨_, _, _, _, _, _, _, _⟩ := k5.facts) | (have k5 := Fd.first hb5; obtain ⟨_, _, _, _, _, _, _, _⟩ := k5.facts) | (have k5 := Fd.next (by assumption) hb5; obtain ⟨_, _, _, _, _, _, _, _⟩ := k5.facts) | skip))
    | (go_at_call 31; with_reducible refine (HN3.out _ (HWD.out _ ?_)).mono ?_; (first | assumption | exact (below_self w).drew | exact (below_alloc w _).drew | exact below_trans (by assumption) (below_alloc _ _)); rintro e w6 ⟨rfl, hb6⟩; have bb6 : Below w.heap.size w w6 := below_trans (by (first | assumption | exact (below_self w).drew | exact (below_alloc w _).drew | exact below_trans (by assumption) (below_alloc _ _))) hb6; (first | (have k6 := Fd.firstD hb6; obtain ⟨_, _, _, _, _, _, _, _⟩ := k6.facts) | (have k6 := Fd.first hb6; obtain ⟨_, _, _, _, _, _, _, _⟩ := k6.facts) | (have k6 := Fd.next (by assumption) hb6; obtain ⟨_, _, _, _, _, _, _, _⟩ := k6.facts) | skip))
    | (go_at_call 31; with_reducible refine (HN4.out _ (HWD.out _ ?_)).mono ?_; (first | assumption | exact (below_self w).drew | exact (below_alloc w _).drew | exact below_trans (by assumption) (below_alloc _ _)); rintro e w7 ⟨rfl, hb7⟩; have bb7 : Below w.heap.size w w7 := below_trans (by (first | assumption | exact (below_self w).drew | exact (below_alloc w _).drew | exact below_trans (by assumption) (below_alloc _ _))) hb7; (first | (have k7 := Fd.firstD hb7; obtain ⟨_, _, _, _, _, _, _, _⟩ := k7.facts) | (have k7 := Fd.first hb7; obtain ⟨_, _, _, _, _, _, _, _⟩ := k7.facts) | (have k7 := Fd.next (by assumption) hb7; obtain ⟨_, _, _, _, _, _, _, _⟩ := k7.facts) | skip))))
    · go_wp2_with fail
      go_meet
      exact ⟨_, rfl, Lib.hid ⟨Blk.new _ _ _, below_trans bb7 (below_alloc _ _)⟩⟩
    all_goals (
      go_wp2_with fail
      go_meet
      exact ⟨_, rfl, Lib.hid ⟨blk_four k7.blk _ _ _ _, below_four bb7 (by first | exact Nat.le_refl _ | exact bb6.size | exact bb5.size | exact bb4.size) _ _ _ _⟩⟩)
  case rest =>
    obtain ⟨g, rfl, HC⟩ := hcut
    have HH := Lib.hid (hour_any y m d h)
    have c0 := HC.out.1.cell 0
    have c1 := HC.out.1.cell 1
    have c2 := HC.out.1.cell 2
    have c3 := HC.out.1.cell 3
    have HWC := Lib.hid (HWD.out _ HC.out.2)
    have HNONE := Lib.hid (fun (h : ∀ t, t ≤ 16777216 → text t ≠ L) => (show IsParse L (.tuple #[.int .i64 0, .bool false]) from Or.inr ⟨h, rfl⟩))
    clear HN1 HN2 HN3 HN4
    unfold dv at HH
    by_cases hok : okI y m d h
    · have HQ := Lib.hid (fun t ht e => (HTN.out t ht e).2)
      obtain ⟨n, hn⟩ : ∃ n, hourOf y.toNat m.toNat d.toNat h.toNat = n := ⟨_, rfl⟩
      have hnb : n ≤ 16777216 := by rw [← hn]; exact hok.2
      rw [hourV_some hok, hn] at HH
      rw [hn] at HQ
      have HT := Lib.hid (fun W hW => text_any (n : Int) W hW)
      have htb : textB (n : Int) = text n := by unfold textB; rw [if_pos (show isH (n : Int) = true from decide_eq_true (by omega)), Int.toNat_natCast]
      rw [htb] at HT
      have HE := Lib.hid (HEQ.out (text n))
      have HNB := Lib.hid hnb
      clear hok hn hnb htb HTN HEQ
      by_cases heq : text n = L
      · have he := HE.out
        rw [decide_eq_true heq] at he
        have hne : (!((sv (text n)).toList == S.toList)) = false := by rw [he]; rfl
        have HP := Lib.hid (show IsParse L (.tuple #[.int .i64 ((n : Nat) : Int), .bool true]) from Or.inl ⟨n, HNB.out, heq, rfl⟩)
        clear he heq HE
        generalize sv (text n) = T at *
        go_wp2_with fail
        refine (HH.out _ HWC.out).mono ?_
        rintro e w8 ⟨rfl, hb8⟩
        have HB8 := Lib.hid (below_trans HC.out.2 hb8)
        have HW8 := Lib.hid (HWC.out.below hb8)
        clear hb8
        go_wp2_with fail
        --GG
        refine (HT.out _ HW8.out).mono ?_
        rintro e w9 ⟨rfl, hb9⟩
        have HB9 := Lib.hid (below_trans HB8.out hb9)
        clear hb9
        go_wp2_with fail
        go_ret2
        exact ⟨_, rfl, HP.out, HB9.out⟩
      · have he := HE.out
        rw [decide_eq_false heq] at he
        have hne : (!((sv (text n)).toList == S.toList)) = true := by rw [he]; rfl
        have HP := Lib.hid (HNONE.out (fun t ht e => heq (by rw [HQ.out t ht e]; exact e)))
        clear he heq HE
        generalize sv (text n) = T at *
        go_wp2_with fail
        refine (HH.out _ HWC.out).mono ?_
        rintro e w8 ⟨rfl, hb8⟩
        have HB8 := Lib.hid (below_trans HC.out.2 hb8)
        have HW8 := Lib.hid (HWC.out.below hb8)
        clear hb8
        go_wp2_with fail
        refine (HT.out _ HW8.out).mono ?_
        rintro e w9 ⟨rfl, hb9⟩
        have HB9 := Lib.hid (below_trans HB8.out hb9)
        clear hb9
        go_wp2_with fail
        go_ret2
        exact ⟨_, rfl, HP.out, HB9.out⟩
    · have HP := Lib.hid (HNONE.out (fun t ht e => hok (HTN.out t ht e).1))
      rw [hourV_none hok] at HH
      clear hok HTN HEQ
      go_wp2_with fail
      refine (HH.out _ HWC.out).mono ?_
      rintro e w8 ⟨rfl, hb8⟩
      have HB8 := Lib.hid (below_trans HC.out.2 hb8)
      clear hb8
      go_wp2_with fail
      go_ret2
      exact ⟨_, rfl, HP.out, HB8.out⟩
theorem parse_any (l : Bs) (hm : l.length ≤ 140737488355328) (w : World) (hW : Wd w) : Calls Tryd.prog 16 #[.string (sv l)] w fun e w' => ∃ v, e = .returned v ∧ IsParse l v ∧ Below w.heap.size w w' := by
  by_cases hl : l.length = 14
  · match l, hl with
    | [c0, c1, c2, c3, c4, c5, c6, c7, c8, c9, c10, c11, c12, c13], _ => exact parse_14 c0 c1 c2 c3 c4 c5 c6 c7 c8 c9 c10 c11 c12 c13 w hW
  · refine (parse_len l hl hm w).mono ?_
    rintro e w' ⟨rfl, hb⟩
    exact ⟨_, rfl, Or.inr ⟨fun t ht e => hl (by rw [← e]; exact txt_length _), rfl⟩, hb⟩
end Go.Proofs.YtanjkjendppigaaDoor.Dy
