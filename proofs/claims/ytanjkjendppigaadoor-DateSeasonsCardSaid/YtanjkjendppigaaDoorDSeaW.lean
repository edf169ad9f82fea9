/- The reference's MonthDay and In, and the law's own helpers of seasons. Conditions: those of each lemma. -/
import Derived.Test.YtanjkjendppigaaDoorDSeaM
namespace Go.Proofs.YtanjkjendppigaaDoor.Dy
open Go.RowKit Cal
set_option linter.unusedVariables false
set_option maxRecDepth 100000

theorem valid_md (m d : Int) : validB 2000 m d 0 = mdB m d := by
  unfold validB mdB
  by_cases h : 1 ≤ m ∧ m ≤ 12
  · have e : lenI 2000 m = ((len 2000 m.toNat : Nat) : Int) := by
      have := lenI_nat 2000 m.toNat
      rw [show ((m.toNat : Nat) : Int) = m by omega] at this
      exact this
    rw [e]
    congr 1
    apply propext
    omega
  · rw [decide_eq_false (by omega), decide_eq_false (by omega)]
theorem rmd_any (n : Int) (w : World) : Calls Tryd.prog 22 #[.int .i64 n] w fun e w' => e = .returned (.bool (mdI n)) ∧ Below w.heap.size w w' := by
  obtain ⟨r, hr⟩ : ∃ r, mdI n = r := ⟨_, rfl⟩
  rw [hr]
  by_cases h1 : 101 ≤ n
  · have d1 := decide_eq_true h1
    by_cases h2 : n ≤ 1231
    · have d2 := decide_eq_true h2
      have HV := Lib.hid (fun W => valid_any 2000 (n.tdiv 100) (n.tmod 100) 0 W)
      rw [valid_md, show mdB (n.tdiv 100) (n.tmod 100) = r from hr] at HV
      unfold dv at HV
      rw [Int.tdiv_eq_ediv_of_nonneg (by omega), Int.tmod_eq_emod_of_nonneg (by omega)] at HV
      clear hr
      go_enter Tryd.func22, Tryd.ntmps22
      go_wp2_with fail
      --GG
      refine (HV.out _).mono ?_
      rintro e w1 ⟨rfl, hb⟩
      have HB := Lib.hid hb
      clear hb
      go_wp2_with fail
      go_ret
      exact ⟨rfl, HB.out⟩
    · have d2 := decide_eq_false h2
      have hx : r = false := by rw [← hr]; exact Bool.eq_false_iff.2 (fun h => h2 (mdI_range h).2)
      subst hx
      clear hr h1 h2
      go_enter Tryd.func22, Tryd.ntmps22
      go_wp2_with fail
      go_ret
      exact ⟨rfl, below_self _⟩
  · have d1 := decide_eq_false h1
    have hx : r = false := by rw [← hr]; exact Bool.eq_false_iff.2 (fun h => h1 (mdI_range h).1)
    subst hx
    clear hr h1
    go_enter Tryd.func22, Tryd.ntmps22
    go_wp2_with fail
    go_ret
    exact ⟨rfl, below_self _⟩
set_option maxHeartbeats 2000000 in
theorem rin_any (y m d h f u : Int) (w : World) : Calls Tryd.prog 21 #[dv y m d h, .int .i64 f, .int .i64 u] w fun e w' => e = .returned (.bool (inB m d f u)) ∧ Below w.heap.size w w' := by
  have HV := Lib.hid (fun W => valid_any 2000 m d 0 W)
  rw [valid_md] at HV
  have HF := Lib.hid (fun W => rmd_any f W)
  have HU := Lib.hid (fun W => rmd_any u W)
  obtain ⟨r, hr⟩ : ∃ r, inB m d f u = r := ⟨_, rfl⟩
  have hr' : r = (mdI f && mdI u && mdB m d && (if f ≤ u then decide (f ≤ 100 * m + d ∧ 100 * m + d ≤ u) else decide (f ≤ 100 * m + d ∨ 100 * m + d ≤ u))) := hr.symm
  rw [hr]
  clear hr
  have HK0 := Lib.hid (Blk.new w 23 #[.int .i64 y, .int .i64 m, .int .i64 d, .int .i64 h])
  have HB0 := Lib.hid (below_alloc w (.cells #[.int .i64 y, .int .i64 m, .int .i64 d, .int .i64 h] 23))
  unfold dv at *
  by_cases q3 : mdB m d = true
  · rw [q3] at HV hr'
    by_cases q1 : mdI f = true
    · rw [q1] at HF hr'
      by_cases q2 : mdI u = true
      · rw [q2] at HU hr'
        have hx0 : r = (if f ≤ u then decide (f ≤ 100 * m + d ∧ 100 * m + d ≤ u) else decide (f ≤ 100 * m + d ∨ 100 * m + d ≤ u)) := by rw [hr']; simp
        have hrg := mdB_range q3
        have w1 : wrap64 (100 * m) = 100 * m := wrapOk (by omega) (by omega)
        have w2 : wrap64 (100 * m + d) = 100 * m + d := wrapOk (by omega) (by omega)
        obtain ⟨x, hxe⟩ : ∃ x, 100 * m + d = x := ⟨_, rfl⟩
        have w3 : wrap64 (wrap64 (100 * m) + d) = x := by rw [w1, w2, hxe]
        rw [hxe] at hx0 w2
        clear hr' q1 q2 q3 hrg hxe w1
        by_cases k1 : f ≤ u
        · rw [if_pos k1] at hx0
          have j1 := decide_eq_true k1
          by_cases k2 : f ≤ x
          · have j2 := decide_eq_true k2
            by_cases k3 : x ≤ u
            · have j3 := decide_eq_true k3
              have hx : r = true := by rw [hx0]; exact decide_eq_true ⟨k2, k3⟩
              subst hx
              clear k1 k2 k3 hx0
              go_enter Tryd.func21, Tryd.ntmps21
              go_wp2_with fail
              refine (HV.out _).mono ?_
              rintro e w1 ⟨rfl, hb⟩
              have HB1 := Lib.hid (below_trans HB0.out hb)
              have HK1 := Lib.hid (HK0.out.below hb (Nat.le_refl _))
              clear hb
              go_wp2_with fail
              refine (HF.out _).mono ?_
              rintro e w2 ⟨rfl, hb⟩
              have HB2 := Lib.hid (below_trans HB1.out hb)
              have HK2 := Lib.hid (HK1.out.below hb (Nat.le_refl _))
              clear hb
              go_wp2_with fail
              refine (HU.out _).mono ?_
              rintro e w3 ⟨rfl, hb⟩
              have HB3 := Lib.hid (below_trans HB2.out hb)
              have HK3 := Lib.hid (HK2.out.below hb (Nat.le_refl _))
              clear hb
              have c0 := HK3.out.cell 0
              have c1 := HK3.out.cell 1
              have c2 := HK3.out.cell 2
              have c3 := HK3.out.cell 3
              go_wp2_with fail
              go_ret
              exact ⟨rfl, HB3.out⟩
            · have j3 := decide_eq_false k3
              have hx : r = false := by rw [hx0]; exact decide_eq_false (fun c => k3 c.2)
              subst hx
              clear k1 k2 k3 hx0
              go_enter Tryd.func21, Tryd.ntmps21
              go_wp2_with fail
              refine (HV.out _).mono ?_
              rintro e w1 ⟨rfl, hb⟩
              have HB1 := Lib.hid (below_trans HB0.out hb)
              have HK1 := Lib.hid (HK0.out.below hb (Nat.le_refl _))
              clear hb
              go_wp2_with fail
              refine (HF.out _).mono ?_
              rintro e w2 ⟨rfl, hb⟩
              have HB2 := Lib.hid (below_trans HB1.out hb)
              have HK2 := Lib.hid (HK1.out.below hb (Nat.le_refl _))
              clear hb
              go_wp2_with fail
              refine (HU.out _).mono ?_
              rintro e w3 ⟨rfl, hb⟩
              have HB3 := Lib.hid (below_trans HB2.out hb)
              have HK3 := Lib.hid (HK2.out.below hb (Nat.le_refl _))
              clear hb
              have c0 := HK3.out.cell 0
              have c1 := HK3.out.cell 1
              have c2 := HK3.out.cell 2
              have c3 := HK3.out.cell 3
              go_wp2_with fail
              go_ret
              exact ⟨rfl, HB3.out⟩
          · have j2 := decide_eq_false k2
            have hx : r = false := by rw [hx0]; exact decide_eq_false (fun c => k2 c.1)
            subst hx
            clear k1 k2 hx0
            go_enter Tryd.func21, Tryd.ntmps21
            go_wp2_with fail
            refine (HV.out _).mono ?_
            rintro e w1 ⟨rfl, hb⟩
            have HB1 := Lib.hid (below_trans HB0.out hb)
            have HK1 := Lib.hid (HK0.out.below hb (Nat.le_refl _))
            clear hb
            go_wp2_with fail
            refine (HF.out _).mono ?_
            rintro e w2 ⟨rfl, hb⟩
            have HB2 := Lib.hid (below_trans HB1.out hb)
            have HK2 := Lib.hid (HK1.out.below hb (Nat.le_refl _))
            clear hb
            go_wp2_with fail
            refine (HU.out _).mono ?_
            rintro e w3 ⟨rfl, hb⟩
            have HB3 := Lib.hid (below_trans HB2.out hb)
            have HK3 := Lib.hid (HK2.out.below hb (Nat.le_refl _))
            clear hb
            have c0 := HK3.out.cell 0
            have c1 := HK3.out.cell 1
            have c2 := HK3.out.cell 2
            have c3 := HK3.out.cell 3
            go_wp2_with fail
            go_ret
            exact ⟨rfl, HB3.out⟩
        · rw [if_neg k1] at hx0
          have j1 := decide_eq_false k1
          by_cases k2 : f ≤ x
          · have j2 := decide_eq_true k2
            have hx : r = true := by rw [hx0]; exact decide_eq_true (Or.inl k2)
            subst hx
            clear k1 k2 hx0
            go_enter Tryd.func21, Tryd.ntmps21
            go_wp2_with fail
            refine (HV.out _).mono ?_
            rintro e w1 ⟨rfl, hb⟩
            have HB1 := Lib.hid (below_trans HB0.out hb)
            have HK1 := Lib.hid (HK0.out.below hb (Nat.le_refl _))
            clear hb
            go_wp2_with fail
            refine (HF.out _).mono ?_
            rintro e w2 ⟨rfl, hb⟩
            have HB2 := Lib.hid (below_trans HB1.out hb)
            have HK2 := Lib.hid (HK1.out.below hb (Nat.le_refl _))
            clear hb
            go_wp2_with fail
            refine (HU.out _).mono ?_
            rintro e w3 ⟨rfl, hb⟩
            have HB3 := Lib.hid (below_trans HB2.out hb)
            have HK3 := Lib.hid (HK2.out.below hb (Nat.le_refl _))
            clear hb
            have c0 := HK3.out.cell 0
            have c1 := HK3.out.cell 1
            have c2 := HK3.out.cell 2
            have c3 := HK3.out.cell 3
            go_wp2_with fail
            go_ret
            exact ⟨rfl, HB3.out⟩
          · have j2 := decide_eq_false k2
            by_cases k3 : x ≤ u
            · have j3 := decide_eq_true k3
              have hx : r = true := by rw [hx0]; exact decide_eq_true (Or.inr k3)
              subst hx
              clear k1 k2 k3 hx0
              go_enter Tryd.func21, Tryd.ntmps21
              go_wp2_with fail
              refine (HV.out _).mono ?_
              rintro e w1 ⟨rfl, hb⟩
              have HB1 := Lib.hid (below_trans HB0.out hb)
              have HK1 := Lib.hid (HK0.out.below hb (Nat.le_refl _))
              clear hb
              go_wp2_with fail
              refine (HF.out _).mono ?_
              rintro e w2 ⟨rfl, hb⟩
              have HB2 := Lib.hid (below_trans HB1.out hb)
              have HK2 := Lib.hid (HK1.out.below hb (Nat.le_refl _))
              clear hb
              go_wp2_with fail
              refine (HU.out _).mono ?_
              rintro e w3 ⟨rfl, hb⟩
              have HB3 := Lib.hid (below_trans HB2.out hb)
              have HK3 := Lib.hid (HK2.out.below hb (Nat.le_refl _))
              clear hb
              have c0 := HK3.out.cell 0
              have c1 := HK3.out.cell 1
              have c2 := HK3.out.cell 2
              have c3 := HK3.out.cell 3
              go_wp2_with fail
              go_ret
              exact ⟨rfl, HB3.out⟩
            · have j3 := decide_eq_false k3
              have hx : r = false := by rw [hx0]; exact decide_eq_false (fun c => c.elim k2 k3)
              subst hx
              clear k1 k2 k3 hx0
              go_enter Tryd.func21, Tryd.ntmps21
              go_wp2_with fail
              refine (HV.out _).mono ?_
              rintro e w1 ⟨rfl, hb⟩
              have HB1 := Lib.hid (below_trans HB0.out hb)
              have HK1 := Lib.hid (HK0.out.below hb (Nat.le_refl _))
              clear hb
              go_wp2_with fail
              refine (HF.out _).mono ?_
              rintro e w2 ⟨rfl, hb⟩
              have HB2 := Lib.hid (below_trans HB1.out hb)
              have HK2 := Lib.hid (HK1.out.below hb (Nat.le_refl _))
              clear hb
              go_wp2_with fail
              refine (HU.out _).mono ?_
              rintro e w3 ⟨rfl, hb⟩
              have HB3 := Lib.hid (below_trans HB2.out hb)
              have HK3 := Lib.hid (HK2.out.below hb (Nat.le_refl _))
              clear hb
              have c0 := HK3.out.cell 0
              have c1 := HK3.out.cell 1
              have c2 := HK3.out.cell 2
              have c3 := HK3.out.cell 3
              go_wp2_with fail
              go_ret
              exact ⟨rfl, HB3.out⟩
      · have q2' : mdI u = false := by simpa using q2
        rw [q2'] at HU
        have hx : r = false := by rw [hr', q2']; simp
        subst hx
        clear hr' q1 q2 q3 q2'
        go_enter Tryd.func21, Tryd.ntmps21
        go_wp2_with fail
        refine (HV.out _).mono ?_
        rintro e w1 ⟨rfl, hb⟩
        have HB1 := Lib.hid (below_trans HB0.out hb)
        have HK1 := Lib.hid (HK0.out.below hb (Nat.le_refl _))
        clear hb
        go_wp2_with fail
        refine (HF.out _).mono ?_
        rintro e w2 ⟨rfl, hb⟩
        have HB2 := Lib.hid (below_trans HB1.out hb)
        have HK2 := Lib.hid (HK1.out.below hb (Nat.le_refl _))
        clear hb
        go_wp2_with fail
        refine (HU.out _).mono ?_
        rintro e w3 ⟨rfl, hb⟩
        have HB3 := Lib.hid (below_trans HB2.out hb)
        have HK3 := Lib.hid (HK2.out.below hb (Nat.le_refl _))
        clear hb
        have c0 := HK3.out.cell 0
        have c1 := HK3.out.cell 1
        have c2 := HK3.out.cell 2
        have c3 := HK3.out.cell 3
        go_wp2_with fail
        go_ret
        exact ⟨rfl, HB3.out⟩
    · have q1' : mdI f = false := by simpa using q1
      rw [q1'] at HF
      have hx : r = false := by rw [hr', q1']; simp
      subst hx
      clear hr' q1 q3 q1'
      go_enter Tryd.func21, Tryd.ntmps21
      go_wp2_with fail
      refine (HV.out _).mono ?_
      rintro e w1 ⟨rfl, hb⟩
      have HB1 := Lib.hid (below_trans HB0.out hb)
      have HK1 := Lib.hid (HK0.out.below hb (Nat.le_refl _))
      clear hb
      go_wp2_with fail
      refine (HF.out _).mono ?_
      rintro e w2 ⟨rfl, hb⟩
      have HB2 := Lib.hid (below_trans HB1.out hb)
      have HK2 := Lib.hid (HK1.out.below hb (Nat.le_refl _))
      clear hb
      go_wp2_with fail
      refine (HU.out _).mono ?_
      rintro e w3 ⟨rfl, hb⟩
      have HB3 := Lib.hid (below_trans HB2.out hb)
      have HK3 := Lib.hid (HK2.out.below hb (Nat.le_refl _))
      clear hb
      have c0 := HK3.out.cell 0
      have c1 := HK3.out.cell 1
      have c2 := HK3.out.cell 2
      have c3 := HK3.out.cell 3
      go_wp2_with fail
      go_ret
      exact ⟨rfl, HB3.out⟩
  · have q3' : mdB m d = false := by simpa using q3
    rw [q3'] at HV
    have hx : r = false := by rw [hr', q3']; simp
    subst hx
    clear hr' q3 q3'
    go_enter Tryd.func21, Tryd.ntmps21
    go_wp2_with fail
    refine (HV.out _).mono ?_
    rintro e w1 ⟨rfl, hb⟩
    have HB1 := Lib.hid (below_trans HB0.out hb)
    have HK1 := Lib.hid (HK0.out.below hb (Nat.le_refl _))
    clear hb
    go_wp2_with fail
    refine (HF.out _).mono ?_
    rintro e w2 ⟨rfl, hb⟩
    have HB2 := Lib.hid (below_trans HB1.out hb)
    have HK2 := Lib.hid (HK1.out.below hb (Nat.le_refl _))
    clear hb
    go_wp2_with fail
    refine (HU.out _).mono ?_
    rintro e w3 ⟨rfl, hb⟩
    have HB3 := Lib.hid (below_trans HB2.out hb)
    have HK3 := Lib.hid (HK2.out.below hb (Nat.le_refl _))
    clear hb
    have c0 := HK3.out.cell 0
    have c1 := HK3.out.cell 1
    have c2 := HK3.out.cell 2
    have c3 := HK3.out.cell 3
    go_wp2_with fail
    go_ret
    exact ⟨rfl, HB3.out⟩

theorem follows_any (a b : Int) (ha : mdI a = true) (w : World) : Calls Tryd.prog 23 #[.int .i64 a, .int .i64 b] w fun e w' => e = .returned (.bool (folB a b)) ∧ Below w.heap.size w w' := by
  have hrg := mdI_range ha
  have HM := Lib.hid (fun W => rmd_any (a + 1) W)
  have w1 : wrap64 (a + 1) = a + 1 := wrapOk (by omega) (by omega)
  by_cases h1 : mdI (a + 1) = true
  · rw [h1] at HM
    have hr : folB a b = (a + 1 == b) := by unfold folB; rw [if_pos h1]
    have hc : (a + 1 == b) = (b == a + 1) := by
      by_cases e : a + 1 = b
      · rw [beq_iff_eq.2 e, beq_iff_eq.2 e.symm]
      · rw [beq_eq_false_iff_ne.2 e, beq_eq_false_iff_ne.2 (fun h => e h.symm)]
    rw [hr, hc]
    obtain ⟨a1, ha1⟩ : ∃ a1, a + 1 = a1 := ⟨_, rfl⟩
    have wa : wrap64 (a + 1) = a1 := w1.trans ha1
    rw [ha1] at HM ⊢
    clear hrg ha h1 hr hc w1 ha1
    go_enter Tryd.func23, Tryd.ntmps23
    go_wp2_with fail
    refine (HM.out _).mono ?_
    rintro e w2 ⟨rfl, hb⟩
    have HB := Lib.hid hb
    clear hb
    go_wp2_with fail
    --GG
    go_ret
    exact ⟨rfl, HB.out⟩
  · have h1' : mdI (a + 1) = false := by simpa using h1
    rw [h1'] at HM
    by_cases h2 : a = 1231
    · have hr : folB a b = (b == 101) := by unfold folB; rw [if_neg h1, if_pos h2]
      have d2 : (a == 1231) = true := beq_iff_eq.2 h2
      rw [hr]
      obtain ⟨a1, ha1⟩ : ∃ a1, a + 1 = a1 := ⟨_, rfl⟩
      have wa : wrap64 (a + 1) = a1 := w1.trans ha1
      rw [ha1] at HM
      clear hrg ha h1 h1' hr h2 w1 ha1
      go_enter Tryd.func23, Tryd.ntmps23
      go_wp2_with fail
      refine (HM.out _).mono ?_
      rintro e w2 ⟨rfl, hb⟩
      have HB := Lib.hid hb
      clear hb
      go_wp2_with fail
      go_ret
      exact ⟨rfl, HB.out⟩
    · have hr : folB a b = (b == 100 * (a / 100 + 1) + 1) := by unfold folB; rw [if_neg h1, if_neg h2]
      have d2 : (a == 1231) = false := beq_eq_false_iff_ne.2 h2
      have e1 : a.tdiv 100 = a / 100 := Int.tdiv_eq_ediv_of_nonneg (by omega)
      have w2 : wrap64 (a.tdiv 100) = a / 100 := by rw [e1]; exact wrapOk (by omega) (by omega)
      have w3 : wrap64 (a / 100 + 1) = a / 100 + 1 := wrapOk (by omega) (by omega)
      have w4 : wrap64 (100 * (a / 100 + 1)) = 100 * (a / 100 + 1) := wrapOk (by omega) (by omega)
      have w5 : wrap64 (100 * (a / 100 + 1) + 1) = 100 * (a / 100 + 1) + 1 := wrapOk (by omega) (by omega)
      rw [hr]
      obtain ⟨a1, ha1⟩ : ∃ a1, a + 1 = a1 := ⟨_, rfl⟩
      have wa : wrap64 (a + 1) = a1 := w1.trans ha1
      rw [ha1] at HM
      obtain ⟨q, hq⟩ : ∃ q, a / 100 = q := ⟨_, rfl⟩
      have v2 : wrap64 (a.tdiv 100) = q := w2.trans hq
      rw [hq] at w3 w4 w5 ⊢
      obtain ⟨q1, hq1⟩ : ∃ q1, q + 1 = q1 := ⟨_, rfl⟩
      have v3 : wrap64 (q + 1) = q1 := w3.trans hq1
      rw [hq1] at w4 w5 ⊢
      obtain ⟨q2, hq2⟩ : ∃ q2, 100 * q1 = q2 := ⟨_, rfl⟩
      have v4 : wrap64 (100 * q1) = q2 := w4.trans hq2
      rw [hq2] at w5 ⊢
      obtain ⟨q3, hq3⟩ : ∃ q3, q2 + 1 = q3 := ⟨_, rfl⟩
      have v5 : wrap64 (q2 + 1) = q3 := w5.trans hq3
      rw [hq3]
      have hlo : 0 ≤ a := by omega
      clear ha h1 h1' hr h2 w1 ha1 w2 w3 w4 w5 hq hq1 hq2 hq3 e1 hrg
      go_enter Tryd.func23, Tryd.ntmps23
      go_wp2_with fail
      refine (HM.out _).mono ?_
      rintro e w6 ⟨rfl, hb⟩
      have HB := Lib.hid hb
      clear hb
      go_wp2_with fail
      --GG2
      go_ret
      exact ⟨rfl, HB.out⟩
theorem before_any (a : Int) (ha : mdI a = true) (w : World) : Calls Tryd.prog 24 #[.int .i64 a] w fun e w' => e = .returned (.int .i64 (befI a)) ∧ Below w.heap.size w w' := by
  have hrg := mdI_range ha
  by_cases h1 : a = 101
  · have hr : befI a = 1231 := by unfold befI; rw [if_pos h1]
    have d1 : (a == 101) = true := beq_iff_eq.2 h1
    rw [hr]
    clear hrg ha hr h1
    go_enter Tryd.func24, Tryd.ntmps24
    go_wp2_with fail
    go_ret
    exact ⟨rfl, below_self _⟩
  · have d1 : (a == 101) = false := beq_eq_false_iff_ne.2 h1
    obtain ⟨r, hrr⟩ : ∃ r, a % 100 = r := ⟨_, rfl⟩
    have hm : a.tmod 100 = r := by rw [Int.tmod_eq_emod_of_nonneg (by omega)]; exact hrr
    have h0 : 0 ≤ a := by omega
    by_cases h2 : 1 < r
    · have hr : befI a = a - 1 := by unfold befI; rw [if_neg h1, if_pos (by omega)]
      have d2 := decide_eq_true h2
      have w1 : wrap64 (a - 1) = a - 1 := wrapOk (by omega) (by omega)
      obtain ⟨b, hb⟩ : ∃ b, a - 1 = b := ⟨_, rfl⟩
      have v1 : wrap64 (a - 1) = b := w1.trans hb
      rw [hr, hb]
      clear hrg ha hr h1 h2 w1 hb
      go_enter Tryd.func24, Tryd.ntmps24
      go_wp2_with fail
      go_ret
      exact ⟨ret_i v1, below_self _⟩
    · have hr : befI a = 100 * (a / 100 - 1) + lenI 2000 (a / 100 - 1) := by unfold befI; rw [if_neg h1, if_neg (by omega)]
      have d2 := decide_eq_false h2
      obtain ⟨q, hq⟩ : ∃ q, a / 100 = q := ⟨_, rfl⟩
      have hq2 : 1 ≤ q ∧ q ≤ 12 := by omega
      have w1 : wrap64 (a.tdiv 100) = q := by rw [Int.tdiv_eq_ediv_of_nonneg (by omega), hq]; exact wrapOk (by omega) (by omega)
      have w2 : wrap64 (q - 1) = q - 1 := wrapOk (by omega) (by omega)
      rw [hr, hq]
      obtain ⟨p, hp⟩ : ∃ p, q - 1 = p := ⟨_, rfl⟩
      have v2 : wrap64 (q - 1) = p := w2.trans hp
      have HL := Lib.hid (fun W => length_any 2000 p W)
      have hl : 0 ≤ lenI 2000 p ∧ lenI 2000 p ≤ 31 := by unfold lenI; repeat' split; all_goals omega
      have w3 : wrap64 (100 * p) = 100 * p := wrapOk (by omega) (by omega)
      rw [hp]
      obtain ⟨l, hle⟩ : ∃ l, lenI 2000 p = l := ⟨_, rfl⟩
      rw [hle] at hl HL ⊢
      have w4 : wrap64 (100 * p + l) = 100 * p + l := wrapOk (by omega) (by omega)
      obtain ⟨c, hc⟩ : ∃ c, 100 * p = c := ⟨_, rfl⟩
      have v3 : wrap64 (100 * p) = c := w3.trans hc
      rw [hc] at w4 ⊢
      obtain ⟨z, hz⟩ : ∃ z, c + l = z := ⟨_, rfl⟩
      have v4 : wrap64 (c + l) = z := w4.trans hz
      rw [hz]
      clear hrg ha hr h1 h2 w2 w3 w4 hq hq2 hp hl hle hc hz hrr
      go_enter Tryd.func24, Tryd.ntmps24
      go_wp2_with fail
      refine (HL.out _).mono ?_
      rintro e w2 ⟨rfl, rfl⟩
      go_wp2_with fail
      go_ret
      exact ⟨by first | rfl | exact ret_i v4 | exact ret_i v3, below_self _⟩
end Go.Proofs.YtanjkjendppigaaDoor.Dy
