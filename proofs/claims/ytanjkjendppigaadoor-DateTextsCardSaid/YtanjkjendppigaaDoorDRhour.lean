/- The reference's Hour gives what Hour gives. Conditions: none beyond those of each lemma. -/
import Derived.Test.YtanjkjendppigaaDoorDHourM
namespace Go.Proofs.YtanjkjendppigaaDoor.Dy
open Go.RowKit Cal
set_option linter.unusedVariables false
set_option maxRecDepth 100000

section
variable {y m d h : Int} {w : World}
theorem rhour_valid (hv : validB y m d h = false) : Calls Tryd.prog 13 #[dv y m d h] w fun e w' => e = .returned (.tuple #[.int .i64 0, .bool false]) ∧ Below w.heap.size w w' := by
  have HV := Lib.hid (fun W => valid_any y m d h W)
  rw [hv] at HV
  unfold dv at *
  clear hv
  go_enter Tryd.func13, Tryd.ntmps13
  go_wp2_with fail
  refine (HV.out _).mono ?_
  rintro e w2 ⟨rfl, hb⟩
  have HB := Lib.hid (below_trans (below_alloc _ _) hb)
  clear hb
  go_wp2_with fail
  go_ret2
  exact ⟨rfl, HB.out⟩
theorem rhour_low (hv : validB y m d h = true) (hy : y < 2000) : Calls Tryd.prog 13 #[dv y m d h] w fun e w' => e = .returned (.tuple #[.int .i64 0, .bool false]) ∧ Below w.heap.size w w' := by
  have HV := Lib.hid (fun W => valid_any y m d h W)
  rw [hv] at HV
  have d1 := decide_eq_true hy
  unfold dv at *
  clear hv hy
  go_enter Tryd.func13, Tryd.ntmps13
  go_wp2_with fail
  refine (HV.out _).mono ?_
  rintro e w2 ⟨rfl, hb⟩
  have HB := Lib.hid (below_trans (below_alloc _ _) hb)
  have HK := Lib.hid ((Blk.new w 23 #[.int .i64 y, .int .i64 m, .int .i64 d, .int .i64 h]).below hb (Nat.le_refl _))
  have c0 := HK.out.cell 0
  clear hb
  go_wp2_with fail
  go_ret2
  exact ⟨rfl, HB.out⟩
theorem rhour_high (hv : validB y m d h = true) (hy : ¬ y < 2000) (hy2 : 4000 < y) : Calls Tryd.prog 13 #[dv y m d h] w fun e w' => e = .returned (.tuple #[.int .i64 0, .bool false]) ∧ Below w.heap.size w w' := by
  have HV := Lib.hid (fun W => valid_any y m d h W)
  rw [hv] at HV
  have d1 := decide_eq_false hy
  have d2 := decide_eq_true hy2
  unfold dv at *
  clear hv hy hy2
  go_enter Tryd.func13, Tryd.ntmps13
  go_wp2_with fail
  refine (HV.out _).mono ?_
  rintro e w2 ⟨rfl, hb⟩
  have HB := Lib.hid (below_trans (below_alloc _ _) hb)
  have HK := Lib.hid ((Blk.new w 23 #[.int .i64 y, .int .i64 m, .int .i64 d, .int .i64 h]).below hb (Nat.le_refl _))
  have c0 := HK.out.cell 0
  clear hb
  go_wp2_with fail
  go_ret2
  exact ⟨rfl, HB.out⟩
end
theorem wrapOk {x : Int} (h1 : 0 ≤ x) (h2 : x ≤ 1000000000) : wrap64 x = x := by unfold wrap64; omega
/-- A date's block; nothing else is new. -/
structure Mr (w : World) (g : Nat) (cs : Array Value) (W : World) : Prop where
  blk : Blk W g 23 cs
  bel : Below w.heap.size w W
set_option maxHeartbeats 2000000 in
theorem rhour_good {y m d h : Nat} {w : World} (hv : validB y m d h = true) (hy : 2000 ≤ y) (hy2 : y ≤ 4000) :
    Calls Tryd.prog 13 #[dv y m d h] w fun e w' => e = .returned (if hourOf y m d h ≤ 16777216 then .tuple #[.int .i64 ((hourOf y m d h : Nat) : Int), .bool true] else .tuple #[.int .i64 0, .bool false]) ∧ Below w.heap.size w w' := by
  have HV := Lib.hid (fun W => valid_any (y : Int) (m : Int) (d : Int) (h : Int) W)
  have hvv : (1 ≤ (m : Int) ∧ (m : Int) ≤ 12 ∧ 1 ≤ (d : Int) ∧ (d : Int) ≤ lenI y m ∧ 0 ≤ (h : Int) ∧ (h : Int) ≤ 23) := of_decide_eq_true hv
  rw [hv] at HV
  have d1 : decide ((y : Int) < 2000) = false := decide_eq_false (by omega)
  have d2 : decide (4000 < (y : Int)) = false := decide_eq_false (by omega)
  have hdl : d ≤ 31 := by
    have h1 := hvv.2.2.2.1
    rw [lenI_nat] at h1
    have := len_le y m
    omega
  obtain ⟨n, hn⟩ : ∃ n, y = 2000 + n := ⟨y - 2000, by omega⟩
  obtain ⟨K, hK⟩ : ∃ K, 12 * n + (m - 1) = K := ⟨_, rfl⟩
  have HKK := Lib.hid (show K = 12 * n + (m - 1) ∧ y = 2000 + n ∧ n ≤ 2000 ∧ 1 ≤ m ∧ m ≤ 12 ∧ 1 ≤ d ∧ d ≤ 31 ∧ h ≤ 23 ∧ K ≤ 24012 by omega)
  have HH := Lib.hid (show hourOf y m d h = 24 * (S K + (d - 1)) + h by
    unfold hourOf
    rw [hn, show 2000 + n - 2000 = n by omega, hK])
  have HSK := Lib.hid (fun k (hk : k ≤ K) => (show S k ≤ 800000 by
    have h1 := S_mono (show k ≤ 12 * 2001 by omega)
    rw [S_year] at h1
    have : ys 2001 = 730851 := by decide
    omega))
  have HLN := Lib.hid (fun a b W => length_t a b W)
  obtain ⟨z, hz⟩ : ∃ z, hourOf y m d h = z := ⟨_, rfl⟩
  rw [hz] at HH ⊢
  obtain ⟨rv, hrv⟩ : ∃ rv : Value, (if z ≤ 16777216 then Value.tuple #[.int .i64 ((z : Nat) : Int), .bool true] else .tuple #[.int .i64 0, .bool false]) = rv := ⟨_, rfl⟩
  rw [hrv]
  have HRV := Lib.hid hrv
  clear hrv
  have HD1 := Lib.hid (show wrap64 (((d : Nat) : Int) - 1) = ((S 0 + (d - 1) : Nat) : Int) by have := HKK.out; show _ = ((0 + (d - 1) : Nat) : Int); unfold wrap64; omega)
  unfold dv at *
  clear hv hy hy2 hvv hdl hn hK hz
  generalize hyi : ((y : Nat) : Int) = yi at *
  generalize hmi : ((m : Nat) : Int) = mi at *
  generalize hdi : ((d : Nat) : Int) = di at *
  generalize hhi : ((h : Nat) : Int) = hi at *
  have HYI := Lib.hid hyi
  have HMI := Lib.hid hmi
  have HHI := Lib.hid hhi
  clear hyi hmi hdi hhi
  go_enter Tryd.func13, Tryd.ntmps13
  go_wp2_with fail
  refine (HV.out _).mono ?_
  rintro e w2 ⟨rfl, hb⟩
  have HM := Lib.hid (show Mr w w.heap.size #[.int .i64 yi, .int .i64 mi, .int .i64 di, .int .i64 hi] w2 from ⟨(Blk.new w 23 #[.int .i64 yi, .int .i64 mi, .int .i64 di, .int .i64 hi]).below hb (Nat.le_refl _), below_trans (below_alloc _ _) hb⟩)
  have c0 := HM.out.blk.cell 0
  have c1 := HM.out.blk.cell 1
  have c2 := HM.out.blk.cell 2
  clear hb
  go_wp2_with fail
  clear c0 c1 c2
  obtain ⟨M, hM⟩ : ∃ M : Nat, 100000 ≤ M := ⟨_, Nat.le_refl _⟩
  have HMX := Lib.hid hM
  clear hM
  go_loopw [5, 6, 7] (fun vd vy vm W => ∃ k : Nat, vm = .int .i64 ((k % 12 + 1 : Nat) : Int) ∧ vy = .int .i64 ((2000 + k / 12 : Nat) : Int) ∧ vd = .int .i64 ((S k + (d - 1) : Nat) : Int) ∧ Hid (k ≤ K) ∧ Hid (Mr w w.heap.size #[.int .i64 yi, .int .i64 mi, .int .i64 di, .int .i64 hi] W)) (fun _ vy vm _ => M - (12 * (intOf vy).toNat + (intOf vm).toNat))
  case atStart => exact ⟨0, rfl, rfl, by rw [HD1.out], Lib.hid (Nat.zero_le _), HM⟩
  case round =>
    obtain ⟨k, rfl, rfl, rfl, HK, HV2⟩ := hrel
    have c0 := HV2.out.blk.cell 0
    have c1 := HV2.out.blk.cell 1
    have c3 := HV2.out.blk.cell 3
    have hSb := HSK.out k HK.out
    obtain ⟨a, ha⟩ : ∃ a, 2000 + k / 12 = a := ⟨_, rfl⟩
    obtain ⟨b, hb⟩ : ∃ b, k % 12 + 1 = b := ⟨_, rfl⟩
    obtain ⟨E, hE⟩ : ∃ E, S k + (d - 1) = E := ⟨_, rfl⟩
    obtain ⟨l, hl⟩ : ∃ l, len a b = l := ⟨_, rfl⟩
    have hLW := fun W => HLN.out a b W
    rw [hl] at hLW
    have HLW := Lib.hid hLW
    have HS := Lib.hid (show S (k + 1) = S k + l by rw [S_succ, ha, hb, hl])
    have hl31 : l ≤ 31 := by rw [← hl]; exact len_le _ _
    have HYM := Lib.hid (show b ≤ 12 ∧ 1 ≤ b ∧ 2000 ≤ a ∧ a ≤ 100000 ∧ (b < 12 → 2000 + (k + 1) / 12 = a ∧ (k + 1) % 12 + 1 = b + 1) ∧ (b = 12 → 2000 + (k + 1) / 12 = a + 1 ∧ (k + 1) % 12 + 1 = 1) ∧ 12 * (a - 2000) + b = k + 1 by
      have h1 := HK.out
      have h2 := HKK.out
      refine ⟨by omega, by omega, by omega, by omega, fun h => by omega, fun h => by omega, by omega⟩)
    have HE := Lib.hid (show E = S k + (d - 1) ∧ E ≤ 800030 by have := HKK.out; omega)
    have HAB := Lib.hid (show 2000 + k / 12 = a ∧ k % 12 + 1 = b from ⟨ha, hb⟩)
    have hsum : wrap64 (((E : Nat) : Int) + ((l : Nat) : Int)) = ((E + l : Nat) : Int) := by have := HE.out; unfold wrap64; omega
    have hm1 : wrap64 (((b : Nat) : Int) + 1) = ((b + 1 : Nat) : Int) := by have := HYM.out; unfold wrap64; omega
    have hy1 : wrap64 (((a : Nat) : Int) + 1) = ((a + 1 : Nat) : Int) := by have := HYM.out; unfold wrap64; omega
    have HSUM := Lib.hid hsum
    have HM1 := Lib.hid hm1
    have HY1 := Lib.hid hy1
    rw [ha, hb, hE]
    clear ha hb hE hl hLW hl31 hSb
    by_cases hlt : k < K
    · have HLT := Lib.hid hlt
      have HNX := Lib.hid (show E + l = S (k + 1) + (d - 1) by have h1 := HS.out; have h2 := HE.out; omega)
      have hcond : (a : Int) < yi ∨ ¬ (a : Int) < yi ∧ (b : Int) < mi := by
        have h1 := HYM.out
        have h2 := HKK.out
        have h3 := HYI.out
        have h4 := HMI.out
        omega
      clear hlt
      rcases hcond with hca | ⟨hca, hcb⟩
      · have da := decide_eq_true hca
        by_cases h12 : b = 12
        · have d12 : decide ((12 : Int) < ((b : Nat) : Int) + 1) = true := decide_eq_true (by omega)
          have H12 := Lib.hid h12
          clear h12 hca
          go_wp2_with fail
          refine (HLW.out _).mono ?_
          rintro e w3 ⟨rfl, rfl⟩
          go_wp2_with fail
          go_roundw
          case rel => exact ⟨k + 1, by rw [(HYM.out.2.2.2.2.2.1 H12.out).2]; rfl, by rw [HY1.out, (HYM.out.2.2.2.2.2.1 H12.out).1], by rw [HSUM.out, HNX.out], Lib.hid HLT.out, HV2⟩
          case measure =>
            have h1 := HYM.out
            have h2 := HLT.out
            have h3 := HKK.out
            have h4 := HMX.out
            have h5 := H12.out
            rw [HY1.out]
            simp [intOf]
            omega
        · have d12 : decide ((12 : Int) < ((b : Nat) : Int) + 1) = false := decide_eq_false (by have := HYM.out; omega)
          have H12 := Lib.hid (show b < 12 by have := HYM.out; omega)
          clear h12 hca
          go_wp2_with fail
          refine (HLW.out _).mono ?_
          rintro e w3 ⟨rfl, rfl⟩
          go_wp2_with fail
          go_roundw
          case rel => exact ⟨k + 1, by rw [HM1.out, (HYM.out.2.2.2.2.1 H12.out).2], by rw [(HYM.out.2.2.2.2.1 H12.out).1], by rw [HSUM.out, HNX.out], Lib.hid HLT.out, HV2⟩
          case measure =>
            have h1 := HYM.out
            have h2 := HLT.out
            have h3 := HKK.out
            have h4 := HMX.out
            have h5 := H12.out
            rw [HM1.out]
            simp [intOf]
            omega
      · have da := decide_eq_false hca
        have db := decide_eq_true hcb
        have d12 : decide ((12 : Int) < ((b : Nat) : Int) + 1) = false := decide_eq_false (by have h2 := HKK.out; have h4 := HMI.out; omega)
        have H12 := Lib.hid (show b < 12 by have h2 := HKK.out; have h4 := HMI.out; omega)
        clear hca hcb
        go_wp2_with fail
        refine (HLW.out _).mono ?_
        rintro e w3 ⟨rfl, rfl⟩
        go_wp2_with fail
        go_roundw
        case rel => exact ⟨k + 1, by rw [HM1.out, (HYM.out.2.2.2.2.1 H12.out).2], by rw [(HYM.out.2.2.2.2.1 H12.out).1], by rw [HSUM.out, HNX.out], Lib.hid HLT.out, HV2⟩
        case measure =>
          have h1 := HYM.out
          have h2 := HLT.out
          have h3 := HKK.out
          have h4 := HMX.out
          have h5 := H12.out
          rw [HM1.out]
          simp [intOf]
          omega
    · have da : decide ((a : Int) < yi) = false := decide_eq_false (by have h1 := HYM.out; have h2 := HKK.out; have h3 := HYI.out; have h4 := HK.out; omega)
      have db : decide ((b : Int) < mi) = false := decide_eq_false (by have h1 := HYM.out; have h2 := HKK.out; have h3 := HMI.out; have h4 := HK.out; omega)
      have hz : z = 24 * E + h := by
        have h1 := HH.out
        have h2 := HE.out.1
        have h3 := HK.out
        rw [show K = k by omega] at h1
        rw [h2]
        exact h1
      have hEb := HE.out.2
      have hhb := HKK.out.2.2.2.2.2.2.2.1
      have hhi := HHI.out
      have m24 : wrap64 (24 * ((E : Nat) : Int)) = 24 * ((E : Nat) : Int) := wrapOk (by omega) (by omega)
      have e24 : 24 * ((E : Nat) : Int) + hi = ((z : Nat) : Int) := by omega
      have a24 : wrap64 ((z : Nat) : Int) = ((z : Nat) : Int) := wrapOk (by omega) (by omega)
      have a25 : wrap64 (wrap64 (24 * ((E : Nat) : Int)) + hi) = ((z : Nat) : Int) := by rw [m24, e24, a24]
      have A25 := Lib.hid a25
      have A27 := Lib.hid (show wrap64 (24 * ((E : Nat) : Int) + hi) = ((z : Nat) : Int) by rw [e24, a24])
      clear e24 hhi
      clear hz hEb hhb hlt a24 a25 m24
      by_cases hz : z ≤ 16777216
      · have HRZ := Lib.hid (show rv = .tuple #[.int .i64 ((z : Nat) : Int), .bool true] by rw [← HRV.out, if_pos hz])
        have dz : decide ((16777216 : Int) < wrap64 (wrap64 (24 * ((E : Nat) : Int)) + hi)) = false := decide_eq_false (by rw [A25.out]; omega)
        clear hz
        go_wp2_with fail
        --GG
        go_ret2
        exact ⟨by rw [HRZ.out]; first | rfl | (rw [← A27.out]; rfl) | (rw [← A25.out]; rfl), HV2.out.bel⟩
      · have HRZ := Lib.hid (show rv = .tuple #[.int .i64 0, .bool false] by rw [← HRV.out, if_neg hz])
        have dz : decide ((16777216 : Int) < wrap64 (wrap64 (24 * ((E : Nat) : Int)) + hi)) = true := decide_eq_true (by rw [A25.out]; omega)
        clear hz
        go_wp2_with fail
        go_ret2
        exact ⟨by rw [HRZ.out]; rfl, HV2.out.bel⟩
theorem rhour_any (y m d h : Int) (w : World) : Calls Tryd.prog 13 #[dv y m d h] w fun e w' => e = .returned (hourV y m d h) ∧ Below w.heap.size w w' := by
  by_cases hv : validB y m d h = true
  · have hvv : (1 ≤ m ∧ m ≤ 12 ∧ 1 ≤ d ∧ d ≤ lenI y m ∧ 0 ≤ h ∧ h ≤ 23) := of_decide_eq_true hv
    by_cases h1 : y < 2000
    · rw [hourV_none (by unfold okI; omega)]; exact rhour_low hv h1
    · by_cases h2 : 4000 < y
      · rw [hourV_none ?_]
        · exact rhour_high hv h1 h2
        · intro hc
          have := far_hour (m := m.toNat) (d := d.toNat) (h := h.toNat) (show 3916 ≤ y.toNat by omega)
          have := hc.2
          omega
      · obtain ⟨yn, rfl⟩ : ∃ n : Nat, y = (n : Int) := ⟨y.toNat, by omega⟩
        obtain ⟨mn, rfl⟩ : ∃ n : Nat, m = (n : Int) := ⟨m.toNat, by omega⟩
        obtain ⟨dn, rfl⟩ : ∃ n : Nat, d = (n : Int) := ⟨d.toNat, by omega⟩
        obtain ⟨hn, rfl⟩ : ∃ n : Nat, h = (n : Int) := ⟨h.toNat, by omega⟩
        have hg := rhour_good (w := w) hv (by omega) (by omega)
        by_cases h6 : hourOf yn mn dn hn ≤ 16777216
        · rw [if_pos h6] at hg
          rw [hourV_some ⟨by omega, by simpa using h6⟩]
          simpa using hg
        · rw [if_neg h6] at hg
          rw [hourV_none (fun hc => h6 (by simpa using hc.2))]
          exact hg
  · have hv' : validB y m d h = false := by simpa using hv
    have hc := of_decide_eq_false hv'
    rw [hourV_none ?_]
    · exact rhour_valid hv'
    · rintro ⟨⟨a1, a2, a3, a4, a5, a6⟩, _⟩
      exact hc ⟨a2, a3, a4, a5, a6⟩
end Go.Proofs.YtanjkjendppigaaDoor.Dy
