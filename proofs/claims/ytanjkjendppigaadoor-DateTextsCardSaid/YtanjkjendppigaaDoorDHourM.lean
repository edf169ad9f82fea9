/- Hour at valid dates. Conditions: the listed variables hold what the text gives them. -/
import Derived.Test.YtanjkjendppigaaDoorDHour
namespace Go.Proofs.YtanjkjendppigaaDoor.Dy
open Go.RowKit Cal
set_option linter.unusedVariables false
set_option maxRecDepth 100000

set_option maxHeartbeats 2000000 in
theorem hour_good {y m d h : Nat} {w : World} (hW : Wd w) (hy : 2000 ≤ y) (hy2 : y ≤ 3915) (h1 : 1 ≤ m) (h2 : m ≤ 12) (hmd : mdB (m : Int) (d : Int) = true) (hd1 : 1 ≤ d) (hd : d ≤ len y m) (hh : h < 24) :
    Calls Tryd.prog 12 #[dv y m d h] w fun e w' => e = .returned (if hourOf y m d h ≤ 16777216 then .tuple #[.int .i64 ((hourOf y m d h : Nat) : Int), .bool true] else .tuple #[.int .i64 0, .bool false]) ∧ Below w.heap.size w w' := by
  have d1 : decide ((y : Int) < 2000) = false := decide_eq_false (by omega)
  have d2 : decide (3915 < (y : Int)) = false := decide_eq_false (by omega)
  have HQ := Lib.hid (fun W hW => md_q (m : Int) (d : Int) W hW)
  have HL := Lib.hid (fun W hW => ml_q y m h1 h2 W hW)
  have HLI := Lib.hid (fun i (hi : 1 ≤ i ∧ i ≤ 12) W hW => ml_q y i hi.1 hi.2 W hW)
  have HYS := Lib.hid (fun W => ys_q y hy (by omega) W)
  have d3 : decide (((len y m : Nat) : Int) < (d : Int)) = false := decide_eq_false (by omega)
  have d4 : decide ((h : Int) < 0) = false := decide_eq_false (by omega)
  have d5 : decide (24 ≤ (h : Int)) = false := decide_eq_false (by omega)
  rw [hmd] at HQ
  obtain ⟨n, hn⟩ : ∃ n, y = 2000 + n := ⟨y - 2000, by omega⟩
  have hdl := len_le y m
  obtain ⟨B, hB⟩ : ∃ B, ys (y - 2000) = B := ⟨_, rfl⟩
  have HB := Lib.hid (show B = S (12 * n) ∧ B ≤ 702000 by
    rw [← hB, hn, show 2000 + n - 2000 = n by omega]
    exact ⟨(S_year n).symm, by have := ys_le n; omega⟩)
  have HH := Lib.hid (show hourOf y m d h = 24 * (S (12 * n + (m - 1)) + (d - 1)) + h ∧ h < 24 ∧ 1 ≤ d ∧ d ≤ 31 ∧ 1 ≤ m ∧ m ≤ 12 by
    refine ⟨?_, hh, hd1, by omega, h1, h2⟩
    unfold hourOf
    rw [hn, show 2000 + n - 2000 = n by omega])
  have HLS := Lib.hid (fun i (hi : 1 ≤ i ∧ i ≤ 12) => (show S (12 * n + i) = S (12 * n + (i - 1)) + len y i by
    have h := S_in n (i - 1) (by omega)
    rw [show 12 * n + (i - 1) + 1 = 12 * n + i by omega, ← hn, show i - 1 + 1 = i by omega] at h
    exact h))
  have HLL := Lib.hid (fun i => len_le y i)
  have HBI := Lib.hid (fun i (hi : i ≤ 12) => (show S (12 * n + i) ≤ 702000 by
    have h1 := S_mono (show 12 * n + i ≤ 12 * (n + 1) by omega)
    rw [S_year] at h1
    have := ys_le (n + 1)
    omega))
  have hwd0 : wrap64 ((B : Int) + (d : Int)) = ((B + d : Nat) : Int) := by have := HB.out; unfold wrap64; omega
  have hwd1 : wrap64 (((B + d : Nat) : Int) - 1) = ((B + (d - 1) : Nat) : Int) := by have := HB.out; unfold wrap64; omega
  rw [hB] at HYS
  have HWD := Lib.hid (show Wd (w.alloc (.cells #[.int .i64 (y : Int), .int .i64 (m : Int), .int .i64 (d : Int), .int .i64 (h : Int)] 23)) from hW.below (below_alloc _ _))
  obtain ⟨z, hz⟩ : ∃ z, hourOf y m d h = z := ⟨_, rfl⟩
  rw [hz] at HH ⊢
  obtain ⟨rv, hrv⟩ : ∃ rv : Value, (if z ≤ 16777216 then Value.tuple #[.int .i64 ((z : Nat) : Int), .bool true] else .tuple #[.int .i64 0, .bool false]) = rv := ⟨_, rfl⟩
  rw [hrv]
  have HRV := Lib.hid hrv
  clear hrv
  have HM0 := Lib.hid (show Mh w w.heap.size #[.int .i64 (y : Int), .int .i64 (m : Int), .int .i64 (d : Int), .int .i64 (h : Int)] (w.alloc (.cells #[.int .i64 (y : Int), .int .i64 (m : Int), .int .i64 (d : Int), .int .i64 (h : Int)] 23)) from ⟨Blk.new _ _ _, below_alloc _ _, HWD.out⟩)
  unfold dv
  clear hy hy2 hmd hW hd h1 h2 hd1 hh hn hB hdl hz
  generalize ((len y m : Nat) : Int) = li at *
  generalize hyi : ((y : Nat) : Int) = yi at *
  generalize hmi : ((m : Nat) : Int) = mi at *
  generalize hdi : ((d : Nat) : Int) = di at *
  generalize hhi : ((h : Nat) : Int) = hi at *
  have HMI := Lib.hid hmi
  have HHI := Lib.hid hhi
  clear hyi hmi hdi hhi
  go_enter Tryd.func12, Tryd.ntmps12
  go_wp2_with fail
  go_quiet (first | (refine (HQ.out _ (HWD.out.drewN _)).mono ?_; rintro e w' ⟨he, hw⟩; exact ⟨he, _, hw⟩) | (refine (HL.out _ (HWD.out.drewN _)).mono ?_; rintro e w' ⟨he, hw⟩; exact ⟨he, _, hw⟩))
  go_wp2_with fail
  go_quiet ((refine (HYS.out _).mono ?_; rintro e w' ⟨he, hw⟩; exact ⟨he, _, hw⟩))
  go_wp2_with fail
  have HW1D := Lib.hid (show wrap64 (((B : Nat) : Int) + ((d : Nat) : Int) - 1) = ((S (12 * n + (1 - 1)) + (d - 1) : Nat) : Int) by
    have h1 := HB.out
    have h2 := HH.out
    show _ = ((S (12 * n) + (d - 1) : Nat) : Int)
    rw [← h1.1]
    unfold wrap64
    omega)
  clear hwd0 hwd1
  go_loopw [4, 5] (fun vd vi W => ∃ i : Nat, vi = .int .i64 (i : Int) ∧ vd = .int .i64 ((S (12 * n + (i - 1)) + (d - 1) : Nat) : Int) ∧ Hid (1 ≤ i ∧ i ≤ m) ∧ Hid (Mh w w.heap.size #[.int .i64 yi, .int .i64 mi, .int .i64 di, .int .i64 hi] W)) (fun _ vi _ => m - (intOf vi).toNat)
  case atStart => exact ⟨1, rfl, by rw [HW1D.out], Lib.hid ⟨Nat.le_refl _, HH.out.2.2.2.2.1⟩, Lib.hid ((HM0.out.drewN _).drewN _)⟩
  case round =>
    obtain ⟨i, rfl, rfl, HC, HV⟩ := hrel
    have c0 := HV.out.blk.cell 0
    have c1 := HV.out.blk.cell 1
    have c3 := HV.out.blk.cell 3
    by_cases hlt : i < m
    · have dlt : decide ((i : Int) < mi) = true := decide_eq_true (by have := HMI.out; omega)
      have HLT := Lib.hid hlt
      obtain ⟨l, hl⟩ : ∃ l, len y i = l := ⟨_, rfl⟩
      have hLW := HLI.out i (by have h1 := HC.out; have h2 := HH.out; omega)
      have hS := HLS.out i (by have h1 := HC.out; have h2 := HH.out; omega)
      have hl31 := HLL.out i
      rw [hl] at hLW hS hl31
      have HLW := Lib.hid hLW
      have HS := Lib.hid hS
      have hsum : wrap64 (((S (12 * n + (i - 1)) + (d - 1) : Nat) : Int) + ((l : Nat) : Int)) = ((S (12 * n + i) + (d - 1) : Nat) : Int) := by
        have h1 := HBI.out (i - 1) (by have h1 := HC.out; have h2 := HH.out; omega)
        have h2 := HH.out
        unfold wrap64
        omega
      have hi1 : wrap64 (((i : Nat) : Int) + 1) = ((i + 1 : Nat) : Int) := by have h1 := HC.out; have h2 := HH.out; unfold wrap64; omega
      have HSUM := Lib.hid hsum
      have HI1 := Lib.hid hi1
      generalize hE : S (12 * n + (i - 1)) + (d - 1) = E at *
      clear hl hLW hS hl31 hlt hE
      go_wp2_with fail
      refine (HLW.out _ HV.out.wd).mono ?_
      rintro e w2 ⟨rfl, rfl⟩
      go_wp2_with fail
      go_roundw
      case rel => exact ⟨i + 1, by rw [HI1.out], by rw [HSUM.out]; rfl, Lib.hid ⟨by omega, by have := HLT.out; omega⟩, HV⟩
      case measure =>
        have h1 := HLT.out
        rw [HI1.out]
        simp [intOf]
        omega
    · have dlt : decide ((i : Int) < mi) = false := decide_eq_false (by have := HMI.out; omega)
      have hE : S (12 * n + (i - 1)) + (d - 1) ≤ 702031 := by
        have h1 := HBI.out (i - 1) (by have h1 := HC.out; have h2 := HH.out; omega)
        have h2 := HH.out
        omega
      have hz : z = 24 * (S (12 * n + (i - 1)) + (d - 1)) + h := by
        have h1 := HH.out.1
        rw [show i = m by have := HC.out; omega]
        exact h1
      generalize S (12 * n + (i - 1)) + (d - 1) = E at *
      have m24 : wrap64 (((E : Nat) : Int) * 24) = ((E * 24 : Nat) : Int) := by unfold wrap64; omega
      have a24 : wrap64 (((E * 24 : Nat) : Int) + hi) = ((z : Nat) : Int) := by have h1 := HHI.out; have h2 := HH.out; rw [← h1]; unfold wrap64; omega
      have a25 : wrap64 (((E : Nat) : Int) * 24 + hi) = ((z : Nat) : Int) := by have h1 := HHI.out; have h2 := HH.out; rw [← h1]; unfold wrap64; omega
      have HI := Lib.hid (fun W => isHour_any (z : Int) W)
      clear hz hE hlt
      by_cases hz : z ≤ 16777216
      · have HRZ := Lib.hid (show rv = .tuple #[.int .i64 ((z : Nat) : Int), .bool true] by rw [← HRV.out, if_pos hz])
        rw [show isH (z : Int) = true from decide_eq_true (by omega)] at HI
        clear hz
        go_wp2_with fail
        --GG
        refine (HI.out _).mono ?_
        rintro e w2 ⟨rfl, hw2⟩
        have HV2 := Lib.hid (hw2 ▸ HV.out)
        clear hw2
        go_wp2_with fail
        go_ret2
        exact ⟨by rw [HRZ.out]; rfl, HV2.out.bel⟩
      · have HRZ := Lib.hid (show rv = .tuple #[.int .i64 0, .bool false] by rw [← HRV.out, if_neg hz])
        rw [show isH (z : Int) = false from decide_eq_false (by omega)] at HI
        clear hz
        go_wp2_with fail
        refine (HI.out _).mono ?_
        rintro e w2 ⟨rfl, hw2⟩
        have HV2 := Lib.hid (hw2 ▸ HV.out)
        clear hw2
        go_wp2_with fail
        go_ret2
        exact ⟨by rw [HRZ.out]; rfl, HV2.out.bel⟩
theorem hour_any (y m d h : Int) (w : World) (hW : Wd w) : Calls Tryd.prog 12 #[dv y m d h] w fun e w' => e = .returned (hourV y m d h) ∧ Below w.heap.size w w' := by
  by_cases h1 : y < 2000
  · rw [hourV_none (by unfold okI; omega)]; exact hour_low h1
  · by_cases h2 : 3915 < y
    · rw [hourV_none ?_]
      · exact hour_high h1 h2
      · intro hc
        have := far_hour (m := m.toNat) (d := d.toNat) (h := h.toNat) (show 3916 ≤ y.toNat by omega)
        have := hc.2
        omega
    · by_cases h3 : mdB m d = true
      · have hm : 1 ≤ m ∧ m ≤ 12 ∧ 1 ≤ d ∧ d ≤ ((len 2000 m.toNat : Nat) : Int) := of_decide_eq_true h3
        obtain ⟨yn, rfl⟩ : ∃ n : Nat, y = (n : Int) := ⟨y.toNat, by omega⟩
        obtain ⟨mn, rfl⟩ : ∃ n : Nat, m = (n : Int) := ⟨m.toNat, by omega⟩
        obtain ⟨dn, rfl⟩ : ∃ n : Nat, d = (n : Int) := ⟨d.toNat, by omega⟩
        have hl := lenI_nat yn mn
        by_cases h4 : len yn mn < dn
        · rw [hourV_none (by unfold okI; omega)]
          exact hour_day hW (by omega) (by omega) (by omega) (by omega) h3 h4
        · by_cases h5 : h < 0 ∨ 24 ≤ h
          · rw [hourV_none (by unfold okI; omega)]
            exact hour_hh hW (by omega) (by omega) (by omega) (by omega) h3 (by omega) h5
          · obtain ⟨hn, rfl⟩ : ∃ n : Nat, h = (n : Int) := ⟨h.toNat, by omega⟩
            have hg := hour_good hW (y := yn) (h := hn) (by omega) (by omega) (by omega) (by omega) h3 (by omega) (by omega) (by omega)
            by_cases h6 : hourOf yn mn dn hn ≤ 16777216
            · rw [if_pos h6] at hg
              rw [hourV_some ⟨by omega, by simpa using h6⟩]
              simpa using hg
            · rw [if_neg h6] at hg
              rw [hourV_none (fun hc => h6 (by simpa using hc.2))]
              exact hg
      · have h3' : mdB m d = false := by simpa using h3
        have hc := of_decide_eq_false h3'
        rw [hourV_none ?_]
        · exact hour_md hW h1 h2 h3'
        · rintro ⟨⟨a1, a2, a3, a4, a5, _⟩, _⟩
          have := lenI_le y m a2 a3
          exact hc ⟨a2, a3, a4, by omega⟩
end Go.Proofs.YtanjkjendppigaaDoor.Dy
