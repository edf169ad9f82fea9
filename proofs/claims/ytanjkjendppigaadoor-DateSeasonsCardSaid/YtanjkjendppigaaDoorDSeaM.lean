/- Plain mathematics of seasons: month-days, the one that follows, the one before, and two seasons that make the year. Conditions: those of each lemma. -/
import Derived.Test.YtanjkjendppigaaDoorDDet
namespace Go.Proofs.YtanjkjendppigaaDoor.Dy
open Go.RowKit Cal
set_option linter.unusedVariables false

/-- A month-day, taken apart. -/
theorem mdI_iff (n : Int) : mdI n = true ↔ ∃ m d : Nat, n = 100 * (m : Int) + (d : Int) ∧ 1 ≤ m ∧ m ≤ 12 ∧ 1 ≤ d ∧ d ≤ len 2000 m := by
  unfold mdI mdB
  rw [decide_eq_true_eq]
  constructor
  · rintro ⟨h1, h2, h3, h4⟩
    have h0 : 0 ≤ n := by
      by_cases h : 0 ≤ n
      · exact h
      · exfalso
        obtain ⟨k, rfl⟩ : ∃ k, n = -k := ⟨-n, by omega⟩
        rw [Int.neg_tdiv, Int.tdiv_eq_ediv_of_nonneg (by omega)] at h1
        omega
    rw [Int.tdiv_eq_ediv_of_nonneg h0] at h1 h2 h4
    rw [Int.tmod_eq_emod_of_nonneg h0] at h3 h4
    refine ⟨(n / 100).toNat, (n % 100).toNat, by omega, by omega, by omega, by omega, by omega⟩
  · rintro ⟨m, d, rfl, h1, h2, h3, h4⟩
    have hl := len_le 2000 m
    rw [Int.tdiv_eq_ediv_of_nonneg (by omega), Int.tmod_eq_emod_of_nonneg (by omega)]
    have e1 : (100 * (m : Int) + (d : Int)) / 100 = (m : Int) := by omega
    have e2 : (100 * (m : Int) + (d : Int)) % 100 = (d : Int) := by omega
    rw [e1, e2, Int.toNat_natCast]
    omega
theorem mdI_range {n : Int} (h : mdI n = true) : 101 ≤ n ∧ n ≤ 1231 := by
  obtain ⟨m, d, rfl, h1, h2, h3, h4⟩ := (mdI_iff n).1 h
  have hl := len_le 2000 m
  omega
theorem mdI_mdB {m d : Int} (h1 : 1 ≤ m) (h2 : m ≤ 12) (h3 : 1 ≤ d) (h4 : d ≤ 31) : mdI (100 * m + d) = mdB m d := by
  unfold mdI
  rw [Int.tdiv_eq_ediv_of_nonneg (by omega), Int.tmod_eq_emod_of_nonneg (by omega)]
  have e1 : (100 * m + d) / 100 = m := by omega
  have e2 : (100 * m + d) % 100 = d := by omega
  rw [e1, e2]
def folB (a b : Int) : Bool := if mdI (a + 1) then a + 1 == b else if a = 1231 then b == 101 else b == 100 * (a / 100 + 1) + 1
def befI (a : Int) : Int := if a = 101 then 1231 else if 1 < a % 100 then a - 1 else 100 * (a / 100 - 1) + lenI 2000 (a / 100 - 1)
theorem fol_spec {u n : Int} (hu : mdI u = true) (h : folB u n = true) : (u = 1231 ∧ n = 101) ∨ (u < n ∧ ∀ z, mdI z = true → z ≤ u ∨ n ≤ z) := by
  unfold folB at h
  by_cases h1 : mdI (u + 1) = true
  · rw [if_pos h1] at h
    have := beq_iff_eq.1 h
    exact Or.inr ⟨by omega, fun z _ => by omega⟩
  · rw [if_neg h1] at h
    by_cases h2 : u = 1231
    · rw [if_pos h2] at h
      exact Or.inl ⟨h2, beq_iff_eq.1 h⟩
    · rw [if_neg h2] at h
      have hn := beq_iff_eq.1 h
      obtain ⟨m, d, rfl, k1, k2, k3, k4⟩ := (mdI_iff u).1 hu
      have hl := len_le 2000 m
      have hd : d = len 2000 m := by
        rcases Nat.lt_or_ge d (len 2000 m) with hlt | hge
        · exact absurd ((mdI_iff _).2 ⟨m, d + 1, by omega, k1, k2, by omega, by omega⟩) h1
        · omega
      have hn2 : n = 100 * ((m : Int) + 1) + 1 := by omega
      refine Or.inr ⟨by omega, fun z hz => ?_⟩
      obtain ⟨mz, dz, rfl, z1, z2, z3, z4⟩ := (mdI_iff z).1 hz
      have hlz := len_le 2000 mz
      rcases Nat.lt_trichotomy mz m with hc | hc | hc
      · left; omega
      · subst hc; left; omega
      · right; omega
theorem bef_spec {f : Int} (hf : mdI f = true) : mdI (befI f) = true ∧ ((f = 101 ∧ befI f = 1231) ∨ (befI f < f ∧ ∀ z, mdI z = true → z < f → z ≤ befI f)) := by
  obtain ⟨m, d, rfl, k1, k2, k3, k4⟩ := (mdI_iff f).1 hf
  have hl := len_le 2000 m
  have e1 : (100 * (m : Int) + (d : Int)) / 100 = (m : Int) := by omega
  have e2 : (100 * (m : Int) + (d : Int)) % 100 = (d : Int) := by omega
  unfold befI
  rw [e1, e2]
  by_cases h1 : 100 * (m : Int) + (d : Int) = 101
  · rw [if_pos h1]
    exact ⟨by decide, Or.inl ⟨h1, rfl⟩⟩
  · rw [if_neg h1]
    by_cases h2 : 1 < (d : Int)
    · rw [if_pos h2]
      exact ⟨(mdI_iff _).2 ⟨m, d - 1, by omega, k1, k2, by omega, by omega⟩, Or.inr ⟨by omega, fun z _ h => by omega⟩⟩
    · rw [if_neg h2]
      have hm : 2 ≤ m := by omega
      have hd : d = 1 := by omega
      have el : lenI 2000 ((m : Int) - 1) = ((len 2000 (m - 1) : Nat) : Int) := by
        have := lenI_nat 2000 (m - 1)
        rw [show (((m - 1 : Nat)) : Int) = (m : Int) - 1 by omega] at this
        exact this
      rw [el]
      have hg := len_ge 2000 (m - 1)
      have hle := len_le 2000 (m - 1)
      refine ⟨(mdI_iff _).2 ⟨m - 1, len 2000 (m - 1), by omega, by omega, by omega, by omega, Nat.le_refl _⟩, Or.inr ⟨by omega, fun z hz hlt => ?_⟩⟩
      obtain ⟨mz, dz, rfl, z1, z2, z3, z4⟩ := (mdI_iff z).1 hz
      have hlz := len_le 2000 mz
      rcases Nat.lt_trichotomy mz (m - 1) with hc | hc | hc
      · omega
      · subst hc; omega
      · omega
/-- Two seasons that follow each other and make the year contain each month-day once. -/
theorem seasons {m d f u n : Int} (hm1 : 1 ≤ m) (hm2 : m ≤ 12) (hd1 : 1 ≤ d) (hd2 : d ≤ 31) (hx : mdI (100 * m + d) = true) (hf : mdI f = true) (hu : mdI u = true) (hn : mdI n = true) (hne : f ≠ n) (hfol : folB u n = true) : inB m d f u = !inB m d n (befI f) := by
  obtain ⟨hp, hb⟩ := bef_spec hf
  have hmd : mdB m d = true := by rw [← mdI_mdB hm1 hm2 hd1 hd2]; exact hx
  have hs := fol_spec hu hfol
  unfold inB
  rw [hf, hu, hn, hp, hmd]
  simp only [Bool.true_and]
  have rx := mdI_range hx
  have rf := mdI_range hf
  have ru := mdI_range hu
  have rn := mdI_range hn
  have rp := mdI_range hp
  generalize befI f = p at *
  have s1 : (u = 1231 ∧ n = 101) ∨ (u < n ∧ (100 * m + d ≤ u ∨ n ≤ 100 * m + d) ∧ (f ≤ u ∨ n ≤ f)) := by
    rcases hs with h | ⟨h1, h2⟩
    · exact Or.inl h
    · exact Or.inr ⟨h1, h2 _ hx, h2 _ hf⟩
  have s2 : (f = 101 ∧ p = 1231) ∨ (p < f ∧ (100 * m + d < f → 100 * m + d ≤ p) ∧ (n < f → n ≤ p) ∧ (u < f → u ≤ p)) := by
    rcases hb with h | ⟨h1, h2⟩
    · exact Or.inl h
    · exact Or.inr ⟨h1, h2 _ hx, h2 _ hn, h2 _ hu⟩
  generalize 100 * m + d = x at *
  clear hs hb hx hf hu hn hp hmd hfol
  by_cases c1 : f ≤ u
  · rw [if_pos c1]
    by_cases c2 : n ≤ p
    · rw [if_pos c2]
      by_cases c3 : f ≤ x ∧ x ≤ u
      · rw [decide_eq_true c3, decide_eq_false (by omega)]; rfl
      · rw [decide_eq_false c3, decide_eq_true (by omega)]; rfl
    · rw [if_neg c2]
      by_cases c3 : f ≤ x ∧ x ≤ u
      · rw [decide_eq_true c3, decide_eq_false (by omega)]; rfl
      · rw [decide_eq_false c3, decide_eq_true (by omega)]; rfl
  · rw [if_neg c1]
    by_cases c2 : n ≤ p
    · rw [if_pos c2]
      by_cases c3 : f ≤ x ∨ x ≤ u
      · rw [decide_eq_true c3, decide_eq_false (by omega)]; rfl
      · rw [decide_eq_false c3, decide_eq_true (by omega)]; rfl
    · rw [if_neg c2]
      by_cases c3 : f ≤ x ∨ x ≤ u
      · rw [decide_eq_true c3, decide_eq_false (by omega)]; rfl
      · rw [decide_eq_false c3, decide_eq_true (by omega)]; rfl
end Go.Proofs.YtanjkjendppigaaDoor.Dy
