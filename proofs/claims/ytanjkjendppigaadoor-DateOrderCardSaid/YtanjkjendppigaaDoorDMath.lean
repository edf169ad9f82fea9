/- Plain mathematics of the calendar: months counted from January 2000, their first days, the date of an hour and back. Conditions: those of each lemma. -/
namespace Go.Proofs.YtanjkjendppigaaDoor
namespace Cal

def leap (y : Nat) : Prop := y % 4 = 0 ∧ (y % 100 ≠ 0 ∨ y % 400 = 0)
instance (y : Nat) : Decidable (leap y) := by unfold leap; infer_instance
/-- The days of a month. -/
def len (y m : Nat) : Nat := if m = 2 then (if leap y then 29 else 28) else if m = 4 ∨ m = 6 ∨ m = 9 ∨ m = 11 then 30 else 31
theorem len_ge (y m : Nat) : 28 ≤ len y m := by
  unfold len
  repeat' split
  all_goals omega
theorem len_le (y m : Nat) : len y m ≤ 31 := by
  unfold len
  repeat' split
  all_goals omega
/-- The days before month k, counted from January 2000. -/
def S : Nat → Nat
  | 0 => 0
  | k + 1 => S k + len (2000 + k / 12) (k % 12 + 1)
theorem S_succ (k : Nat) : S (k + 1) = S k + len (2000 + k / 12) (k % 12 + 1) := rfl
theorem S_lt (k : Nat) : S k + 28 ≤ S (k + 1) := by have := len_ge (2000 + k / 12) (k % 12 + 1); rw [S_succ]; omega
theorem S_mono {a b : Nat} (h : a ≤ b) : S a ≤ S b := by
  induction b with
  | zero => rw [show a = 0 by omega]; exact Nat.le_refl _
  | succ b ih =>
    rcases Nat.lt_or_ge b a with h1 | h1
    · rw [show a = b + 1 by omega]; exact Nat.le_refl _
    · have := ih h1
      have := S_lt b
      omega
theorem S_ge (k : Nat) : 28 * k ≤ S k := by
  induction k with
  | zero => exact Nat.zero_le _
  | succ k ih => have := S_lt k; omega
/-- The month of a day. -/
def mon : Nat → Nat
  | 0 => 0
  | D + 1 => if S (mon D + 1) ≤ D + 1 then mon D + 1 else mon D
theorem mon_spec (D : Nat) : S (mon D) ≤ D ∧ D < S (mon D + 1) := by
  induction D with
  | zero => exact ⟨Nat.le_refl _, by decide⟩
  | succ D ih =>
    have h1 := S_lt (mon D + 1)
    simp only [mon]
    split
    · omega
    · omega
theorem mon_uniq {D k : Nat} (h1 : S k ≤ D) (h2 : D < S (k + 1)) : mon D = k := by
  have h := mon_spec D
  rcases Nat.lt_trichotomy (mon D) k with h3 | h3 | h3
  · have := S_mono (show mon D + 1 ≤ k by omega); omega
  · exact h3
  · have := S_mono (show k + 1 ≤ mon D by omega); omega
theorem S_in (n i : Nat) (hi : i < 12) : S (12 * n + i + 1) = S (12 * n + i) + len (2000 + n) (i + 1) := by
  rw [S_succ, show (12 * n + i) / 12 = n by omega, show (12 * n + i) % 12 = i by omega]
theorem S_months (n : Nat) : S (12 * n + 1) = S (12 * n) + 31 ∧ S (12 * n + 2) = S (12 * n) + 31 + len (2000 + n) 2 ∧ S (12 * (n + 1)) = S (12 * n) + 337 + len (2000 + n) 2 := by
  have h0 : S (12 * n + 1) = S (12 * n) + len (2000 + n) 1 := S_in n 0 (by decide)
  have h1 : S (12 * n + 2) = S (12 * n + 1) + len (2000 + n) 2 := S_in n 1 (by decide)
  have h2 : S (12 * n + 3) = S (12 * n + 2) + len (2000 + n) 3 := S_in n 2 (by decide)
  have h3 : S (12 * n + 4) = S (12 * n + 3) + len (2000 + n) 4 := S_in n 3 (by decide)
  have h4 : S (12 * n + 5) = S (12 * n + 4) + len (2000 + n) 5 := S_in n 4 (by decide)
  have h5 : S (12 * n + 6) = S (12 * n + 5) + len (2000 + n) 6 := S_in n 5 (by decide)
  have h6 : S (12 * n + 7) = S (12 * n + 6) + len (2000 + n) 7 := S_in n 6 (by decide)
  have h7 : S (12 * n + 8) = S (12 * n + 7) + len (2000 + n) 8 := S_in n 7 (by decide)
  have h8 : S (12 * n + 9) = S (12 * n + 8) + len (2000 + n) 9 := S_in n 8 (by decide)
  have h9 : S (12 * n + 10) = S (12 * n + 9) + len (2000 + n) 10 := S_in n 9 (by decide)
  have h10 : S (12 * n + 11) = S (12 * n + 10) + len (2000 + n) 11 := S_in n 10 (by decide)
  have h11 : S (12 * n + 12) = S (12 * n + 11) + len (2000 + n) 12 := S_in n 11 (by decide)
  have l : ∀ m, m ≠ 2 → len (2000 + n) m = if m = 4 ∨ m = 6 ∨ m = 9 ∨ m = 11 then 30 else 31 := fun m hm => by unfold len; rw [if_neg hm]
  rw [l 1 (by decide)] at h0
  rw [l 3 (by decide)] at h2
  rw [l 4 (by decide)] at h3
  rw [l 5 (by decide)] at h4
  rw [l 6 (by decide)] at h5
  rw [l 7 (by decide)] at h6
  rw [l 8 (by decide)] at h7
  rw [l 9 (by decide)] at h8
  rw [l 10 (by decide)] at h9
  rw [l 11 (by decide)] at h10
  rw [l 12 (by decide)] at h11
  simp only [Nat.reduceEqDiff, or_self, or_true, or_false, if_true, if_false] at h0 h2 h3 h4 h5 h6 h7 h8 h9 h10 h11
  rw [show 12 * (n + 1) = 12 * n + 12 by omega]
  omega
/-- The days before a year. -/
def ys (n : Nat) : Nat := 365 * n + ((n + 3) / 4 + (n + 399) / 400 - (n + 99) / 100)
theorem leap_count (n : Nat) : ((n + 1 + 3) / 4 + (n + 1 + 399) / 400 - (n + 1 + 99) / 100) = ((n + 3) / 4 + (n + 399) / 400 - (n + 99) / 100) + (if leap (2000 + n) then 1 else 0) := by
  have h : leap (2000 + n) ↔ (n % 4 = 0 ∧ (n % 100 ≠ 0 ∨ n % 400 = 0)) := by unfold leap; omega
  by_cases hl : leap (2000 + n)
  · rw [if_pos hl]
    have := h.1 hl
    omega
  · rw [if_neg hl]
    have h2 := fun c => hl (h.2 c)
    by_cases a : n % 4 = 0
    · have b : n % 100 = 0 ∧ n % 400 ≠ 0 := by
        refine ⟨?_, fun c => h2 ⟨a, .inr c⟩⟩
        by_cases c : n % 100 = 0
        · exact c
        · exact absurd ⟨a, .inl c⟩ h2
      omega
    · omega
theorem S_year (n : Nat) : S (12 * n) = ys n := by
  induction n with
  | zero => rfl
  | succ n ih =>
    have h := (S_months n).2.2
    have h2 : len (2000 + n) 2 = 28 + if leap (2000 + n) then 1 else 0 := by unfold len; rw [if_pos rfl]; split <;> rfl
    have h3 := leap_count n
    rw [h, ih, h2]
    unfold ys
    omega
theorem len_period (y m : Nat) : len (y + 400) m = len y m := by
  have h : leap (y + 400) ↔ leap y := by unfold leap; omega
  unfold len
  by_cases hl : leap y
  · rw [if_pos hl, if_pos (h.2 hl)]
  · rw [if_neg hl, if_neg (fun c => hl (h.1 c))]
theorem S_period (k : Nat) : S (k + 4800) = S k + 146097 := by
  induction k with
  | zero => rw [show 0 + 4800 = 12 * 400 by decide, S_year]; decide
  | succ k ih =>
    rw [show k + 1 + 4800 = k + 4800 + 1 by omega, S_succ, ih, S_succ, show (k + 4800) / 12 = k / 12 + 400 by omega, show (k + 4800) % 12 = k % 12 by omega, ← Nat.add_assoc, len_period]
    omega
theorem mon_period (D : Nat) : mon (D + 146097) = mon D + 4800 := by
  have h := mon_spec D
  refine mon_uniq ?_ ?_
  · rw [S_period]; omega
  · rw [show mon D + 4800 + 1 = mon D + 1 + 4800 by omega, S_period]; omega
theorem mon_mono {a b : Nat} (h : a ≤ b) : mon a ≤ mon b := by
  have h1 := mon_spec a
  have h2 := mon_spec b
  rcases Nat.lt_or_ge (mon b) (mon a) with h3 | h3
  · have := S_mono (show mon b + 1 ≤ mon a by omega); omega
  · exact h3

/-- A date: year, month, day, hour. -/
structure Dt where
  y : Nat
  m : Nat
  d : Nat
  h : Nat
theorem Dt.ext' {a b : Dt} (h1 : a.y = b.y) (h2 : a.m = b.m) (h3 : a.d = b.d) (h4 : a.h = b.h) : a = b := by
  cases a; cases b; simp_all
def dateOf (t : Nat) : Dt := ⟨2000 + mon (t / 24) / 12, mon (t / 24) % 12 + 1, t / 24 - S (mon (t / 24)) + 1, t % 24⟩
def hourOf (y m d h : Nat) : Nat := 24 * (S (12 * (y - 2000) + (m - 1)) + (d - 1)) + h
structure Ok (y m d h : Nat) : Prop where
  y0 : 2000 ≤ y
  m1 : 1 ≤ m
  m2 : m ≤ 12
  d1 : 1 ≤ d
  d2 : d ≤ len y m
  h0 : h < 24
theorem dateOf_ok (t : Nat) : Ok (dateOf t).y (dateOf t).m (dateOf t).d (dateOf t).h := by
  have h := mon_spec (t / 24)
  rw [S_succ] at h
  refine ⟨by show 2000 ≤ 2000 + _; omega, by show 1 ≤ _ % 12 + 1; omega, by show _ % 12 + 1 ≤ 12; omega, by show 1 ≤ _ + 1; omega, ?_, by show _ % 24 < 24; omega⟩
  show t / 24 - S (mon (t / 24)) + 1 ≤ len (2000 + mon (t / 24) / 12) (mon (t / 24) % 12 + 1)
  omega
theorem hourOf_dateOf (t : Nat) : hourOf (dateOf t).y (dateOf t).m (dateOf t).d (dateOf t).h = t := by
  have h := mon_spec (t / 24)
  show 24 * (S (12 * (2000 + mon (t / 24) / 12 - 2000) + (mon (t / 24) % 12 + 1 - 1)) + (t / 24 - S (mon (t / 24)) + 1 - 1)) + t % 24 = t
  rw [show 12 * (2000 + mon (t / 24) / 12 - 2000) + (mon (t / 24) % 12 + 1 - 1) = mon (t / 24) by omega]
  omega
theorem hourOf_day {y m d h : Nat} (ok : Ok y m d h) : hourOf y m d h / 24 = S (12 * (y - 2000) + (m - 1)) + (d - 1) ∧ hourOf y m d h % 24 = h := by
  have := ok.h0
  unfold hourOf
  omega
theorem hourOf_mon {y m d h : Nat} (ok : Ok y m d h) : mon (hourOf y m d h / 24) = 12 * (y - 2000) + (m - 1) := by
  obtain ⟨h1, h2, h3, h4, h5, h6⟩ := ok
  rw [(hourOf_day ⟨h1, h2, h3, h4, h5, h6⟩).1]
  refine mon_uniq (Nat.le_add_right _ _) ?_
  rw [S_in _ _ (by omega), show 2000 + (y - 2000) = y by omega, show m - 1 + 1 = m by omega]
  omega
theorem dateOf_hourOf {y m d h : Nat} (ok : Ok y m d h) : dateOf (hourOf y m d h) = ⟨y, m, d, h⟩ := by
  have e := hourOf_mon ok
  obtain ⟨e1, e2⟩ := hourOf_day ok
  obtain ⟨h1, h2, h3, h4, h5, h6⟩ := ok
  unfold dateOf
  rw [e, e1, e2]
  refine Dt.ext' ?_ ?_ ?_ rfl
  · show 2000 + (12 * (y - 2000) + (m - 1)) / 12 = y; omega
  · show (12 * (y - 2000) + (m - 1)) % 12 + 1 = m; omega
  · show S _ + (d - 1) - S _ + 1 = d; omega
/-- Years of hours up to 2^24. -/
theorem dateOf_year {t : Nat} (h : t ≤ 16777216) : (dateOf t).y ≤ 3913 := by
  have h1 := mon_spec (t / 24)
  show 2000 + mon (t / 24) / 12 ≤ 3913
  rcases Nat.lt_or_ge (mon (t / 24)) (12 * 1914) with h2 | h2
  · omega
  · have h3 := S_mono h2
    rw [S_year] at h3
    have : ys 1914 = 699074 := by decide
    omega
theorem ys_lt (n : Nat) : ys n + 365 ≤ ys (n + 1) := by
  have h := (S_months n).2.2
  have h2 := len_ge (2000 + n) 2
  rw [S_year, S_year] at h
  omega
theorem ys_mono {a b : Nat} (h : a ≤ b) : ys a ≤ ys b := by
  have := S_mono (show 12 * a ≤ 12 * b by omega)
  rw [S_year, S_year] at this
  exact this
theorem ys_le (n : Nat) : ys n ≤ 366 * n := by unfold ys; omega
/-- The year of a day. -/
theorem year_of {D n : Nat} (h1 : ys n ≤ D) (h2 : D < ys (n + 1)) : mon D / 12 = n := by
  have h := mon_spec D
  rw [← S_year] at h1 h2
  have a1 : 12 * n ≤ mon D := by
    rcases Nat.lt_or_ge (mon D) (12 * n) with h3 | h3
    · have := S_mono (show mon D + 1 ≤ 12 * n by omega); omega
    · exact h3
  have a2 : mon D < 12 * (n + 1) := by
    rcases Nat.lt_or_ge (mon D) (12 * (n + 1)) with h3 | h3
    · exact h3
    · have := S_mono h3; omega
  omega
/-- The next hour's date. -/
theorem next_same {t : Nat} (h : (dateOf t).h < 23) : dateOf (t + 1) = ⟨(dateOf t).y, (dateOf t).m, (dateOf t).d, (dateOf t).h + 1⟩ := by
  have h' : t % 24 < 23 := h
  unfold dateOf
  rw [show (t + 1) / 24 = t / 24 by omega, show (t + 1) % 24 = t % 24 + 1 by omega]
theorem next_day {t : Nat} (h : ¬ (dateOf t).h < 23) : (dateOf (t + 1)).h = 0 ∧
    ((1 < (dateOf (t + 1)).d ∧ dateOf (t + 1) = ⟨(dateOf t).y, (dateOf t).m, (dateOf t).d + 1, 0⟩) ∨
     ((dateOf (t + 1)).d = 1 ∧ 28 ≤ (dateOf t).d ∧ 1 < (dateOf (t + 1)).m ∧ dateOf (t + 1) = ⟨(dateOf t).y, (dateOf t).m + 1, 1, 0⟩) ∨
     ((dateOf (t + 1)).d = 1 ∧ (dateOf (t + 1)).m = 1 ∧ (dateOf t).m = 12 ∧ (dateOf t).d = 31 ∧ dateOf (t + 1) = ⟨(dateOf t).y + 1, 1, 1, 0⟩)) := by
  have h' : ¬ t % 24 < 23 := h
  have hs := mon_spec (t / 24)
  have hD : (t + 1) / 24 = t / 24 + 1 := by omega
  have hH : (t + 1) % 24 = 0 := by omega
  have hn := mon_spec (t / 24 + 1)
  have hg := S_lt (mon (t / 24))
  have hmon : mon (t / 24 + 1) = if S (mon (t / 24) + 1) ≤ t / 24 + 1 then mon (t / 24) + 1 else mon (t / 24) := rfl
  simp only [dateOf, hD, hH]
  refine ⟨trivial, ?_⟩
  by_cases hc : S (mon (t / 24) + 1) ≤ t / 24 + 1
  · rw [if_pos hc] at hmon
    rw [hmon] at hn ⊢
    have hl := S_succ (mon (t / 24))
    have e1 : t / 24 + 1 = S (mon (t / 24) + 1) := by omega
    by_cases h12 : (mon (t / 24) + 1) % 12 = 0
    · right; right
      have hm : mon (t / 24) % 12 = 11 := by omega
      have hl31 : len (2000 + mon (t / 24) / 12) (mon (t / 24) % 12 + 1) = 31 := by rw [hm]; rfl
      refine ⟨by omega, by omega, by omega, by omega, Dt.ext' ?_ ?_ ?_ rfl⟩
      · show 2000 + (mon (t / 24) + 1) / 12 = 2000 + mon (t / 24) / 12 + 1; omega
      · show (mon (t / 24) + 1) % 12 + 1 = 1; omega
      · show t / 24 + 1 - S (mon (t / 24) + 1) + 1 = 1; omega
    · right; left
      refine ⟨by omega, by omega, by omega, Dt.ext' ?_ ?_ ?_ rfl⟩
      · show 2000 + (mon (t / 24) + 1) / 12 = 2000 + mon (t / 24) / 12; omega
      · show (mon (t / 24) + 1) % 12 + 1 = mon (t / 24) % 12 + 1 + 1; omega
      · show t / 24 + 1 - S (mon (t / 24) + 1) + 1 = 1; omega
  · rw [if_neg hc] at hmon
    rw [hmon] at hn ⊢
    left
    refine ⟨by omega, Dt.ext' rfl rfl ?_ rfl⟩
    show t / 24 + 1 - S (mon (t / 24)) + 1 = t / 24 - S (mon (t / 24)) + 1 + 1; omega
theorem date_period (t : Nat) : dateOf (t + 24 * 146097) = ⟨(dateOf t).y + 400, (dateOf t).m, (dateOf t).d, (dateOf t).h⟩ := by
  have h := mon_spec (t / 24)
  unfold dateOf
  rw [show (t + 24 * 146097) / 24 = t / 24 + 146097 by omega, mon_period]
  refine Dt.ext' ?_ ?_ ?_ ?_
  · show 2000 + (mon (t / 24) + 4800) / 12 = 2000 + mon (t / 24) / 12 + 400; omega
  · show (mon (t / 24) + 4800) % 12 + 1 = mon (t / 24) % 12 + 1; omega
  · show t / 24 + 146097 - S (mon (t / 24) + 4800) + 1 = t / 24 - S (mon (t / 24)) + 1
    rw [S_period]; omega
  · show (t + 24 * 146097) % 24 = t % 24; omega
/-- Dates are in the order of their hours. -/
def lexD (a b : Dt) : Prop := a.y < b.y ∨ a.y = b.y ∧ (a.m < b.m ∨ a.m = b.m ∧ (a.d < b.d ∨ a.d = b.d ∧ a.h < b.h))
theorem date_lt {a b : Nat} (h : a < b) : lexD (dateOf a) (dateOf b) := by
  have h1 := mon_spec (a / 24)
  have h2 := mon_spec (b / 24)
  have h3 := mon_mono (show a / 24 ≤ b / 24 by omega)
  show 2000 + mon (a / 24) / 12 < 2000 + mon (b / 24) / 12 ∨ 2000 + mon (a / 24) / 12 = 2000 + mon (b / 24) / 12 ∧ (mon (a / 24) % 12 + 1 < mon (b / 24) % 12 + 1 ∨ mon (a / 24) % 12 + 1 = mon (b / 24) % 12 + 1 ∧ (a / 24 - S (mon (a / 24)) + 1 < b / 24 - S (mon (b / 24)) + 1 ∨ a / 24 - S (mon (a / 24)) + 1 = b / 24 - S (mon (b / 24)) + 1 ∧ a % 24 < b % 24))
  by_cases he : mon (a / 24) = mon (b / 24)
  · rw [he] at h1 ⊢
    omega
  · omega
end Cal
end Go.Proofs.YtanjkjendppigaaDoor
