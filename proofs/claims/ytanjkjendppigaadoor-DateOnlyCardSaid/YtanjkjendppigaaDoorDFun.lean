/- The small functions of date: isHour, Day, isLeap, monthDays, yearStart, isMonthDay. Conditions: the listed variables hold what the text gives them; the ranges of each lemma. -/
import Derived.Test.YtanjkjendppigaaDoorDWords
namespace Go.Proofs.YtanjkjendppigaaDoor.Dy
open Go.RowKit Cal
set_option linter.unusedVariables false
set_option maxRecDepth 100000

def isH (h : Int) : Bool := decide (0 ≤ h ∧ h ≤ 16777216)
theorem isHour_any (h : Int) (w : World) : Calls Tryd.prog 25 #[.int .i64 h] w fun e w' => e = .returned (.bool (isH h)) ∧ w = w' := by
  by_cases h0 : 0 ≤ h
  · have d0 : decide (0 ≤ h) = true := decide_eq_true h0
    have hr : isH h = decide (h ≤ 16777216) := by unfold isH; congr 1; apply propext; omega
    have HR := Lib.hid hr
    clear hr
    by_cases h8 : h ≤ 16777216
    · have d8 : decide (h ≤ 16777216) = true := decide_eq_true h8
      go_enter Tryd.func25, Tryd.ntmps25
      go_wp2
      go_ret
      exact ⟨ret_b (by rw [HR.out, d8]), rfl⟩
    · have d8 : decide (h ≤ 16777216) = false := decide_eq_false h8
      go_enter Tryd.func25, Tryd.ntmps25
      go_wp2
      go_ret
      exact ⟨ret_b (by rw [HR.out, d8]), rfl⟩
  · have d0 : decide (0 ≤ h) = false := decide_eq_false h0
    have hr : isH h = false := decide_eq_false (by omega)
    have HR := Lib.hid hr
    clear hr
    go_enter Tryd.func25, Tryd.ntmps25
    go_wp2
    go_ret
    exact ⟨ret_b (by rw [HR.out]), rfl⟩
def dayI (h : Int) : Int := if isH h then h / 24 else -1
theorem isH_of {h : Int} (hh : isH h = true) : 0 ≤ h ∧ h ≤ 16777216 := of_decide_eq_true hh
theorem day_any (h : Int) (w : World) : Calls Tryd.prog 14 #[.int .i64 h] w fun e w' => e = .returned (.int .i64 (dayI h)) ∧ w = w' := by
  have HI := Lib.hid (fun W => isHour_any h W)
  by_cases hh : isH h = true
  · have hr : wrap64 (h.tdiv 24) = dayI h := by
      have := isH_of hh
      unfold dayI wrap64; rw [if_pos hh, Int.tdiv_eq_ediv_of_nonneg (by omega)]; omega
    have HR := Lib.hid hr
    rw [hh] at HI
    clear hr hh
    go_enter Tryd.func14, Tryd.ntmps14
    go_wp2_with fail
    refine (HI.out _).mono ?_
    rintro e w1 ⟨rfl, rfl⟩
    go_wp2_with fail
    go_ret
    exact ⟨ret_i (by rw [HR.out]), rfl⟩
  · have hr : dayI h = -1 := by unfold dayI; rw [if_neg hh]
    have HR := Lib.hid hr
    rw [show isH h = false by simpa using hh] at HI
    clear hr hh
    go_enter Tryd.func14, Tryd.ntmps14
    go_wp2_with fail
    refine (HI.out _).mono ?_
    rintro e w1 ⟨rfl, rfl⟩
    go_wp2_with fail
    go_ret
    exact ⟨ret_i (by rw [HR.out]), rfl⟩
theorem refday_any (h : Int) (w : World) : Calls Tryd.prog 15 #[.int .i64 h] w fun e w' => e = .returned (.int .i64 (dayI h)) ∧ w = w' := by
  by_cases h0 : h < 0
  · have d0 : decide (h < 0) = true := decide_eq_true h0
    have hr : dayI h = -1 := by unfold dayI isH; rw [if_neg (by simp; omega)]
    have HR := Lib.hid hr
    clear hr
    go_enter Tryd.func15, Tryd.ntmps15
    go_wp2_with fail
    go_ret
    exact ⟨ret_i (by rw [HR.out]), rfl⟩
  · have d0 : decide (h < 0) = false := decide_eq_false h0
    by_cases h8 : 16777216 < h
    · have d8 : decide (16777216 < h) = true := decide_eq_true h8
      have hr : dayI h = -1 := by unfold dayI isH; rw [if_neg (by simp; omega)]
      have HR := Lib.hid hr
      clear hr
      go_enter Tryd.func15, Tryd.ntmps15
      go_wp2_with fail
      go_ret
      exact ⟨ret_i (by rw [HR.out]), rfl⟩
    · have d8 : decide (16777216 < h) = false := decide_eq_false h8
      have hr : dayI h = h / 24 := by unfold dayI isH; rw [if_pos (by simp; omega)]
      have HR := Lib.hid hr
      clear hr
      go_enter Tryd.func15, Tryd.ntmps15
      go_wp2_with fail
      go_ret
      exact ⟨ret_i (by rw [HR.out]), rfl⟩
theorem isLeap_any (y : Nat) (w : World) : Calls Tryd.prog 35 #[.int .i64 (y : Int)] w fun e w' => e = .returned (.bool (decide (leap y))) ∧ w = w' := by
  have key : ∀ n : Nat, ∀ b : Bool, decide (y % n = 0) = b → ((((y : Nat) : Int) % ((n : Nat) : Int)) == 0) = b := fun n b h => by
    rw [← h, ← Int.natCast_emod]
    by_cases e : y % n = 0
    · rw [e]; rfl
    · rw [decide_eq_false e]; exact beq_eq_false_iff_ne.2 (by omega)
  by_cases c4 : y % 4 = 0
  · have d4 := key 4 true (decide_eq_true c4)
    by_cases c100 : y % 100 = 0
    · have d100 : ((((y : Nat) : Int) % (100 : Int)) != 0) = false := by have h := key 100 true (decide_eq_true c100); simp only [Int.cast_ofNat_Int] at h; rw [bne, h]; rfl
      by_cases c400 : y % 400 = 0
      · have d400 := key 400 true (decide_eq_true c400)
        have hr : decide (leap y) = true := decide_eq_true ⟨c4, .inr c400⟩
        rw [hr]
        simp only [Int.cast_ofNat_Int] at d4 d400
        clear hr c4 c100 c400 key
        go_enter Tryd.func35, Tryd.ntmps35
        go_wp2_with fail
        go_ret
        exact ⟨ret_b (by simp_all), rfl⟩
      · have d400 := key 400 false (decide_eq_false c400)
        have hr : decide (leap y) = false := decide_eq_false (by unfold leap; omega)
        rw [hr]
        simp only [Int.cast_ofNat_Int] at d4 d400
        clear hr c4 c100 c400 key
        go_enter Tryd.func35, Tryd.ntmps35
        go_wp2_with fail
        go_ret
        exact ⟨ret_b (by simp_all), rfl⟩
    · have d100 : ((((y : Nat) : Int) % (100 : Int)) != 0) = true := by have h := key 100 false (decide_eq_false c100); simp only [Int.cast_ofNat_Int] at h; rw [bne, h]; rfl
      have hr : decide (leap y) = true := decide_eq_true ⟨c4, .inl c100⟩
      rw [hr]
      simp only [Int.cast_ofNat_Int] at d4
      clear hr c4 c100 key
      go_enter Tryd.func35, Tryd.ntmps35
      go_wp2_with fail
      go_ret
      exact ⟨ret_b (by simp_all), rfl⟩
  · have d4 := key 4 false (decide_eq_false c4)
    have d400 := key 400 false (decide_eq_false (by omega))
    have hr : decide (leap y) = false := decide_eq_false (by unfold leap; omega)
    rw [hr]
    simp only [Int.cast_ofNat_Int] at d4 d400
    clear hr c4 key
    go_enter Tryd.func35, Tryd.ntmps35
    go_wp2_with fail
    go_ret
    exact ⟨ret_b (by simp_all), rfl⟩
theorem lens_of {m : Nat} (h1 : 1 ≤ m) (h2 : m ≤ 12) : ∃ k : Nat, k < 12 ∧ m = k + 1 := ⟨m - 1, by omega, by omega⟩
theorem len_leap (m : Nat) (h1 : 1 ≤ m) (h2 : m ≤ 12) : lens[m - 1]? = some ((len 2000 m : Nat) : Int) := by
  have hc : m = 1 ∨ m = 2 ∨ m = 3 ∨ m = 4 ∨ m = 5 ∨ m = 6 ∨ m = 7 ∨ m = 8 ∨ m = 9 ∨ m = 10 ∨ m = 11 ∨ m = 12 := by omega
  rcases hc with rfl | rfl | rfl | rfl | rfl | rfl | rfl | rfl | rfl | rfl | rfl | rfl <;> decide
theorem len_year (y m : Nat) : len y m = if m = 2 ∧ ¬ leap y then len 2000 m - 1 else len 2000 m := by
  have h0 : leap 2000 := by decide
  unfold len
  rw [if_pos h0]
  by_cases hm : m = 2
  · by_cases hl : leap y
    · simp [hm, hl]
    · simp [hm, hl]
  · simp [hm]
set_option maxHeartbeats 1000000 in
theorem monthDays_any (y m : Nat) (h1 : 1 ≤ m) (h2 : m ≤ 12) (w : World) (hW : Wd w) : Calls Tryd.prog 27 #[.int .i64 (y : Int), .int .i64 (m : Int)] w fun e w' => e = .returned (.int .i64 ((len y m : Nat) : Int)) ∧ w = w' := by
  have HL := Lib.hid (fun W => isLeap_any y W)
  have hc := hW.len _ _ (len_leap m h1 h2)
  have hb := len_ge 2000 m
  have hb2 := len_le 2000 m
  have hx : IntKind.i64.wrap (((m : Nat) : Int) - 1) = ((m - 1 : Nat) : Int) := by rw [IntKind.wrap_i64]; omega
  obtain ⟨k, hk⟩ : ∃ k, m - 1 = k := ⟨_, rfl⟩
  have hk12 : k < 12 := by omega
  rw [hk] at hc hx
  by_cases hm : m = 2
  · have dm : (((m : Nat) : Int) == 2) = true := by subst hm; rfl
    by_cases hl : leap y
    · have hr : len y m = len 2000 m := by rw [len_year, if_neg (fun h => h.2 hl)]
      rw [hr]
      rw [decide_eq_true hl] at HL
      generalize len 2000 m = n at *
      clear hW h1 h2 hr hl hm hk
      generalize hmi : ((m : Nat) : Int) = mi at *
      clear hmi
      go_enter Tryd.func27, Tryd.ntmps27
      go_wp2_with fail
      refine (HL.out _).mono ?_
      rintro e w1 ⟨rfl, rfl⟩
      --GG
      go_wp2_with fail
      go_ret
      exact ⟨rfl, rfl⟩
    · have hr : len y m = len 2000 m - 1 := by rw [len_year, if_pos ⟨hm, hl⟩]
      rw [hr]
      rw [decide_eq_false hl] at HL
      generalize len 2000 m = n at *
      have hr : IntKind.i64.wrap (((n : Nat) : Int) - 1) = ((n - 1 : Nat) : Int) := by rw [IntKind.wrap_i64]; omega
      clear hW h1 h2 hl hm hk
      go_enter Tryd.func27, Tryd.ntmps27
      go_wp2_with fail
      refine (HL.out _).mono ?_
      rintro e w1 ⟨rfl, rfl⟩
      go_wp2_with fail
      go_ret
      exact ⟨rfl, rfl⟩
  · have dm : (((m : Nat) : Int) == 2) = false := beq_eq_false_iff_ne.2 (by omega)
    have hr : len y m = len 2000 m := by rw [len_year, if_neg (fun h => hm h.1)]
    rw [hr]
    generalize len 2000 m = n at *
    clear hW h1 h2 hr hm hk HL
    go_enter Tryd.func27, Tryd.ntmps27
    go_wp2_with fail
    go_ret
    exact ⟨rfl, rfl⟩
theorem ys_int (n : Nat) (h : n ≤ 100000) : ((ys n : Nat) : Int) = (n : Int) * 365 + (((n : Int) + 3) / 4 - ((n : Int) + 99) / 100 + ((n : Int) + 399) / 400) := by
  unfold ys; omega
theorem yearStart_any (y : Nat) (h1 : 2000 ≤ y) (h2 : y ≤ 100000) (w : World) : Calls Tryd.prog 26 #[.int .i64 (y : Int)] w fun e w' => e = .returned (.int .i64 ((ys (y - 2000) : Nat) : Int)) ∧ w = w' := by
  obtain ⟨n, rfl⟩ : ∃ n, y = n + 2000 := ⟨y - 2000, by omega⟩
  have h2 : n ≤ 98000 := by omega
  have hr := ys_int n (by omega)
  rw [show n + 2000 - 2000 = n by omega]
  generalize ys n = r at *
  have e1 : wrap64 (((n + 2000 : Nat) : Int) - 2000) = ((n : Nat) : Int) := by unfold wrap64; omega
  clear h1
  go_enter Tryd.func26, Tryd.ntmps26
  go_wp2_with fail
  go_ret
  refine ⟨ret_i ?_, rfl⟩
  rw [hr]
def mdB (m d : Int) : Bool := decide (1 ≤ m ∧ m ≤ 12 ∧ 1 ≤ d ∧ d ≤ ((len 2000 m.toNat : Nat) : Int))
theorem isMonthDay_any (m d : Int) (w : World) (hW : Wd w) : Calls Tryd.prog 29 #[.int .i64 m, .int .i64 d] w fun e w' => e = .returned (.bool (mdB m d)) ∧ w = w' := by
  obtain ⟨b, hb⟩ : ∃ b, mdB m d = b := ⟨_, rfl⟩
  have HB := Lib.hid hb
  rw [hb]
  by_cases h1 : 1 ≤ m
  · have d1 : decide (1 ≤ m) = true := decide_eq_true h1
    by_cases h2 : m ≤ 12
    · have d2 : decide (m ≤ 12) = true := decide_eq_true h2
      by_cases h3 : 1 ≤ d
      · have d3 : decide (1 ≤ d) = true := decide_eq_true h3
        obtain ⟨k, hk⟩ : ∃ k : Nat, m = ((k + 1 : Nat) : Int) := ⟨m.toNat - 1, by omega⟩
        have hc := hW.len _ _ (len_leap m.toNat (by omega) (by omega))
        have hx : IntKind.i64.wrap (m - 1) = ((k : Nat) : Int) := by rw [IntKind.wrap_i64]; omega
        have hk12 : k < 12 := by omega
        rw [show m.toNat - 1 = k by omega] at hc
        have hmd : mdB m d = decide (d ≤ ((len 2000 m.toNat : Nat) : Int)) := by unfold mdB; congr 1; apply propext; omega
        generalize len 2000 m.toNat = n at *
        have hb' : b = decide (d ≤ (n : Int)) := by rw [← hb, hmd]
        have HB2 := Lib.hid hb'
        clear hb hW hmd hk hb'
        by_cases h4 : d ≤ (n : Int)
        · have d4 : decide (d ≤ (n : Int)) = true := decide_eq_true h4
          clear h1 h2 h3 h4
          go_enter Tryd.func29, Tryd.ntmps29
          go_wp2_with fail
          go_ret
          exact ⟨ret_b (by rw [HB2.out, d4]), rfl⟩
        · have d4 : decide (d ≤ (n : Int)) = false := decide_eq_false h4
          clear h1 h2 h3 h4
          go_enter Tryd.func29, Tryd.ntmps29
          go_wp2_with fail
          go_ret
          exact ⟨ret_b (by rw [HB2.out, d4]), rfl⟩
      · have d3 : decide (1 ≤ d) = false := decide_eq_false h3
        have hf : b = false := by rw [← hb]; exact decide_eq_false (by omega)
        clear h1 h2 h3 hb hW
        subst hf
        go_enter Tryd.func29, Tryd.ntmps29
        go_wp2_with fail
        go_ret
        exact ⟨rfl, rfl⟩
    · have d2 : decide (m ≤ 12) = false := decide_eq_false h2
      have hf : b = false := by rw [← hb]; exact decide_eq_false (by omega)
      clear h1 h2 hb hW
      subst hf
      go_enter Tryd.func29, Tryd.ntmps29
      go_wp2_with fail
      go_ret
      exact ⟨rfl, rfl⟩
  · have d1 : decide (1 ≤ m) = false := decide_eq_false h1
    have hf : b = false := by rw [← hb]; exact decide_eq_false (by omega)
    clear h1 hb hW
    subst hf
    go_enter Tryd.func29, Tryd.ntmps29
    go_wp2_with fail
    go_ret
    exact ⟨rfl, rfl⟩
end Go.Proofs.YtanjkjendppigaaDoor.Dy
