/- Plain mathematics of WalSkips: which rows are wanted after a crash, and the state behind each append. Conditions: those of each lemma. -/
import Derived.Test.YtdjchpejhfkknaaLFile
namespace Go.Proofs.Ytdjchpejhfkknaa.Lw
open Go.RowKit Km Dk
open Lm hiding Bs
set_option linter.unusedVariables false

/-- Whether the i-th row's record survives. -/
def okS (ks : List Int) (fl i n : Nat) : Bool := decide (i < fl) || (decide (i - fl < ks.length) && decide ((n : Int) ≤ ks.getD (i - fl) 0))
def whS (ks : List Int) (fl : Nat) (l : List Bs) : Nat → Bool
  | 0 => true
  | i + 1 => whS ks fl l i && okS ks fl i ((l.getD i []).length + 7)
def wtS (ks : List Int) (fl : Nat) (l : List Bs) : Nat → Nat
  | 0 => 0
  | i + 1 => if whS ks fl l (i + 1) then i + 1 else wtS ks fl l i
/-- How many rows of the rest survive whole. -/
def fulS (ks : List Int) : Nat → List Bs → Nat
  | _, [] => 0
  | j, b :: t => if ((b.length + 7 : Nat) : Int) ≤ ks.getD j 0 then fulS ks (j + 1) t + 1 else 0
theorem fulS_le (ks : List Int) (j : Nat) (l : List Bs) : fulS ks j l ≤ l.length := by
  induction l generalizing j with
  | nil => exact Nat.le_refl _
  | cons b t ih => simp only [fulS]; split <;> simp; have := ih (j + 1); omega
theorem getD_out (ks : List Int) (j : Nat) (h : ks.length ≤ j) : ks.getD j 0 = 0 := by
  rw [List.getD_eq_getElem?_getD, List.getElem?_eq_none h]; rfl
theorem okS_rest (ks : List Int) (fl j n : Nat) (hn : 1 ≤ n) : okS ks fl (fl + j) n = decide ((n : Int) ≤ ks.getD j 0) := by
  unfold okS
  rw [decide_eq_false (show ¬ fl + j < fl by omega), Bool.false_or, Nat.add_sub_cancel_left]
  by_cases h : j < ks.length
  · rw [decide_eq_true h, Bool.true_and]
  · rw [decide_eq_false h, Bool.false_and, getD_out ks j (by omega)]
    exact (decide_eq_false (by omega)).symm
theorem whS_low (ks : List Int) (fl : Nat) (l : List Bs) : ∀ i, i ≤ fl → whS ks fl l i = true
  | 0, _ => rfl
  | i + 1, h => by
    have hk : okS ks fl i ((l.getD i []).length + 7) = true := by unfold okS; rw [decide_eq_true (show i < fl by omega)]; rfl
    simp only [whS, whS_low ks fl l i (by omega), hk]
    rfl
/-- From the first row that is not flushed on. -/
theorem wh_rest (ks : List Int) (fl : Nat) (l : List Bs) : ∀ (t : List Bs) (j : Nat), l.drop (fl + j) = t → whS ks fl l (fl + j) = true →
    (∀ i, i ≤ t.length → (whS ks fl l (fl + j + i) = true ↔ i ≤ fulS ks j t))
  | [], j, ht, hw, i, hi => by
    have : i = 0 := by simpa using hi
    subst this
    simpa [fulS] using hw
  | b :: t, j, ht, hw, i, hi => by
    have hb : l.getD (fl + j) [] = b := by
      have := congrArg (fun x : List Bs => x[0]?) ht
      simp at this
      rw [List.getD_eq_getElem?_getD, this]; rfl
    have ht2 : l.drop (fl + (j + 1)) = t := by
      have := congrArg (List.drop 1) ht
      rw [List.drop_drop] at this
      simpa [Nat.add_assoc] using this
    have hstep : whS ks fl l (fl + j + 1) = decide (((b.length + 7 : Nat) : Int) ≤ ks.getD j 0) := by
      simp only [whS, hw, Bool.true_and, hb]
      exact okS_rest ks fl j _ (by omega)
    cases i with
    | zero => simp [hw]
    | succ i =>
      simp only [fulS]
      by_cases hk : ((b.length + 7 : Nat) : Int) ≤ ks.getD j 0
      · rw [if_pos hk]
        have ih := wh_rest ks fl l t (j + 1) ht2 (by rw [show fl + (j + 1) = fl + j + 1 by omega, hstep]; exact decide_eq_true hk) i (by simpa using hi)
        rw [show fl + (j + 1) + i = fl + j + (i + 1) by omega] at ih
        rw [ih]
        omega
      · rw [if_neg hk]
        have hf : ∀ n, whS ks fl l (fl + j + 1 + n) = false := fun n => by
          induction n with
          | zero => rw [Nat.add_zero, hstep]; exact decide_eq_false hk
          | succ n ihn => rw [← Nat.add_assoc]; simp only [whS, ihn, Bool.false_and]
        rw [show fl + j + (i + 1) = fl + j + 1 + i by omega, hf i]
        simp
theorem wt_val (ks : List Int) (fl : Nat) (l : List Bs) (hfl : fl ≤ l.length) : ∀ i, i ≤ l.length → wtS ks fl l i = min i (fl + fulS ks 0 (l.drop fl)) := by
  have hr := wh_rest ks fl l (l.drop fl) 0 (by rw [Nat.add_zero]) (by rw [Nat.add_zero]; exact whS_low ks fl l fl (Nat.le_refl _))
  intro i
  induction i with
  | zero => intro _; simp [wtS]
  | succ i ih =>
    intro hi
    have ih := ih (by omega)
    simp only [wtS]
    by_cases hlow : i + 1 ≤ fl
    · rw [whS_low ks fl l (i + 1) hlow, if_pos rfl]; omega
    · have h2 := hr (i + 1 - fl) (by rw [List.length_drop]; omega)
      rw [Nat.add_zero, show fl + (i + 1 - fl) = i + 1 by omega] at h2
      split
      · next hw => have := h2.1 hw; omega
      · next hw =>
        have : ¬ (i + 1 - fl ≤ fulS ks 0 (l.drop fl)) := fun h => hw (h2.2 h)
        rw [ih]
        omega
theorem ful_full (ks : List Int) : ∀ (t : List Bs) (j : Nat), full (pcs ks 2 j (t.map fun b => (2, b.length + 7))) = fulS ks j t
  | [], _ => rfl
  | b :: t, j => by
    simp only [List.map_cons, pcs, if_true, List.cons_append, List.nil_append, full, fulS, ful_full ks t (j + 1)]
    have e : (b.length + 7 ≤ surv ks j (b.length + 7)) ↔ (((b.length + 7 : Nat) : Int) ≤ ks.getD j 0) := by
      unfold surv
      omega
    by_cases h : ((b.length + 7 : Nat) : Int) ≤ ks.getD j 0
    · rw [if_pos (e.2 h), if_pos h]
    · rw [if_neg (fun h2 => h (e.1 h2)), if_neg h]

/-- The state behind the first i rows, of which the first fl are flushed once they are all there. -/
structure Sk (s : St) (l : List Bs) (i k : Nat) : Prop where
  cal : Cal s
  lg : Lg s 2 (l.take i) k
  list : s.L = ((l.take i).drop k).map fun b => (2, b.length + 7)
theorem list_two {L : Pd} {t : List Bs} (h : ∀ p ∈ L, p.1 = 2) (hs : sizes 2 L = t.map fun b => b.length + 7) : L = t.map fun b => (2, b.length + 7) := by
  induction L generalizing t with
  | nil =>
    cases t with
    | nil => rfl
    | cons b t => simp [sizes] at hs
  | cons p L ih =>
    rw [sizes_cons, if_pos (h p (by simp))] at hs
    cases t with
    | nil => simp at hs
    | cons b t =>
      simp only [List.map_cons, List.cons_append, List.nil_append, List.cons.injEq] at hs
      rw [List.map_cons, ← ih (fun q hq => h q (by simp [hq])) hs.2]
      have := h p (by simp)
      rw [← hs.1, ← this]
theorem fit_two {f left : Nat} {L : Pd} (h : ∀ p ∈ L, p.1 = 2) : ∀ p ∈ fit f left L, p.1 = 2 := by
  intro p hp
  obtain ⟨h1, _⟩ := List.mem_filter.1 hp
  clear hp
  induction L generalizing left with
  | nil => cases h1
  | cons q t ih =>
    have hq := h q (by simp)
    have ht := fun r hr => h r (List.mem_cons_of_mem _ hr)
    simp only [fitL] at h1
    split at h1
    · rcases List.mem_cons.1 h1 with rfl | h1
      · exact hq
      · exact ih ht h1
    · rcases List.mem_cons.1 h1 with rfl | h1
      · exact hq
      · exact ih ht h1
theorem sk_zero (l : List Bs) : Sk (opn Km.new ((2 : Nat) : Int)).2 l 0 0 := by
  obtain ⟨_, q2, q3, _, _, _⟩ := opn_cal new_cal (f := 2) (by decide)
  refine ⟨q2, ⟨by rw [q3.1]; rfl, by rw [q3.2.1]; rfl, Nat.zero_le _, by rw [q3.2.2]; simp, fun b hb => by simp at hb⟩, ?_⟩
  have : (opn Km.new ((2 : Nat) : Int)).2.L = [] := by decide +kernel
  rw [this]
  simp
theorem sk_app {s : St} {l : List Bs} {i k : Nat} {b : Bs} (h : Sk s l i k) (hb : l[i]? = some b) (hs : b.length ≤ 1048576) (hl : (s.F 2).length + (b.length + 7) ≤ 16777216) :
    wappE s 2 b = 0 ∧ Sk (wappS s 2 b) l (i + 1) k := by
  obtain ⟨p1, p2, p3, p4, p5, p6⟩ := wapp_cal h.cal (f := 2) (by decide) hs hl
  have hle := h.lg.le
  have hil : i < l.length := (List.getElem?_eq_some_iff.1 hb).1
  have htl : (l.take i).length = i := by rw [List.length_take]; omega
  have htk : l.take (i + 1) = l.take i ++ [b] := take_snoc hb
  have hdrop : (l.take (i + 1)).drop k = (l.take i).drop k ++ [b] := by rw [htk, List.drop_append_of_le_length (by omega)]
  refine ⟨p1, p2, ⟨by rw [p3, h.lg.file, htk, recs_append, recs_one], by rw [p4, h.lg.dur, htk, List.take_append_of_le_length (by omega)], by rw [htk, List.length_append]; omega, by rw [p5, h.lg.pend, hdrop]; simp, ?_⟩, ?_⟩
  · rw [htk]
    exact small_append h.lg.small (fun c hc => by rw [List.mem_singleton] at hc; subst hc; exact hs)
  · have ht : tooB b = false := by unfold tooB; exact decide_eq_false (by omega)
    have e : (wappS s 2 b).L = s.L ++ [(2, b.length + 7)] := by
      unfold wappS
      rw [ht, if_neg (by decide)]
      obtain ⟨_, h2⟩ := app_calm h.cal.idl (show 2 < 8 by decide) (b := recB b) (by rw [recB_length]; exact hl)
      rw [h2]
      unfold pushS
      rw [if_neg (recB_ne b), recB_length]
    rw [e, h.list, hdrop]
    simp
theorem sk_flush {s : St} {l : List Bs} {i k : Nat} (h : Sk s l i k) (hi : i ≤ l.length) : fluE s ((2 : Nat) : Int) = 0 ∧ Sk (fluS s ((2 : Nat) : Int)) l i i := by
  obtain ⟨q1, q2, q3, _⟩ := flush_cal h.cal (g := 2) (by decide)
  have htl : (l.take i).length = i := by rw [List.length_take]; omega
  have hdr : (l.take i).drop i = [] := by rw [List.drop_eq_nil_iff]; omega
  rw [h.lg.file] at q3
  refine ⟨q1, q2, ⟨q3.1, by rw [q3.2.1, List.take_take, Nat.min_self], by omega, by rw [q3.2.2, hdr]; rfl, h.lg.small⟩, ?_⟩
  rw [hdr]
  obtain ⟨_, h2⟩ := flu_calm h.cal.idl h.cal.lose (show 2 < 8 by decide)
  have h2' : ∀ p ∈ (fluS s ((2 : Nat) : Int)).L, p.1 = 2 := by
    rw [h2]
    refine fit_two (L := s.L) (fun p hp => ?_)
    rw [h.list] at hp
    obtain ⟨b, _, rfl⟩ := List.mem_map.1 hp
    rfl
  exact list_two (t := []) h2' q3.2.2
/-- What is found after the crash. -/
theorem sk_crash {s : St} {l : List Bs} {k : Nat} (h : Sk s l l.length k) (ks : List Int) (hk : k ≤ l.length) : val ((crashS ks s).F 2) = l.take (k + fulS ks 0 (l.drop k)) := by
  have hl : l.take l.length = l := List.take_length
  obtain ⟨y, h1, h2⟩ := lg_crash h.lg h.cal.idl.up ks
  rw [hl] at h1
  have hL := h.list
  rw [hl] at hL
  rw [h1, hL, ful_full]
  exact val_stop _ _ (small_take (by have := h.lg.small; rw [hl] at this; exact this) _) h2
end Go.Proofs.Ytdjchpejhfkknaa.Lw
