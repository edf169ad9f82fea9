/- Plain mathematics of a file that is appended to and flushed until a scheduled crash comes. Conditions: those of each lemma. -/
import Derived.Test.YtjgedopbcopnkaaKFacts
namespace Go.Proofs.Ytjgedopbcopnkaa
namespace Km

/-- File 0: what was flushed, and behind it the pending appends, none of them empty. -/
structure Pa (s : St) (safe : Bs) (ts : List Bs) : Prop where
  F : s.F 0 = safe ++ ts.flatten
  U : s.U 0 = safe.length
  L : s.L = ts.map fun t => (0, t.length)
  ne : ∀ t ∈ ts, t ≠ []
def fst (ts : List Bs) : Bs := ts.headD []
theorem pa_push {s : St} {safe : Bs} {ts : List Bs} (h : Pa s safe ts) (b : Bs) : Pa (pushS s 0 b) safe (if b = [] then ts else ts ++ [b]) := by
  by_cases hb : b = []
  · unfold pushS
    rw [if_pos hb, if_pos hb]
    exact h
  · rw [if_neg hb]
    refine ⟨?_, ?_, ?_, ?_⟩
    · rw [pushS_F, h.F]; simp
    · rw [pushS_U]; exact h.U
    · unfold pushS
      rw [if_neg hb]
      show s.L ++ [(0, b.length)] = _
      rw [h.L]
      simp
    · intro t ht
      rcases List.mem_append.1 ht with ht | ht
      · exact h.ne t ht
      · rw [List.mem_singleton] at ht; subst ht; exact hb
theorem pa_flush {s : St} {safe : Bs} {ts : List Bs} (h : Pa s safe ts) : Pa (fitS 0 (durS 0 s)) (safe ++ ts.flatten) [] := by
  have hl : (s.F 0).length - (durS 0 s).U 0 = 0 := by
    have : (durS 0 s).U 0 = (s.F 0).length := by
      show upd s.U 0 (s.F 0).length 0 = _
      rw [upd_same]
    omega
  refine ⟨by show s.F 0 = _; rw [h.F]; simp, ?_, ?_, fun t ht => by cases ht⟩
  · show upd s.U 0 (s.F 0).length 0 = _
    rw [upd_same, h.F]
  · show fit 0 ((s.F 0).length - (durS 0 s).U 0) s.L = []
    rw [hl]
    exact fit_zero 0 s.L (fun p hp => by rw [h.L] at hp; obtain ⟨t, _, rfl⟩ := List.mem_map.1 hp; rfl)
theorem crash_pa {s : St} {safe : Bs} {ts : List Bs} (hw : Wf s) (hu : s.down = false) (h : Pa s safe ts) (k : Int) : (crashS [k] s).F 0 = safe ++ (fst ts).take (surv [k] 0 (fst ts).length) := by
  rw [crash_up hu]
  show ((cEnd [k] s).F 0).take ((cEnd [k] s).U 0) = _
  cases ts with
  | nil =>
    have hL : s.L = [] := h.L
    have hc : cEnd [k] s = ⟨s.F, s.U, s.U⟩ := by unfold cEnd; rw [hL]; rfl
    rw [hc]
    show (s.F 0).take (s.U 0) = safe ++ List.take _ []
    rw [h.F, h.U]
    simp
  | cons t ts =>
    have hx := surv_le [k] 0 t.length
    have hlen : (s.F 0).length = safe.length + (t.length + ts.flatten.length) := by rw [h.F]; simp
    have hL0 : s.L[0]? = some (0, t.length) := by rw [h.L]; rfl
    have hall : ∀ (n : Nat) (p : Nat × Nat), s.L[n]? = some p → p.1 = 0 := by
      intro n p hp
      have hm := List.mem_of_getElem? hp
      rw [h.L] at hm
      obtain ⟨t', _, rfl⟩ := List.mem_map.1 hm
      rfl
    have key : ∀ n, n + 1 ≤ s.L.length → (cup [k] s.L ⟨s.F, s.U, s.U⟩ (n + 1)).U 0 = safe.length + surv [k] 0 t.length ∧
        ((cup [k] s.L ⟨s.F, s.U, s.U⟩ (n + 1)).F 0).take (safe.length + surv [k] 0 t.length) = (s.F 0).take (safe.length + surv [k] 0 t.length) ∧ safe.length + surv [k] 0 t.length ≤ (cup [k] s.L ⟨s.F, s.U, s.U⟩ (n + 1)).at_ 0 := by
      intro n
      induction n with
      | zero =>
        intro _
        rw [cup_succ hL0]
        show (if s.U 0 < s.U 0 + surv [k] 0 t.length then upd s.U 0 (s.U 0 + surv [k] 0 t.length) else s.U) 0 = _ ∧ (upd s.F 0 (zero (s.F 0) (s.U 0 + surv [k] 0 t.length) (s.U 0 + t.length)) 0).take _ = _ ∧ _ ≤ upd s.U 0 (s.U 0 + t.length) 0
        generalize surv [k] 0 t.length = x at *
        rw [upd_same, upd_same, h.U, zero_take _ _ _ _ (Nat.le_refl _) (by omega)]
        refine ⟨?_, rfl, by omega⟩
        by_cases hx0 : 0 < x
        · rw [if_pos (by omega), upd_same]
        · rw [if_neg (by omega), h.U]; omega
      | succ n ih =>
        intro hn
        obtain ⟨i1, i2, i3⟩ := ih (by omega)
        have hci := ci_up hw [k] (n + 1) (by omega)
        have hp : s.L[n + 1]? = some (s.L[n + 1]'(by omega)) := List.getElem?_eq_getElem (by omega)
        have hp0 := hall _ _ hp
        have hrm := ci_room hw hci hp
        rw [cup_succ hp]
        generalize s.L[n + 1]'(by omega) = p at *
        obtain ⟨p1, p2⟩ := p
        simp only at hp0
        subst hp0
        have hs : surv [k] (n + 1) p2 = 0 := surv_out _ _ _ (by simp)
        generalize cup [k] s.L ⟨s.F, s.U, s.U⟩ (n + 1) = c at *
        have htop := hci.top 0 (by decide)
        have hln := hci.len 0 (by decide)
        simp only [cstep, hs, Nat.add_zero, Nat.lt_irrefl, if_false, upd_same]
        refine ⟨i1, ?_, by omega⟩
        rw [zero_take _ _ _ _ i3 (by omega)]
        exact i2
    have hne : 1 ≤ s.L.length := by rw [h.L]; simp
    obtain ⟨m, hm⟩ : ∃ m, s.L.length = m + 1 := ⟨s.L.length - 1, by omega⟩
    obtain ⟨k1, k2, _⟩ := key m (by omega)
    unfold cEnd
    rw [hm, k1, k2, h.F]
    show List.take _ (safe ++ (t ++ ts.flatten)) = safe ++ List.take _ t
    rw [List.take_append, List.take_of_length_le (by omega), Nat.add_sub_cancel_left]
    congr 1
    exact List.take_append_of_le_length hx

/-- A disk that waits for a scheduled crash: m calls until it comes. -/
structure Wt (k : Int) (m : Nat) (s : St) : Prop where
  up : s.down = false
  crash : s.crash = m
  keep : s.keep = [k]
  lose : s.lose = 0
theorem due_pa {s : St} {safe : Bs} {ts : List Bs} (h : Pa s safe ts) : Pa (dueS s) safe ts := by
  unfold dueS
  split
  · exact h
  · exact ⟨h.F, h.U, h.L, h.ne⟩
theorem due_wt {k : Int} {m : Nat} {s : St} (h : Wt k (m + 1) s) : dueB s = decide (m = 0) ∧ Wt k m (dueS s) := by
  refine ⟨?_, ?_⟩
  · unfold dueB
    rw [h.up, h.crash]
    by_cases e : m = 0 <;> simp [e]
  · have e : dueS s = { s with crash := s.crash - 1 } := by unfold dueS; rw [h.up]; rfl
    rw [e]
    exact ⟨h.up, by show s.crash - 1 = m; rw [h.crash]; rfl, h.keep, h.lose⟩
theorem push_wt {k : Int} {m : Nat} {s : St} (h : Wt k m s) (b : Bs) : Wt k m (pushS s 0 b) := by
  unfold pushS
  split
  · exact h
  · exact ⟨h.up, h.crash, h.keep, h.lose⟩
/-- An append before the crash comes. -/
theorem app_wt {k : Int} {m : Nat} {s : St} {safe : Bs} {ts : List Bs} (h : Wt k (m + 1 + 1) s) (hp : Pa s safe ts) (b : Bs) (hl : (s.F 0).length + b.length ≤ 16777216) :
    appE s ((0 : Nat) : Int) b = 0 ∧ Wt k (m + 1) (appS s ((0 : Nat) : Int) b) ∧ Pa (appS s ((0 : Nat) : Int) b) safe (if b = [] then ts else ts ++ [b]) := by
  obtain ⟨h1, h2⟩ := due_wt h
  have hb : dueB s = false := by rw [h1]; simp
  have hl' : ((dueS s).F 0).length + b.length ≤ 16777216 := by rw [(due_pa hp).F, ← hp.F]; exact hl
  unfold appE appS
  rw [hb]
  refine ⟨addE_ok h2.up (by decide) hl', ?_, ?_⟩
  · show Wt k (m + 1) (addS (dueS s) ((0 : Nat) : Int) b)
    rw [addS_ok h2.up (by decide) hl']
    exact push_wt h2 b
  · show Pa (addS (dueS s) ((0 : Nat) : Int) b) _ _
    rw [addS_ok h2.up (by decide) hl']
    exact pa_push (due_pa hp) b
/-- The append at which the crash comes. -/
theorem app_wt1 {k : Int} {s : St} {safe : Bs} {ts : List Bs} (hw : Wf s) (h : Wt k 1 s) (hp : Pa s safe ts) (b : Bs) (hl : (s.F 0).length + b.length ≤ 16777216) :
    appE s ((0 : Nat) : Int) b = 9 ∧ (appS s ((0 : Nat) : Int) b).down = true ∧ (appS s ((0 : Nat) : Int) b).F 0 = safe ++ (fst (if b = [] then ts else ts ++ [b])).take (surv [k] 0 (fst (if b = [] then ts else ts ++ [b])).length) := by
  obtain ⟨h1, h2⟩ := due_wt h
  have hb : dueB s = true := by rw [h1]; simp
  have hl' : ((dueS s).F 0).length + b.length ≤ 16777216 := by rw [(due_pa hp).F, ← hp.F]; exact hl
  have hwp : Wf (pushS (dueS s) 0 b) := by rw [← addS_ok h2.up (by decide) hl']; exact wf_add (wf_due hw) _ _
  unfold appE appS
  rw [hb, h.keep]
  refine ⟨rfl, crash_isdown _ _, ?_⟩
  show (crashS [k] (addS (dueS s) ((0 : Nat) : Int) b)).F 0 = _
  rw [addS_ok h2.up (by decide) hl']
  exact crash_pa hwp (push_wt h2 b).up (pa_push (due_pa hp) b) k
theorem flu_wt {k : Int} {m : Nat} {s : St} {safe : Bs} {ts : List Bs} (h : Wt k (m + 1 + 1) s) (hp : Pa s safe ts) :
    fluE s ((0 : Nat) : Int) = 0 ∧ Wt k (m + 1) (fluS s ((0 : Nat) : Int)) ∧ Pa (fluS s ((0 : Nat) : Int)) (safe ++ ts.flatten) [] := by
  obtain ⟨h1, h2⟩ := due_wt h
  have hb : dueB s = false := by rw [h1]; simp
  have he : entS s = dueS s := by unfold entS; rw [hb]; rfl
  have hk : chk (dueS s) (okF ((0 : Nat) : Int)) = 0 := by rw [okF_nat (by decide)]; unfold chk; rw [h2.up]; rfl
  unfold fluE fluS
  rw [he, if_pos hk, if_pos hk, h2.lose]
  refine ⟨rfl, ?_, ?_⟩
  · show Wt k (m + 1) (fitS 0 (durS 0 (dueS s)))
    exact ⟨h2.up, h2.crash, h2.keep, h2.lose⟩
  · show Pa (fitS 0 (durS 0 (dueS s))) _ _
    exact pa_flush (due_pa hp)
theorem flu_wt1 {k : Int} {s : St} {safe : Bs} {ts : List Bs} (hw : Wf s) (h : Wt k 1 s) (hp : Pa s safe ts) :
    fluE s ((0 : Nat) : Int) = 9 ∧ (fluS s ((0 : Nat) : Int)).down = true ∧ (fluS s ((0 : Nat) : Int)).F 0 = safe ++ (fst ts).take (surv [k] 0 (fst ts).length) := by
  obtain ⟨h1, h2⟩ := due_wt h
  have hb : dueB s = true := by rw [h1]; simp
  have he : entS s = crashS [k] (dueS s) := by unfold entS; rw [hb, h.keep]; rfl
  have hk : chk (crashS [k] (dueS s)) (okF ((0 : Nat) : Int)) = 9 := by unfold chk; rw [crash_isdown]; rfl
  unfold fluE fluS
  rw [he, hk, if_neg (by decide), if_neg (by decide)]
  exact ⟨rfl, crash_isdown _ _, crash_pa (wf_due hw) h2.up (due_pa hp) k⟩
theorem arm_wt (k : Int) (n : Nat) (hn : 1 ≤ n) : Wt k n (armS Km.new (n : Int) [k]) ∧ Pa (armS Km.new (n : Int) [k]) [] [] := by
  unfold armS
  rw [if_pos (by omega)]
  exact ⟨⟨rfl, rfl, rfl, rfl⟩, ⟨rfl, rfl, rfl, fun t ht => by cases ht⟩⟩
def len (l : List Bs) : Nat := (l.map List.length).sum
theorem len_take (l : List Bs) (j : Nat) (t : Bs) (h : l[j]? = some t) : len (l.take (j + 1)) = len (l.take j) + t.length := by
  unfold len
  rw [take_snoc h]
  simp
theorem len_le (l : List Bs) (j : Nat) : len (l.take j) ≤ len l := by
  have h : len l = len (l.take j) + len (l.drop j) := by
    unfold len
    rw [← List.sum_append, ← List.map_append, List.take_append_drop]
  omega
theorem fst_len (ts : List Bs) : (fst ts).length ≤ ts.flatten.length := by
  cases ts with
  | nil => simp [fst]
  | cons t ts => simp [fst]
end Km
end Go.Proofs.Ytjgedopbcopnkaa
