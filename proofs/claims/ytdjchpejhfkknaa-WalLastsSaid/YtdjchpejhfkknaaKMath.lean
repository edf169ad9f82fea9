/- Plain mathematics of a disk: eight files with a durable part and pending appends, what a flush, a cut, a turn and a crash make of them. Conditions: those of each lemma. -/
namespace Go.Proofs.Ytdjchpejhfkknaa
namespace Km
abbrev Bs := List UInt8
abbrev Pd := List (Nat × Nat)
def J64 (n : Int) : Prop := -9223372036854775808 ≤ n ∧ n ≤ 9223372036854775807

structure St where
  F : Nat → Bs
  U : Nat → Nat
  L : Pd
  down : Bool
  lose : Nat
  crash : Nat
  keep : List Int

def upd {α : Type} (f : Nat → α) (i : Nat) (x : α) : Nat → α := fun j => if j = i then x else f j
theorem upd_same {α : Type} (f : Nat → α) (i : Nat) (x : α) : upd f i x i = x := by simp [upd]
theorem upd_other {α : Type} (f : Nat → α) (i j : Nat) (x : α) (h : j ≠ i) : upd f i x j = f j := by simp [upd, h]

/-- How many bytes of the list belong to file f. -/
def sumF (f : Nat) : Pd → Nat
  | [] => 0
  | p :: t => (if p.1 = f then p.2 else 0) + sumF f t
theorem sumF_append (f : Nat) (a b : Pd) : sumF f (a ++ b) = sumF f a + sumF f b := by
  induction a with
  | nil => simp [sumF]
  | cons p t ih => simp [sumF, ih]; omega
theorem sumF_filter (f : Nat) (l : Pd) : sumF f (l.filter fun p => p.2 != 0) = sumF f l := by
  induction l with
  | nil => rfl
  | cons p t ih =>
    rw [List.filter_cons]
    by_cases h : p.2 = 0
    · simp [h, sumF, ih]
    · simp [h, sumF, ih]

structure Wf (s : St) : Prop where
  files : ∀ p ∈ s.L, p.1 < 8 ∧ 1 ≤ p.2
  sums : ∀ f, f < 8 → s.U f + sumF f s.L ≤ (s.F f).length
  len : ∀ f, f < 8 → (s.F f).length ≤ 16777216
  lose : s.lose ≤ 9223372036854775807
  crash : s.crash ≤ 9223372036854775807
  keep : ∀ z ∈ s.keep, J64 z
  keepl : s.keep.length ≤ 17592186044416

theorem len_of_sums (l : Pd) (h : ∀ p ∈ l, p.1 < 8 ∧ 1 ≤ p.2) : l.length ≤ sumF 0 l + sumF 1 l + sumF 2 l + sumF 3 l + sumF 4 l + sumF 5 l + sumF 6 l + sumF 7 l := by
  induction l with
  | nil => simp
  | cons p t ih =>
    have h1 := h p (by simp)
    have h2 := ih fun q hq => h q (by simp [hq])
    have hc : p.1 = 0 ∨ p.1 = 1 ∨ p.1 = 2 ∨ p.1 = 3 ∨ p.1 = 4 ∨ p.1 = 5 ∨ p.1 = 6 ∨ p.1 = 7 := by omega
    simp only [sumF, List.length_cons]
    rcases hc with e | e | e | e | e | e | e | e <;> rw [e] <;> simp <;> omega
theorem Wf.list {s : St} (h : Wf s) : s.L.length ≤ 134217728 := by
  have h1 := len_of_sums s.L h.files
  have s0 := h.sums 0 (by decide)
  have s1 := h.sums 1 (by decide)
  have s2 := h.sums 2 (by decide)
  have s3 := h.sums 3 (by decide)
  have s4 := h.sums 4 (by decide)
  have s5 := h.sums 5 (by decide)
  have s6 := h.sums 6 (by decide)
  have s7 := h.sums 7 (by decide)
  have l0 := h.len 0 (by decide)
  have l1 := h.len 1 (by decide)
  have l2 := h.len 2 (by decide)
  have l3 := h.len 3 (by decide)
  have l4 := h.len 4 (by decide)
  have l5 := h.len 5 (by decide)
  have l6 := h.len 6 (by decide)
  have l7 := h.len 7 (by decide)
  omega
theorem sumF_mem {f : Nat} {l : Pd} {p : Nat × Nat} (h : p ∈ l) (hf : p.1 = f) : p.2 ≤ sumF f l := by
  induction l with
  | nil => cases h
  | cons q t ih =>
    rcases List.mem_cons.1 h with rfl | h
    · simp only [sumF]; rw [if_pos hf]; omega
    · have := ih h; simp only [sumF]; omega

def new : St := ⟨fun _ => [], fun _ => 0, [], false, 0, 0, []⟩
theorem wf_new : Wf new := ⟨fun p h => (by cases h), fun f _ => by simp [new, sumF], fun f _ => by simp [new], by decide, by decide, fun z h => (by cases h), by decide⟩

/-- The list is shortened for file f to the bytes that are left. -/
def fitL (f : Nat) : Nat → Pd → Pd
  | _, [] => []
  | left, p :: t => if p.1 = f then (p.1, min p.2 left) :: fitL f (left - min p.2 left) t else p :: fitL f left t
def fitR (f : Nat) : Nat → Pd → Nat
  | left, [] => left
  | left, p :: t => if p.1 = f then fitR f (left - min p.2 left) t else fitR f left t
theorem fitL_length (f left : Nat) (l : Pd) : (fitL f left l).length = l.length := by
  induction l generalizing left with
  | nil => rfl
  | cons p t ih => simp only [fitL]; split <;> simp [ih]
theorem fitR_le (f left : Nat) (l : Pd) : fitR f left l ≤ left := by
  induction l generalizing left with
  | nil => exact Nat.le_refl _
  | cons p t ih =>
    simp only [fitR]
    split
    · have := ih (left - min p.2 left); omega
    · exact ih left
theorem fitL_snoc (f left : Nat) (l : Pd) (p : Nat × Nat) : fitL f left (l ++ [p]) = fitL f left l ++ [if p.1 = f then (p.1, min p.2 (fitR f left l)) else p] := by
  induction l generalizing left with
  | nil => simp only [List.nil_append, fitL, fitR]; split <;> rfl
  | cons q t ih => simp only [List.cons_append, fitL, fitR]; split <;> simp [ih]
theorem fitR_snoc (f left : Nat) (l : Pd) (p : Nat × Nat) : fitR f left (l ++ [p]) = if p.1 = f then fitR f left l - min p.2 (fitR f left l) else fitR f left l := by
  induction l generalizing left with
  | nil => simp only [List.nil_append, fitR]
  | cons q t ih => simp only [List.cons_append, fitR]; split <;> simp [ih]
theorem fitL_sum (f left : Nat) (l : Pd) : sumF f (fitL f left l) ≤ left := by
  induction l generalizing left with
  | nil => simp [fitL, sumF]
  | cons p t ih =>
    simp only [fitL]
    split
    · next h => have := ih (left - min p.2 left); simp only [sumF]; rw [if_pos h]; omega
    · next h => have := ih left; simp only [sumF]; rw [if_neg h]; omega
theorem fitL_other (f g left : Nat) (h : g ≠ f) (l : Pd) : sumF g (fitL f left l) = sumF g l := by
  induction l generalizing left with
  | nil => rfl
  | cons p t ih =>
    simp only [fitL]
    split
    · next hp => simp only [sumF, ih]; rw [if_neg (by omega), if_neg (by omega)]
    · simp only [sumF, ih]
theorem fitL_first (f left : Nat) (l : Pd) (h : ∀ p ∈ l, p.1 < 8) : ∀ p ∈ fitL f left l, p.1 < 8 := by
  induction l generalizing left with
  | nil => intro p hp; cases hp
  | cons q t ih =>
    have hq := h q (by simp)
    have ht := fun p hp => h p (List.mem_cons_of_mem _ hp)
    simp only [fitL]
    split
    · intro p hp
      rcases List.mem_cons.1 hp with rfl | hp
      · exact hq
      · exact ih _ ht p hp
    · intro p hp
      rcases List.mem_cons.1 hp with rfl | hp
      · exact hq
      · exact ih _ ht p hp
def fit (f : Nat) (left : Nat) (l : Pd) : Pd := (fitL f left l).filter fun p => p.2 != 0
/-- The state behind a fit of file f. -/
def fitS (f : Nat) (s : St) : St := { s with L := fit f ((s.F f).length - s.U f) s.L }
/-- A state whose list may be too long for file f alone. -/
structure Wg (f : Nat) (s : St) : Prop where
  files : ∀ p ∈ s.L, p.1 < 8 ∧ 1 ≤ p.2
  dur : s.U f ≤ (s.F f).length
  sums : ∀ g, g < 8 → g ≠ f → s.U g + sumF g s.L ≤ (s.F g).length
  len : ∀ f, f < 8 → (s.F f).length ≤ 16777216
  lose : s.lose ≤ 9223372036854775807
  crash : s.crash ≤ 9223372036854775807
  keep : ∀ z ∈ s.keep, J64 z
  keepl : s.keep.length ≤ 17592186044416
  list : s.L.length ≤ 134217728
theorem wf_fit {f : Nat} {s : St} (h : Wg f s) : Wf (fitS f s) := by
  refine ⟨?_, ?_, h.len, h.lose, h.crash, h.keep, h.keepl⟩
  · intro p hp
    obtain ⟨h1, h2⟩ := List.mem_filter.1 hp
    refine ⟨fitL_first f _ _ (fun q hq => (h.files q hq).1) p h1, ?_⟩
    simp at h2
    omega
  · intro g hg
    show s.U g + sumF g (fit f ((s.F f).length - s.U f) s.L) ≤ (s.F g).length
    unfold fit
    rw [sumF_filter]
    by_cases e : g = f
    · subst e
      have := fitL_sum g ((s.F g).length - s.U g) s.L
      have := h.dur
      omega
    · rw [fitL_other f g _ e]
      exact h.sums g hg e
theorem fit_zero (f : Nat) (l : Pd) (h : ∀ p ∈ l, p.1 = f) : fit f 0 l = [] := by
  unfold fit
  induction l with
  | nil => rfl
  | cons p t ih =>
    have hp := h p (by simp)
    simp only [fitL]
    rw [if_pos hp, List.filter_cons]
    simp only [Nat.min_zero, Nat.sub_zero]
    simpa using ih fun q hq => h q (by simp [hq])

/-- How many bytes of the pending append i survive. -/
def surv (keep : List Int) (i size : Nat) : Nat := min (max (keep.getD i 0) 0).toNat size
theorem surv_le (keep : List Int) (i size : Nat) : surv keep i size ≤ size := Nat.min_le_right _ _
theorem surv_out (keep : List Int) (i size : Nat) (h : keep.length ≤ i) : surv keep i size = 0 := by
  unfold surv
  rw [List.getD_eq_getElem?_getD, List.getElem?_eq_none h]
  simp
def zero (l : Bs) (a b : Nat) : Bs := l.take a ++ List.replicate (b - a) 0 ++ l.drop b
theorem zero_length (l : Bs) (a b : Nat) (h : a ≤ b) (hb : b ≤ l.length) : (zero l a b).length = l.length := by
  simp [zero]; omega
theorem zero_take (l : Bs) (a b n : Nat) (h : n ≤ a) (ha : a ≤ l.length) : (zero l a b).take n = l.take n := by
  unfold zero
  rw [List.append_assoc, List.take_append_of_le_length (by rw [List.length_take]; omega), List.take_take]
  rw [Nat.min_eq_left h]
theorem zero_same (l : Bs) (a : Nat) : zero l a a = l := by simp [zero]
theorem zero_at (l : Bs) (a b j : Nat) (h : a ≤ b) (hb : b ≤ l.length) (hj : j < l.length) : (zero l a b)[j]? = some (if a ≤ j ∧ j < b then 0 else l.getD j 0) := by
  unfold zero
  rw [List.append_assoc, List.getElem?_append, List.length_take]
  split
  · next h1 =>
    rw [List.getElem?_take_of_lt (by omega), if_neg (by omega), List.getD_eq_getElem?_getD, List.getElem?_eq_getElem hj]
    rfl
  · next h1 =>
    have ha : min a l.length = a := by omega
    rw [ha] at h1 ⊢
    rw [List.getElem?_append, List.length_replicate]
    split
    · next h2 => rw [List.getElem?_replicate, if_pos (by omega), if_pos (by omega)]
    · next h2 =>
      rw [List.getElem?_drop, if_neg (by omega), List.getD_eq_getElem?_getD, show b + (j - a - (b - a)) = j by omega, List.getElem?_eq_getElem hj]
      rfl

structure Cs where
  F : Nat → Bs
  U : Nat → Nat
  at_ : Nat → Nat
def cstep (keep : List Int) (i : Nat) (p : Nat × Nat) (c : Cs) : Cs :=
  { F := upd c.F p.1 (zero (c.F p.1) (c.at_ p.1 + surv keep i p.2) (c.at_ p.1 + p.2)),
    U := if c.at_ p.1 < c.at_ p.1 + surv keep i p.2 then upd c.U p.1 (c.at_ p.1 + surv keep i p.2) else c.U,
    at_ := upd c.at_ p.1 (c.at_ p.1 + p.2) }
/-- The state of a crash behind its first n pending appends. -/
def cup (keep : List Int) (L : Pd) (c : Cs) : Nat → Cs
  | 0 => c
  | n + 1 => match L[n]? with
    | some p => cstep keep n p (cup keep L c n)
    | none => cup keep L c n
theorem cup_succ {keep : List Int} {L : Pd} {c : Cs} {n : Nat} {p : Nat × Nat} (h : L[n]? = some p) : cup keep L c (n + 1) = cstep keep n p (cup keep L c n) := by
  simp only [cup, h]
def cEnd (keep : List Int) (s : St) : Cs := cup keep s.L ⟨s.F, s.U, s.U⟩ s.L.length
def crashS (keep : List Int) (s : St) : St :=
  if s.down then s else { F := fun f => ((cEnd keep s).F f).take ((cEnd keep s).U f), U := (cEnd keep s).U, L := [], down := true, lose := s.lose, crash := 0, keep := [] }

/-- What holds of a crash behind its first n pending appends. -/
structure Ci (s : St) (n : Nat) (c : Cs) : Prop where
  len : ∀ f, f < 8 → (c.F f).length = (s.F f).length
  at_ : ∀ f, f < 8 → c.at_ f = s.U f + sumF f (s.L.take n)
  low : ∀ f, f < 8 → s.U f ≤ c.U f
  dur : ∀ f, f < 8 → c.U f ≤ c.at_ f
  top : ∀ f, f < 8 → c.at_ f ≤ (s.F f).length
  keep : ∀ f, f < 8 → (c.F f).take (s.U f) = (s.F f).take (s.U f)
  byte : ∀ f, f < 8 → ∀ j, j < (s.F f).length → (c.F f)[j]? = some ((s.F f).getD j 0) ∨ (c.F f)[j]? = some 0
theorem take_snoc {α : Type} {l : List α} {n : Nat} {p : α} (h : l[n]? = some p) : l.take (n + 1) = l.take n ++ [p] := by
  obtain ⟨hn, rfl⟩ := List.getElem?_eq_some_iff.1 h
  rw [List.take_succ_eq_append_getElem hn]
theorem sumF_take_le (f : Nat) (l : Pd) (n : Nat) : sumF f (l.take n) ≤ sumF f l := by
  have h := sumF_append f (l.take n) (l.drop n)
  rw [List.take_append_drop] at h
  omega
theorem ci_zero {s : St} (h : Wf s) : Ci s 0 ⟨s.F, s.U, s.U⟩ :=
  ⟨fun _ _ => rfl, fun f _ => by simp [sumF], fun _ _ => Nat.le_refl _, fun _ _ => Nat.le_refl _, fun f hf => by have := h.sums f hf; show s.U f ≤ _; omega, fun _ _ => rfl,
    fun f _ j hj => .inl (by show (s.F f)[j]? = _; rw [List.getD_eq_getElem?_getD, List.getElem?_eq_getElem hj]; rfl)⟩
/-- One pending append more: its end lies in the file. -/
theorem ci_room {s : St} (h : Wf s) {n : Nat} {c : Cs} (hc : Ci s n c) {p : Nat × Nat} (hp : s.L[n]? = some p) : p.1 < 8 ∧ 1 ≤ p.2 ∧ c.at_ p.1 + p.2 ≤ (s.F p.1).length := by
  obtain ⟨h1, h2⟩ := h.files p (List.mem_of_getElem? hp)
  refine ⟨h1, h2, ?_⟩
  have h3 := sumF_take_le p.1 s.L (n + 1)
  rw [take_snoc hp, sumF_append] at h3
  simp only [sumF, if_true] at h3
  have h4 := hc.at_ p.1 h1
  have h5 := h.sums p.1 h1
  omega
theorem ci_step {s : St} (h : Wf s) {n : Nat} {c : Cs} (keep : List Int) (hc : Ci s n c) {p : Nat × Nat} (hp : s.L[n]? = some p) : Ci s (n + 1) (cstep keep n p c) := by
  obtain ⟨h1, h2, h3⟩ := ci_room h hc hp
  have hs := surv_le keep n p.2
  have hlen := hc.len p.1 h1
  have hlow := hc.low p.1 h1
  have hdur := hc.dur p.1 h1
  have hU : (cstep keep n p c).U p.1 ≤ c.at_ p.1 + p.2 ∧ s.U p.1 ≤ (cstep keep n p c).U p.1 := by
    simp only [cstep]
    split
    · rw [upd_same]; omega
    · omega
  have hU' : ∀ f, f ≠ p.1 → (cstep keep n p c).U f = c.U f := by
    intro f hf
    simp only [cstep]
    split
    · rw [upd_other _ _ _ _ hf]
    · rfl
  have hA : (cstep keep n p c).at_ p.1 = c.at_ p.1 + p.2 := by simp only [cstep, upd_same]
  have hA' : ∀ f, f ≠ p.1 → (cstep keep n p c).at_ f = c.at_ f := fun f hf => by simp only [cstep, upd_other _ _ _ _ hf]
  have hF : (cstep keep n p c).F p.1 = zero (c.F p.1) (c.at_ p.1 + surv keep n p.2) (c.at_ p.1 + p.2) := by simp only [cstep, upd_same]
  have hF' : ∀ f, f ≠ p.1 → (cstep keep n p c).F f = c.F f := fun f hf => by simp only [cstep, upd_other _ _ _ _ hf]
  refine ⟨?_, ?_, ?_, ?_, ?_, ?_, ?_⟩
  · intro f hf
    by_cases e : f = p.1
    · subst e; rw [hF, zero_length _ _ _ (by omega) (by omega), hlen]
    · rw [hF' f e]; exact hc.len f hf
  · intro f hf
    rw [take_snoc hp, sumF_append]
    by_cases e : f = p.1
    · subst e; rw [hA, hc.at_ _ hf]; simp [sumF]; omega
    · rw [hA' f e, hc.at_ _ hf]; simp only [sumF]; rw [if_neg (by omega)]; omega
  · intro f hf
    by_cases e : f = p.1
    · subst e; exact hU.2
    · rw [hU' f e]; exact hc.low f hf
  · intro f hf
    by_cases e : f = p.1
    · subst e; rw [hA]; exact hU.1
    · rw [hU' f e, hA' f e]; exact hc.dur f hf
  · intro f hf
    by_cases e : f = p.1
    · subst e; rw [hA]; exact h3
    · rw [hA' f e]; exact hc.top f hf
  · intro f hf
    by_cases e : f = p.1
    · subst e; rw [hF, zero_take _ _ _ _ (by omega) (by omega)]; exact hc.keep _ hf
    · rw [hF' f e]; exact hc.keep f hf
  · intro f hf j hj
    by_cases e : f = p.1
    · subst e
      rw [hF, zero_at _ _ _ _ (by omega) (by omega) (by omega)]
      split
      · exact .inr rfl
      · rcases hc.byte _ hf j hj with hb | hb
        · left; rw [List.getD_eq_getElem?_getD, hb]; rfl
        · right; rw [List.getD_eq_getElem?_getD, hb]; rfl
    · rw [hF' f e]; exact hc.byte f hf j hj
theorem ci_up {s : St} (h : Wf s) (keep : List Int) : ∀ n, n ≤ s.L.length → Ci s n (cup keep s.L ⟨s.F, s.U, s.U⟩ n)
  | 0, _ => ci_zero h
  | n + 1, hn => by
    rw [cup_succ (List.getElem?_eq_getElem hn)]
    exact ci_step h keep (ci_up h keep n (by omega)) (List.getElem?_eq_getElem hn)
theorem ci_end {s : St} (h : Wf s) (keep : List Int) : Ci s s.L.length (cEnd keep s) := ci_up h keep _ (Nat.le_refl _)
theorem wf_crash {s : St} (h : Wf s) (keep : List Int) : Wf (crashS keep s) := by
  unfold crashS
  split
  · exact h
  · have hc := ci_end h keep
    refine ⟨fun p hp => (by cases hp), fun f hf => ?_, fun f hf => ?_, h.lose, Nat.zero_le _, fun z hz => (by cases hz), Nat.zero_le _⟩
    · have h1 := hc.len f hf
      have h2 := hc.dur f hf
      have h3 := hc.top f hf
      show (cEnd keep s).U f + 0 ≤ (((cEnd keep s).F f).take _).length
      rw [List.length_take]
      omega
    · have h1 := hc.len f hf
      have h2 := h.len f hf
      show (((cEnd keep s).F f).take _).length ≤ _
      rw [List.length_take]
      omega

/-- The schedule counts a call. -/
def dueB (s : St) : Bool := !s.down && s.crash == 1
def dueS (s : St) : St := if s.down then s else { s with crash := s.crash - 1 }
theorem wf_due {s : St} (h : Wf s) : Wf (dueS s) := by
  unfold dueS
  split
  · exact h
  · exact ⟨h.files, h.sums, h.len, h.lose, by have := h.crash; show s.crash - 1 ≤ _; omega, h.keep, h.keepl⟩
/-- A call that is not performed if the crash comes. -/
def entS (s : St) : St := if dueB s then crashS s.keep (dueS s) else dueS s
theorem wf_ent {s : St} (h : Wf s) : Wf (entS s) := by
  unfold entS
  split
  · exact wf_crash (wf_due h) _
  · exact wf_due h
/-- The first of the errors. -/
def chk (s : St) (ok : Bool) : Int := if s.down then 9 else if ok then 0 else 1
def okF (n : Int) : Bool := decide (0 ≤ n) && decide (n < 8)

def addE (s : St) (f : Int) (b : Bs) : Int := if chk s (okF f) = 0 then (if 16777216 < (s.F f.toNat).length + b.length then 8 else 0) else chk s (okF f)
def addS (s : St) (f : Int) (b : Bs) : St := if addE s f b = 0 ∧ b ≠ [] then { s with F := upd s.F f.toNat (s.F f.toNat ++ b), L := s.L ++ [(f.toNat, b.length)] } else s
theorem chk_zero {s : St} {b : Bool} (h : chk s b = 0) : s.down = false ∧ b = true := by
  unfold chk at h
  cases hd : s.down <;> cases hb : b <;> simp [hd, hb] at h ⊢
theorem okF_lt {n : Int} (h : okF n = true) : 0 ≤ n ∧ n.toNat < 8 ∧ n = (n.toNat : Nat) := by
  unfold okF at h
  simp at h
  omega
theorem wf_add {s : St} (h : Wf s) (f : Int) (b : Bs) : Wf (addS s f b) := by
  unfold addS
  split
  · next hc =>
    obtain ⟨h1, h2⟩ := hc
    have hk : chk s (okF f) = 0 := by
      unfold addE at h1
      split at h1
      · assumption
      · assumption
    have hl : ¬ 16777216 < (s.F f.toNat).length + b.length := by
      intro hl
      unfold addE at h1
      rw [if_pos hk, if_pos hl] at h1
      cases h1
    obtain ⟨h3, h4, h5⟩ := okF_lt (chk_zero hk).2
    have hb : 1 ≤ b.length := by
      rcases b with _ | ⟨x, t⟩
      · exact absurd rfl h2
      · simp
    refine ⟨?_, ?_, ?_, h.lose, h.crash, h.keep, h.keepl⟩
    · intro p hp
      rcases List.mem_append.1 hp with hp | hp
      · exact h.files p hp
      · rw [List.mem_singleton] at hp
        subst hp
        exact ⟨h4, hb⟩
    · intro g hg
      have hs := h.sums g hg
      show s.U g + sumF g (s.L ++ [_]) ≤ (upd s.F f.toNat _ g).length
      rw [sumF_append]
      by_cases e : g = f.toNat
      · subst e; rw [upd_same]; simp [sumF]; omega
      · rw [upd_other _ _ _ _ e]; simp only [sumF]; rw [if_neg (by omega)]; omega
    · intro g hg
      show (upd s.F f.toNat _ g).length ≤ _
      by_cases e : g = f.toNat
      · subst e; rw [upd_same, List.length_append]; omega
      · rw [upd_other _ _ _ _ e]; exact h.len g hg
  · exact h
def appE (s : St) (f : Int) (b : Bs) : Int := if dueB s then 9 else addE (dueS s) f b
def appS (s : St) (f : Int) (b : Bs) : St := if dueB s then crashS s.keep (addS (dueS s) f b) else addS (dueS s) f b
theorem wf_app {s : St} (h : Wf s) (f : Int) (b : Bs) : Wf (appS s f b) := by
  unfold appS
  split
  · exact wf_crash (wf_add (wf_due h) _ _) _
  · exact wf_add (wf_due h) _ _
def readE (s : St) (f : Int) : Int := chk s (okF f)
def readB (s : St) (f : Int) : Bs := if chk s (okF f) = 0 then s.F f.toNat else []
def sizeN (s : St) (f : Int) : Nat := if okF f then (s.F f.toNat).length else 0

def fluE (s : St) (f : Int) : Int := if chk (entS s) (okF f) = 0 then (if 0 < (entS s).lose then 13 else 0) else chk (entS s) (okF f)
def durS (f : Nat) (s : St) : St := { s with U := upd s.U f (s.F f).length }
def fluS (s : St) (f : Int) : St :=
  if chk (entS s) (okF f) = 0 then (if 0 < (entS s).lose then { entS s with lose := (entS s).lose - 1 } else fitS f.toNat (durS f.toNat (entS s))) else entS s
theorem wg_dur {s : St} (h : Wf s) (f : Nat) : Wg f (durS f s) :=
  ⟨h.files, by simp [durS, upd_same], fun g hg e => by have := h.sums g hg; simp only [durS, upd_other _ _ _ _ e]; omega, h.len, h.lose, h.crash, h.keep, h.keepl, h.list⟩
theorem wf_flu {s : St} (h : Wf s) (f : Int) : Wf (fluS s f) := by
  have he := wf_ent h
  unfold fluS
  split
  · split
    · exact ⟨he.files, he.sums, he.len, by have := he.lose; show (entS s).lose - 1 ≤ _; omega, he.crash, he.keep, he.keepl⟩
    · exact wf_fit (wg_dur he _)
  · exact he
def cutE (s : St) (f n : Int) : Int := if chk (entS s) (okF f) = 0 then (if n < 0 ∨ ((entS s).F f.toNat).length < n then 1 else 0) else chk (entS s) (okF f)
def shoS (f n : Nat) (s : St) : St := { s with F := upd s.F f ((s.F f).take n), U := upd s.U f (min (s.U f) n) }
def cutS (s : St) (f n : Int) : St := if cutE s f n = 0 then fitS f.toNat (shoS f.toNat n.toNat (entS s)) else entS s
theorem wg_sho {s : St} (h : Wf s) (f n : Nat) (hf : f < 8) : Wg f (shoS f n s) :=
  ⟨h.files, by have := h.sums f hf; simp only [shoS, upd_same, List.length_take]; omega, fun g hg e => by have := h.sums g hg; simp only [shoS, upd_other _ _ _ _ e]; omega,
    fun g hg => by
      have := h.len g hg
      by_cases e : g = f
      · subst e; simp only [shoS, upd_same, List.length_take]; omega
      · simp only [shoS, upd_other _ _ _ _ e]; omega, h.lose, h.crash, h.keep, h.keepl, h.list⟩
theorem cutE_zero {s : St} {f n : Int} (h : cutE s f n = 0) : chk (entS s) (okF f) = 0 ∧ 0 ≤ n ∧ n ≤ ((entS s).F f.toNat).length := by
  unfold cutE at h
  split at h
  · next hk =>
    split at h
    · cases h
    · exact ⟨hk, by omega, by omega⟩
  · next hk => exact absurd h hk
theorem wf_cut {s : St} (h : Wf s) (f n : Int) : Wf (cutS s f n) := by
  unfold cutS
  split
  · next hc => exact wf_fit (wg_sho (wf_ent h) _ _ (okF_lt (chk_zero (cutE_zero hc).1).2).2.1)
  · exact wf_ent h
def turE (s : St) (f g : Int) : Int :=
  if chk (entS s) (okF f && okF g) = 0 then (if f = g then 1 else if (entS s).U g.toNat < ((entS s).F g.toNat).length then 10 else 0) else chk (entS s) (okF f && okF g)
def movS (f g : Nat) (s : St) : St := { s with F := upd (upd s.F f (s.F g)) g [], U := upd (upd s.U f (s.U g)) g 0 }
def turS (s : St) (f g : Int) : St := if turE s f g = 0 then fitS f.toNat (movS f.toNat g.toNat (entS s)) else entS s
theorem turE_zero {s : St} {f g : Int} (h : turE s f g = 0) : chk (entS s) (okF f && okF g) = 0 ∧ f ≠ g ∧ ((entS s).F g.toNat).length ≤ (entS s).U g.toNat := by
  unfold turE at h
  split at h
  · next hk =>
    split at h
    · cases h
    · next hn =>
      split at h
      · cases h
      · exact ⟨hk, hn, by omega⟩
  · next hk => exact absurd h hk
theorem wg_mov {s : St} (h : Wf s) (f g : Nat) (hf : f < 8) (hg : g < 8) (hne : f ≠ g) (hd : (s.F g).length ≤ s.U g) : Wg f (movS f g s) := by
  have hsg := h.sums g hg
  refine ⟨h.files, ?_, ?_, ?_, h.lose, h.crash, h.keep, h.keepl, h.list⟩
  · simp only [movS, upd_other _ _ _ _ hne, upd_same]; omega
  · intro k hk e
    by_cases e2 : k = g
    · subst e2; simp only [movS, upd_same]; simp; omega
    · have := h.sums k hk; simp only [movS, upd_other _ _ _ _ e2, upd_other _ _ _ _ e]; omega
  · intro k hk
    by_cases e2 : k = g
    · subst e2; simp [movS, upd_same]
    · by_cases e : k = f
      · subst e; have := h.len g hg; simp only [movS, upd_other _ _ _ _ e2, upd_same]; omega
      · have := h.len k hk; simp only [movS, upd_other _ _ _ _ e2, upd_other _ _ _ _ e]; omega
theorem wf_tur {s : St} (h : Wf s) (f g : Int) : Wf (turS s f g) := by
  unfold turS
  split
  · next hc =>
    obtain ⟨h1, h2, h3⟩ := turE_zero hc
    have hb := (chk_zero h1).2
    rw [Bool.and_eq_true] at hb
    obtain ⟨a1, a2, a3⟩ := okF_lt hb.1
    obtain ⟨b1, b2, b3⟩ := okF_lt hb.2
    exact wf_fit (wg_mov (wf_ent h) _ _ a2 b2 (fun e => h2 (by rw [a3, b3, e])) h3)
  · exact wf_ent h
def loseS (s : St) (n : Int) : St := { s with lose := (max n 0).toNat }
theorem wf_lose {s : St} (h : Wf s) {n : Int} (hn : J64 n) : Wf (loseS s n) := ⟨h.files, h.sums, h.len, by have := hn.2; show (max n 0).toNat ≤ _; omega, h.crash, h.keep, h.keepl⟩
def armS (s : St) (n : Int) (keep : List Int) : St := if 1 ≤ n then { s with crash := n.toNat, keep := keep } else { s with crash := 0, keep := [] }
theorem wf_arm {s : St} (h : Wf s) {n : Int} (hn : J64 n) {keep : List Int} (hk : ∀ z ∈ keep, J64 z) (hl : keep.length ≤ 17592186044416) : Wf (armS s n keep) := by
  unfold armS
  split
  · exact ⟨h.files, h.sums, h.len, h.lose, by have := hn.2; show n.toNat ≤ _; omega, hk, hl⟩
  · exact ⟨h.files, h.sums, h.len, h.lose, Nat.zero_le _, fun z hz => (by cases hz), Nat.zero_le _⟩
def startS (s : St) : St := { s with down := false }
theorem wf_start {s : St} (h : Wf s) : Wf (startS s) := ⟨h.files, h.sums, h.len, h.lose, h.crash, h.keep, h.keepl⟩
end Km
end Go.Proofs.Ytdjchpejhfkknaa
