/- Plain mathematics: what a crash leaves of a file of records of which the last ones are pending. Conditions: those of each lemma. -/
import Derived.Test.YtdjchpejhfkknaaLMath
import Derived.Test.YtdjchpejhfkknaaKFacts
namespace Go.Proofs.Ytdjchpejhfkknaa
namespace Lm
open Km (St Pd Wf Cs Idl surv surv_le zero zero_same zero_take zero_at zero_length cstep cup cup_succ cEnd crashS crash_up sumF upd upd_same upd_other fit fitL fitS take_snoc)

/-- The pending appends of file f: what survives of each, and its size. -/
def pcs (ks : List Int) (f : Nat) : Nat → Pd → List (Nat × Nat)
  | _, [] => []
  | i, p :: t => (if p.1 = f then [(surv ks i p.2, p.2)] else []) ++ pcs ks f (i + 1) t
theorem pcs_snoc (ks : List Int) (f i : Nat) (l : Pd) (p : Nat × Nat) : pcs ks f i (l ++ [p]) = pcs ks f i l ++ (if p.1 = f then [(surv ks (i + l.length) p.2, p.2)] else []) := by
  induction l generalizing i with
  | nil => simp [pcs]
  | cons q t ih =>
    simp only [List.cons_append, pcs, ih, List.append_assoc, List.length_cons]
    rw [show i + 1 + t.length = i + (t.length + 1) by omega]
def sizes (f : Nat) (L : Pd) : List Nat := (L.filter fun p => p.1 == f).map (·.2)
theorem sizes_append (f : Nat) (a b : Pd) : sizes f (a ++ b) = sizes f a ++ sizes f b := by simp [sizes]
theorem sizes_one (f : Nat) (p : Nat × Nat) : sizes f [p] = if p.1 = f then [p.2] else [] := by
  unfold sizes
  by_cases h : p.1 = f <;> simp [h]
theorem pcs_sizes (ks : List Int) (f i : Nat) (L : Pd) : (pcs ks f i L).map (·.2) = sizes f L := by
  induction L generalizing i with
  | nil => rfl
  | cons p t ih =>
    rw [show p :: t = [p] ++ t from rfl, sizes_append, sizes_one, ← ih (i + 1)]
    simp only [List.cons_append, List.nil_append, pcs, List.map_append]
    split <;> rfl
theorem pcs_le (ks : List Int) (f i : Nat) (L : Pd) : ∀ p ∈ pcs ks f i L, p.1 ≤ p.2 := by
  induction L generalizing i with
  | nil => intro p hp; cases hp
  | cons q t ih =>
    intro p hp
    simp only [pcs] at hp
    rcases List.mem_append.1 hp with hp | hp
    · split at hp
      · rw [List.mem_singleton] at hp; subst hp; exact surv_le _ _ _
      · cases hp
    · exact ih _ p hp
def tot (P : List (Nat × Nat)) : Nat := (P.map (·.2)).sum
theorem tot_cons (p : Nat × Nat) (P : List (Nat × Nat)) : tot (p :: P) = p.2 + tot P := by simp [tot]
theorem tot_append (P Q : List (Nat × Nat)) : tot (P ++ Q) = tot P + tot Q := by simp [tot]
def tornF : Bs → Nat → List (Nat × Nat) → Bs
  | F, _, [] => F
  | F, a, p :: t => tornF (zero F (a + p.1) (a + p.2)) (a + p.2) t
def tornU : Nat → Nat → List (Nat × Nat) → Nat
  | u, _, [] => u
  | u, a, p :: t => tornU (if 0 < p.1 then a + p.1 else u) (a + p.2) t
theorem tornF_snoc (F : Bs) (a : Nat) (l : List (Nat × Nat)) (p : Nat × Nat) : tornF F a (l ++ [p]) = zero (tornF F a l) (a + tot l + p.1) (a + tot l + p.2) := by
  induction l generalizing F a with
  | nil => simp [tornF, tot]
  | cons q t ih => rw [List.cons_append, tornF, ih, tornF, tot_cons, show a + q.2 + tot t = a + (q.2 + tot t) by omega]
theorem tornU_snoc (u a : Nat) (l : List (Nat × Nat)) (p : Nat × Nat) : tornU u a (l ++ [p]) = if 0 < p.1 then a + tot l + p.1 else tornU u a l := by
  induction l generalizing u a with
  | nil => simp [tornU, tot]
  | cons q t ih => rw [List.cons_append, tornU, ih, tornU, tot_cons, show a + q.2 + tot t = a + (q.2 + tot t) by omega]
theorem cup_file (ks : List Int) (s : St) (f : Nat) : ∀ n, n ≤ s.L.length →
    (cup ks s.L ⟨s.F, s.U, s.U⟩ n).F f = tornF (s.F f) (s.U f) (pcs ks f 0 (s.L.take n)) ∧ (cup ks s.L ⟨s.F, s.U, s.U⟩ n).U f = tornU (s.U f) (s.U f) (pcs ks f 0 (s.L.take n)) ∧
      (cup ks s.L ⟨s.F, s.U, s.U⟩ n).at_ f = s.U f + tot (pcs ks f 0 (s.L.take n))
  | 0, _ => ⟨rfl, rfl, rfl⟩
  | n + 1, hn => by
    obtain ⟨h1, h2, h3⟩ := cup_file ks s f n (by omega)
    have hp := List.getElem?_eq_getElem (l := s.L) (i := n) (by omega)
    generalize s.L[n] = p at hp
    rw [cup_succ hp, take_snoc hp, pcs_snoc, List.length_take, Nat.min_eq_left (by omega), Nat.zero_add]
    generalize cup ks s.L ⟨s.F, s.U, s.U⟩ n = c at *
    by_cases e : p.1 = f
    · subst e
      rw [if_pos rfl, tornF_snoc, tornU_snoc, tot_append]
      simp only [cstep, upd_same]
      refine ⟨by rw [h1, h3], ?_, by rw [h3]; simp [tot]; omega⟩
      by_cases hs : 0 < surv ks n p.2
      · rw [if_pos (by omega), if_pos hs, upd_same, h3]
      · rw [if_neg (by omega), if_neg hs, h2]
    · rw [if_neg e, List.append_nil]
      have e' : f ≠ p.1 := fun h => e h.symm
      simp only [cstep]
      refine ⟨by rw [upd_other _ _ _ _ e', h1], ?_, by rw [upd_other _ _ _ _ e', h3]⟩
      split
      · rw [upd_other _ _ _ _ e', h2]
      · exact h2
theorem crash_torn {s : St} (hd : s.down = false) (ks : List Int) (f : Nat) :
    (crashS ks s).F f = (tornF (s.F f) (s.U f) (pcs ks f 0 s.L)).take (tornU (s.U f) (s.U f) (pcs ks f 0 s.L)) := by
  obtain ⟨h1, h2, _⟩ := cup_file ks s f s.L.length (Nat.le_refl _)
  rw [List.take_length] at h1 h2
  rw [crash_up hd]
  show List.take ((cEnd ks s).U f) ((cEnd ks s).F f) = _
  unfold cEnd
  rw [h1, h2]

/-- How many pending appends survive whole before the first that does not. -/
def full : List (Nat × Nat) → Nat
  | [] => 0
  | p :: t => if p.2 ≤ p.1 then full t + 1 else 0
theorem full_le (P : List (Nat × Nat)) : full P ≤ P.length := by
  induction P with
  | nil => exact Nat.le_refl _
  | cons p t ih => simp only [full]; split <;> simp <;> omega
theorem tornF_length (F : Bs) (a : Nat) (P : List (Nat × Nat)) (hP : ∀ p ∈ P, p.1 ≤ p.2) (h : a + tot P ≤ F.length) : (tornF F a P).length = F.length := by
  induction P generalizing F a with
  | nil => rfl
  | cons p t ih =>
    rw [tot_cons] at h
    have hp := hP p (by simp)
    have hz : (zero F (a + p.1) (a + p.2)).length = F.length := zero_length _ _ _ (by omega) (by omega)
    rw [tornF, ih _ _ (fun q hq => hP q (by simp [hq])) (by rw [hz]; omega), hz]
theorem tornF_low (F : Bs) (a : Nat) (P : List (Nat × Nat)) (hP : ∀ p ∈ P, p.1 ≤ p.2) (h : a + tot P ≤ F.length) : (tornF F a P).take a = F.take a := by
  induction P generalizing F a with
  | nil => rfl
  | cons p t ih =>
    rw [tot_cons] at h
    have hp := hP p (by simp)
    have hz : (zero F (a + p.1) (a + p.2)).length = F.length := zero_length _ _ _ (by omega) (by omega)
    have hi := ih (zero F (a + p.1) (a + p.2)) (a + p.2) (fun q hq => hP q (by simp [hq])) (by rw [hz]; omega)
    have := congrArg (List.take a) hi
    rw [List.take_take, List.take_take, Nat.min_eq_left (by omega), zero_take _ _ _ _ (by omega) (by omega)] at this
    rw [tornF, this]
theorem tornU_ge (u a : Nat) (P : List (Nat × Nat)) (h : u ≤ a) (hP : ∀ p ∈ P, p.1 ≤ p.2) : u ≤ tornU u a P := by
  induction P generalizing u a with
  | nil => exact Nat.le_refl _
  | cons p t ih =>
    have hp := hP p (by simp)
    rw [tornU]
    refine Nat.le_trans ?_ (ih _ (a + p.2) ?_ fun q hq => hP q (by simp [hq]))
    · split <;> omega
    · split <;> omega
theorem torn_rows (rest : List Bs) : ∀ (P : List (Nat × Nat)) (A : Bs), Small rest → P.map (·.2) = rest.map (fun b => b.length + 7) → (∀ p ∈ P, p.1 ≤ p.2) →
    ∃ y, (tornF (A ++ recs rest) A.length P).take (tornU A.length A.length P) = A ++ recs (rest.take (full P)) ++ y ∧ first y = none := by
  induction rest with
  | nil =>
    intro P A _ hP _
    have : P = [] := by simpa using hP
    subst this
    refine ⟨[], ?_, first_nil⟩
    simp [tornF, tornU, recs_nil]
  | cons b t ih =>
    intro P A hs hP hle
    cases P with
    | nil => simp at hP
    | cons p P =>
      simp only [List.map_cons, List.cons.injEq] at hP
      obtain ⟨hn, hP⟩ := hP
      have hb := hs b (by simp)
      have hst : Small t := fun c hc => hs c (by simp [hc])
      have hp := hle p (by simp)
      have hle' : ∀ q ∈ P, q.1 ≤ q.2 := fun q hq => hle q (by simp [hq])
      by_cases hw : p.2 ≤ p.1
      · have e : p.1 = p.2 := by omega
        obtain ⟨y, h1, h2⟩ := ih P (A ++ recB b) hst hP hle'
        refine ⟨y, ?_, h2⟩
        simp only [tornF, tornU, full]
        rw [e, zero_same, if_pos (by omega), if_pos (by omega)]
        rw [List.length_append, recB_length, ← hn] at h1
        rw [recs_cons, ← List.append_assoc, h1, List.take_succ_cons, recs_cons]
        simp
      · simp only [tornF, tornU, full]
        rw [if_neg hw, List.take_zero, recs_nil, List.append_nil]
        have hFl : (A ++ recs (b :: t)).length = A.length + (b.length + 7) + (recs t).length := by rw [recs_cons, List.length_append, List.length_append, recB_length]; omega
        have htot : tot P = (recs t).length := by unfold tot; rw [hP, recs_length]
        obtain ⟨F', hF'⟩ : ∃ F', zero (A ++ recs (b :: t)) (A.length + p.1) (A.length + p.2) = F' := ⟨_, rfl⟩
        have hl' : F'.length = (A ++ recs (b :: t)).length := by rw [← hF', zero_length _ _ _ (by omega) (by omega)]
        have hat := fun j => zero_at (A ++ recs (b :: t)) (A.length + p.1) (A.length + p.2) j (by omega) (by omega)
        have htk := zero_take (A ++ recs (b :: t)) (A.length + p.1) (A.length + p.2) A.length (by omega) (by omega)
        rw [List.take_left] at htk
        rw [hF'] at hat htk ⊢
        have hlow := tornF_low F' (A.length + p.2) P hle' (by omega)
        have hlen := tornF_length F' (A.length + p.2) P hle' (by omega)
        have hu : A.length ≤ tornU (if 0 < p.1 then A.length + p.1 else A.length) (A.length + p.2) P := by
          refine Nat.le_trans ?_ (tornU_ge _ _ P ?_ hle')
          · split <;> omega
          · split <;> omega
        generalize tornU (if 0 < p.1 then A.length + p.1 else A.length) (A.length + p.2) P = u at *
        generalize tornF F' (A.length + p.2) P = G at *
        have hGA : G.take A.length = A := by
          have := congrArg (List.take A.length) hlow
          rw [List.take_take, List.take_take, Nat.min_eq_left (by omega), htk] at this
          exact this
        refine ⟨(G.take u).drop A.length, ?_, ?_⟩
        · have := (List.take_append_drop A.length (G.take u)).symm
          rw [List.take_take, Nat.min_eq_left hu, hGA] at this
          exact this
        · refine first_torn (k := p.1) hb (by omega) fun i hi hil => ?_
          rw [List.length_drop, List.length_take] at hil
          have hg : G[A.length + i]? = F'[A.length + i]? := by
            have := congrArg (fun l : Bs => l[A.length + i]?) hlow
            simp only [List.getElem?_take_of_lt (show A.length + i < A.length + p.2 by omega)] at this
            exact this
          rw [List.getD_eq_getElem?_getD, List.getElem?_drop, List.getElem?_take_of_lt (by omega), hg, hat _ (by omega)]
          show (if _ then _ else _) = _
          by_cases hik : i < p.1
          · rw [if_neg (by omega), if_pos hik, List.getD_eq_getElem?_getD, List.getElem?_append_right (by omega), recs_cons, Nat.add_sub_cancel_left, List.getElem?_append_left (by rw [recB_length]; omega), List.getD_eq_getElem?_getD]
          · rw [if_pos (by omega), if_neg hik]

/-- A log in file f: its rows, of which the first k are durable and the others pending, one by one. -/
structure Lg (s : St) (f : Nat) (rows : List Bs) (k : Nat) : Prop where
  file : s.F f = recs rows
  dur : s.U f = (recs (rows.take k)).length
  le : k ≤ rows.length
  pend : sizes f s.L = (rows.drop k).map (fun b => b.length + 7)
  small : Small rows
theorem small_take {l : List Bs} (h : Small l) (n : Nat) : Small (l.take n) := fun b hb => h b (List.mem_of_mem_take hb)
theorem small_drop {l : List Bs} (h : Small l) (n : Nat) : Small (l.drop n) := fun b hb => h b (List.mem_of_mem_drop hb)
theorem small_append {l m : List Bs} (h : Small l) (h' : Small m) : Small (l ++ m) := fun b hb => (List.mem_append.1 hb).elim (h b) (h' b)
theorem lg_crash {s : St} {f : Nat} {rows : List Bs} {k : Nat} (h : Lg s f rows k) (hd : s.down = false) (ks : List Int) :
    ∃ y, (crashS ks s).F f = recs (rows.take (k + full (pcs ks f 0 s.L))) ++ y ∧ first y = none := by
  have hp : (pcs ks f 0 s.L).map (·.2) = (rows.drop k).map (fun b => b.length + 7) := by rw [pcs_sizes, h.pend]
  obtain ⟨y, h1, h2⟩ := torn_rows (rows.drop k) (pcs ks f 0 s.L) (recs (rows.take k)) (small_drop h.small k) hp (pcs_le _ _ _ _)
  refine ⟨y, ?_, h2⟩
  rw [crash_torn hd, h.dur, h.file]
  have e : recs rows = recs (rows.take k) ++ recs (rows.drop k) := by rw [← recs_append, List.take_append_drop]
  rw [e, h1, ← recs_append, List.take_add]
end Lm
end Go.Proofs.Ytdjchpejhfkknaa
