/- Plain mathematics of the acts on a disk: what was flushed last stays at the beginning of each file's durable part. Conditions: those of each lemma. -/
import Derived.Test.YtjgedopbcopnkaaKFacts
namespace Go.Proofs.Ytjgedopbcopnkaa
namespace Km

structure Ac where
  d : Int
  f : Int
  g : Int
  n : Int
  s : Bs
  k : List Int
def pick (d : Int) : Nat := (d % 11).toNat
theorem pick_lt (d : Int) : pick d < 11 := by unfold pick; omega
/-- One act: the state behind it, the text and the error that it gives. -/
def doS (s : St) (a : Ac) : St :=
  match pick a.d with
  | 0 => appS s a.f a.s
  | 1 => appS s a.f a.s
  | 2 => fluS s a.f
  | 3 => cutS s a.f a.n
  | 4 => turS s a.f a.g
  | 5 => crashS a.k s
  | 6 => loseS s a.n
  | 7 => startS s
  | 10 => armS s a.n a.k
  | _ => s
def doE (s : St) (a : Ac) : Int :=
  match pick a.d with
  | 0 => appE s a.f a.s
  | 1 => appE s a.f a.s
  | 2 => fluE s a.f
  | 3 => cutE s a.f a.n
  | 4 => turE s a.f a.g
  | 8 => readE s a.f
  | _ => 0
def doB (s : St) (a : Ac) : Bs :=
  match pick a.d with
  | 8 => readB s a.f
  | _ => []

/-- What is safe is the beginning of the durable part of each file. -/
def Sv (sf : Nat → Bs) (s : St) : Prop := ∀ f, f < 8 → (s.F f).take (sf f).length = sf f ∧ (sf f).length ≤ s.U f
theorem sv_new : Sv (fun _ => []) Km.new := fun f _ => ⟨rfl, Nat.le_refl _⟩
theorem take_less {l m : Bs} {a b : Nat} (h : a ≤ b) (e : l.take b = m.take b) : l.take a = m.take a := by
  have := congrArg (List.take a) e
  rwa [List.take_take, List.take_take, Nat.min_eq_left h] at this
theorem sv_crash {sf : Nat → Bs} {s : St} (hw : Wf s) (h : Sv sf s) (ks : List Int) : Sv sf (crashS ks s) := by
  intro f hf
  obtain ⟨h1, h2⟩ := h f hf
  obtain ⟨c1, c2, c3, _⟩ := crash_file hw ks hf
  refine ⟨(take_less h2 c2).trans h1, ?_⟩
  cases hd : s.down with
  | true => rw [crash_down hd]; exact h2
  | false => rw [crash_all hw ks hd hf]; omega
theorem sv_due {sf : Nat → Bs} {s : St} (h : Sv sf s) : Sv sf (dueS s) := by
  unfold dueS
  split
  · exact h
  · exact h
theorem sv_ent {sf : Nat → Bs} {s : St} (hw : Wf s) (h : Sv sf s) : Sv sf (entS s) := by
  unfold entS
  split
  · exact sv_crash (wf_due hw) (sv_due h) _
  · exact sv_due h
theorem sv_add {sf : Nat → Bs} {s : St} (hw : Wf s) (h : Sv sf s) (f : Int) (b : Bs) : Sv sf (addS s f b) := by
  unfold addS
  split
  · intro g hg
    obtain ⟨h1, h2⟩ := h g hg
    refine ⟨?_, h2⟩
    show (upd s.F f.toNat (s.F f.toNat ++ b) g).take _ = _
    by_cases e : g = f.toNat
    · subst e
      have := hw.sums f.toNat hg
      rw [upd_same, List.take_append_of_le_length (by omega)]
      exact h1
    · rw [upd_other _ _ _ _ e]; exact h1
  · exact h
theorem sv_app {sf : Nat → Bs} {s : St} (hw : Wf s) (h : Sv sf s) (f : Int) (b : Bs) : Sv sf (appS s f b) := by
  unfold appS
  split
  · exact sv_crash (wf_add (wf_due hw) _ _) (sv_add (wf_due hw) (sv_due h) _ _) _
  · exact sv_add (wf_due hw) (sv_due h) _ _
/-- A flush that fails changes nothing that is safe. -/
theorem sv_flu_no {sf : Nat → Bs} {s : St} (hw : Wf s) (h : Sv sf s) (f : Int) (he : fluE s f ≠ 0) : Sv sf (fluS s f) := by
  have h1 := sv_ent hw h
  unfold fluE at he
  unfold fluS
  split
  · next hk =>
    rw [if_pos hk] at he
    split
    · exact h1
    · next hl => rw [if_neg hl] at he; exact absurd rfl he
  · exact h1
theorem flu_yes {s : St} (f : Int) (he : fluE s f = 0) : (∃ k, k < 8 ∧ f = (k : Nat)) ∧ fluS s f = fitS f.toNat (durS f.toNat (entS s)) ∧ (entS s).down = false := by
  unfold fluE at he
  split at he
  · next hk =>
    split at he
    · cases he
    · next hl =>
      obtain ⟨c1, c2⟩ := chk_zero hk
      obtain ⟨o1, o2, o3⟩ := okF_lt c2
      refine ⟨⟨f.toNat, o2, o3⟩, ?_, c1⟩
      unfold fluS
      rw [if_pos hk, if_neg hl]
  · next hk => exact absurd he hk
theorem sv_flu {sf : Nat → Bs} {s : St} (hw : Wf s) (h : Sv sf s) {k : Nat} (hk : k < 8) (he : fluE s ((k : Nat) : Int) = 0) : Sv (upd sf k ((fluS s ((k : Nat) : Int)).F k)) (fluS s ((k : Nat) : Int)) := by
  obtain ⟨_, h2, _⟩ := flu_yes _ he
  rw [h2, Int.toNat_natCast]
  have h1 := sv_ent hw h
  intro g hg
  by_cases e : g = k
  · subst e
    rw [upd_same]
    refine ⟨List.take_length, ?_⟩
    show ((entS s).F g).length ≤ upd (entS s).U g ((entS s).F g).length g
    rw [upd_same]
    exact Nat.le_refl _
  · rw [upd_other _ _ _ _ e]
    obtain ⟨a1, a2⟩ := h1 g hg
    refine ⟨a1, ?_⟩
    show _ ≤ upd (entS s).U k ((entS s).F k).length g
    rw [upd_other _ _ _ _ e]
    exact a2
theorem sv_cut_no {sf : Nat → Bs} {s : St} (hw : Wf s) (h : Sv sf s) (f n : Int) (he : cutE s f n ≠ 0) : Sv sf (cutS s f n) := by
  unfold cutS
  rw [if_neg he]
  exact sv_ent hw h
theorem cut_yes {s : St} {f n : Int} (he : cutE s f n = 0) : (∃ k m : Nat, k < 8 ∧ f = (k : Nat) ∧ n = (m : Nat)) ∧ (entS s).down = false := by
  obtain ⟨h1, h2, h3⟩ := cutE_zero he
  obtain ⟨c1, c2⟩ := chk_zero h1
  obtain ⟨o1, o2, o3⟩ := okF_lt c2
  exact ⟨⟨f.toNat, n.toNat, o2, o3, by omega⟩, c1⟩
theorem sv_cut {sf : Nat → Bs} {s : St} (hw : Wf s) (h : Sv sf s) {k m : Nat} (hk : k < 8) (he : cutE s ((k : Nat) : Int) ((m : Nat) : Int) = 0) : Sv (upd sf k ((sf k).take m)) (cutS s ((k : Nat) : Int) ((m : Nat) : Int)) := by
  unfold cutS
  rw [if_pos he, Int.toNat_natCast, Int.toNat_natCast]
  have h1 := sv_ent hw h
  intro g hg
  by_cases e : g = k
  · subst e
    obtain ⟨a1, a2⟩ := h1 g hg
    rw [upd_same]
    show (upd (entS s).F g (((entS s).F g).take m) g).take _ = _ ∧ _ ≤ upd (entS s).U g (min ((entS s).U g) m) g
    rw [upd_same, upd_same, List.length_take]
    refine ⟨?_, by omega⟩
    have r : (sf g).take m = ((entS s).F g).take (min m (sf g).length) := by
      conv => lhs; rw [← a1]
      rw [List.take_take]
    rw [List.take_take, r]
    congr 1
    omega
  · rw [upd_other _ _ _ _ e]
    obtain ⟨a1, a2⟩ := h1 g hg
    show (upd (entS s).F k (((entS s).F k).take m) g).take _ = _ ∧ _ ≤ upd (entS s).U k (min ((entS s).U k) m) g
    rw [upd_other _ _ _ _ e, upd_other _ _ _ _ e]
    exact ⟨a1, a2⟩
theorem sv_tur_no {sf : Nat → Bs} {s : St} (hw : Wf s) (h : Sv sf s) (f g : Int) (he : turE s f g ≠ 0) : Sv sf (turS s f g) := by
  unfold turS
  rw [if_neg he]
  exact sv_ent hw h
theorem tur_yes {s : St} {f g : Int} (he : turE s f g = 0) : (∃ k l : Nat, k < 8 ∧ l < 8 ∧ f = (k : Nat) ∧ g = (l : Nat) ∧ k ≠ l) ∧ (entS s).down = false := by
  obtain ⟨h1, h2, h3⟩ := turE_zero he
  obtain ⟨c1, c2⟩ := chk_zero h1
  rw [Bool.and_eq_true] at c2
  obtain ⟨o1, o2, o3⟩ := okF_lt c2.1
  obtain ⟨p1, p2, p3⟩ := okF_lt c2.2
  exact ⟨⟨f.toNat, g.toNat, o2, p2, o3, p3, fun e => h2 (by rw [o3, p3, e])⟩, c1⟩
theorem sv_tur {sf : Nat → Bs} {s : St} (hw : Wf s) (h : Sv sf s) {k l : Nat} (hk : k < 8) (hl : l < 8) (hkl : k ≠ l) (he : turE s ((k : Nat) : Int) ((l : Nat) : Int) = 0) : Sv (upd (upd sf k (sf l)) l []) (turS s ((k : Nat) : Int) ((l : Nat) : Int)) := by
  unfold turS
  rw [if_pos he, Int.toNat_natCast, Int.toNat_natCast]
  have h1 := sv_ent hw h
  intro g hg
  show (upd (upd (entS s).F k ((entS s).F l)) l [] g).take _ = _ ∧ _ ≤ upd (upd (entS s).U k ((entS s).U l)) l 0 g
  by_cases e : g = l
  · subst e
    rw [upd_same, upd_same, upd_same]
    exact ⟨rfl, Nat.le_refl _⟩
  · rw [upd_other _ l g _ e, upd_other _ l g _ e, upd_other _ l g _ e]
    by_cases e2 : g = k
    · subst e2
      rw [upd_same, upd_same, upd_same]
      exact h1 l hl
    · rw [upd_other _ _ _ _ e2, upd_other _ _ _ _ e2, upd_other _ _ _ _ e2]
      exact h1 g hg
/-- Behind a crash, all that a file has is safe. -/
theorem sv_all {s : St} (hw : Wf s) (hu : ∀ f, f < 8 → s.U f = (s.F f).length) {sf : Nat → Bs} (hs : ∀ f, f < 8 → sf f = s.F f) : Sv sf s := by
  intro f hf
  rw [hs f hf, hu f hf]
  exact ⟨List.take_length, Nat.le_refl _⟩
theorem wf_do {s : St} (hw : Wf s) (a : Ac) (hn : J64 a.n) (hk : ∀ z ∈ a.k, J64 z) (hl : a.k.length ≤ 17592186044416) : Wf (doS s a) := by
  unfold doS
  split
  · exact wf_app hw _ _
  · exact wf_app hw _ _
  · exact wf_flu hw _
  · exact wf_cut hw _ _
  · exact wf_tur hw _ _
  · exact wf_crash hw _
  · exact wf_lose hw hn
  · exact wf_start hw
  · exact wf_arm hw hn hk hl
  · exact hw
/-- Begins, and torn. -/
def begB (s t : Bs) : Bool := decide (t.length ≤ s.length) && decide (s.take t.length = t)
def tornB (s t : Bs) : Bool := (List.range s.length).all fun i => decide (i < t.length) && (decide (s.getD i 0 = t.getD i 0) || decide (s.getD i 0 = 0))
theorem sv_begins {sf : Nat → Bs} {s : St} (hw : Wf s) (h : Sv sf s) {f : Nat} (hf : f < 8) : begB (s.F f) (sf f) = true := by
  obtain ⟨h1, h2⟩ := h f hf
  have := hw.sums f hf
  unfold begB
  rw [h1]
  simp
  omega
theorem torn_crash {s : St} (hw : Wf s) (ks : List Int) {f : Nat} (hf : f < 8) : tornB ((crashS ks s).F f) (s.F f) = true := by
  obtain ⟨c1, _, _, c4⟩ := crash_file hw ks hf
  unfold tornB
  rw [List.all_eq_true]
  intro i hi
  rw [List.mem_range] at hi
  have h1 := c4 i hi
  have h2 : i < (s.F f).length := by omega
  have h3 : ((crashS ks s).F f).getD i 0 = (((crashS ks s).F f)[i]?).getD 0 := List.getD_eq_getElem?_getD
  rw [h3]
  rcases h1 with h1 | h1 <;> rw [h1] <;> simp [h2]
end Km
end Go.Proofs.Ytjgedopbcopnkaa
