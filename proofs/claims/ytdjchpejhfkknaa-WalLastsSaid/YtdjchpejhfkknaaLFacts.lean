/- Plain mathematics: what the log's methods do on a disk that is up, with no schedule and no lost flushes. Conditions: those of each lemma. -/
import Derived.Test.YtdjchpejhfkknaaLSmall
namespace Go.Proofs.Ytdjchpejhfkknaa.Lw
open Go.RowKit Km Dk
open Lm hiding Bs
set_option linter.unusedVariables false

theorem sizes_cons (f : Nat) (p : Nat × Nat) (t : Pd) : sizes f (p :: t) = (if p.1 = f then [p.2] else []) ++ sizes f t := by
  rw [show p :: t = [p] ++ t from rfl, sizes_append, sizes_one]
theorem filter_sizes_other {f g left : Nat} (h : g ≠ f) : ∀ (left : Nat) (L : Pd), (∀ p ∈ L, 1 ≤ p.2) → sizes g (fit f left L) = sizes g L
  | _, [], _ => rfl
  | left, p :: t, hp => by
    have ht := fun q hq => hp q (List.mem_cons_of_mem _ hq)
    have hp1 := hp p (by simp)
    unfold fit
    simp only [fitL]
    split
    · next e =>
      rw [List.filter_cons]
      have ih := filter_sizes_other (f := f) (g := g) (left := left) h (left - min p.2 left) t ht
      unfold fit at ih
      rw [sizes_cons g p t, if_neg (show ¬ p.1 = g by omega), List.nil_append]
      split
      · rw [sizes_cons, if_neg (by show ¬ p.1 = g; omega), List.nil_append, ih]
      · exact ih
    · next e =>
      have ih := filter_sizes_other (f := f) (g := g) (left := left) h left t ht
      unfold fit at ih
      rw [List.filter_cons, if_pos (by simp; omega), sizes_cons, sizes_cons, ih]
theorem sizes_fit_zero (f : Nat) (L : Pd) : sizes f (fit f 0 L) = [] := by
  unfold fit
  induction L with
  | nil => rfl
  | cons p t ih =>
    simp only [fitL]
    split
    · next e => rw [List.filter_cons, if_neg (by simp)]; simpa using ih
    · next e =>
      rw [List.filter_cons]
      split
      · rw [sizes_cons, if_neg e, List.nil_append]; exact ih
      · exact ih
theorem sizes_sum (f : Nat) (L : Pd) : (sizes f L).sum = sumF f L := by
  induction L with
  | nil => rfl
  | cons p t ih =>
    rw [sizes_cons, List.sum_append, ih]
    simp only [sumF]
    split <;> simp
theorem sizes_none {s : St} (h : Wf s) {f : Nat} (hf : f < 8) (he : s.F f = []) : s.U f = 0 ∧ sizes f s.L = [] := by
  have h1 := h.sums f hf
  rw [he] at h1
  simp at h1
  refine ⟨by omega, ?_⟩
  have h2 := sizes_sum f s.L
  rw [h1.2] at h2
  cases hs : sizes f s.L with
  | nil => rfl
  | cons n t =>
    exfalso
    have hm : n ∈ sizes f s.L := by rw [hs]; simp
    unfold sizes at hm
    obtain ⟨p, hp, rfl⟩ := List.mem_map.1 hm
    have := (h.files p (List.mem_filter.1 hp).1).2
    rw [hs] at h2
    simp at h2
    omega
/-- A disk that is up, with no schedule and no lost flushes. -/
structure Cal (s : St) : Prop where
  idl : Idl s
  lose : s.lose = 0
  wf : Wf s
/-- File g is as it was. -/
def Sm (g : Nat) (s s' : St) : Prop := s'.F g = s.F g ∧ s'.U g = s.U g ∧ sizes g s'.L = sizes g s.L
theorem Sm.refl (g : Nat) (s : St) : Sm g s s := ⟨rfl, rfl, rfl⟩
theorem Sm.trans {g : Nat} {a b c : St} (h : Sm g a b) (h' : Sm g b c) : Sm g a c := ⟨h'.1.trans h.1, h'.2.1.trans h.2.1, h'.2.2.trans h.2.2⟩
/-- File g is whole and durable. -/
def Dur (g : Nat) (b : Bs) (s : St) : Prop := s.F g = b ∧ s.U g = b.length ∧ sizes g s.L = []
section
variable {s : St}
theorem new_cal : Cal Km.new := ⟨new_calm, rfl, wf_new⟩
theorem fit_sm {s : St} (hw : ∀ p ∈ s.L, 1 ≤ p.2) {f g : Nat} (h : g ≠ f) : Sm g s (fitS f s) := ⟨rfl, rfl, filter_sizes_other (left := 0) h _ _ hw⟩
theorem cut_cal (h : Cal s) {g n : Nat} (hg : g < 8) (hn : n ≤ (s.F g).length) : cutE s (g : Int) (n : Int) = 0 ∧ Cal (cutS s (g : Int) (n : Int)) ∧ (cutS s (g : Int) (n : Int)).F g = (s.F g).take n ∧ ∀ k, k ≠ g → Sm k s (cutS s (g : Int) (n : Int)) := by
  have he : cutE s (g : Int) (n : Int) = 0 := by
    unfold cutE
    rw [calm_ent h.idl, okF_nat hg, calm_chk h.idl, if_pos rfl, Int.toNat_natCast, if_neg (by omega)]
  have hs : cutS s (g : Int) (n : Int) = fitS g (shoS g n s) := by
    unfold cutS
    rw [if_pos he, calm_ent h.idl, Int.toNat_natCast, Int.toNat_natCast]
  refine ⟨he, ⟨?_, ?_, wf_cut h.wf _ _⟩, ?_, fun k hk => ?_⟩
  · rw [hs]; exact ⟨h.idl.up, h.idl.crash⟩
  · rw [hs]; exact h.lose
  · rw [hs]; exact upd_same _ _ _
  · rw [hs]
    have h1 : Sm k s (shoS g n s) := ⟨upd_other _ _ _ _ hk, upd_other _ _ _ _ hk, rfl⟩
    exact h1.trans (fit_sm (s := shoS g n s) (fun p hp => (h.wf.files p hp).2) hk)
theorem shorten_cal (h : Cal s) {g n : Nat} (hg : g < 8) (hn : n ≤ (s.F g).length) : shE s (g : Int) (n : Int) = 0 ∧ Cal (shS s (g : Int) (n : Int)) ∧ (shS s (g : Int) (n : Int)).F g = (s.F g).take n ∧ ∀ k, k ≠ g → Sm k s (shS s (g : Int) (n : Int)) := by
  unfold shE shS
  rw [size_nat s hg]
  by_cases hz : ((((s.F g).length : Nat) : Int) ≤ (n : Int))
  · rw [if_pos hz, if_pos hz]
    exact ⟨rfl, h, by rw [List.take_of_length_le (by omega)], fun k _ => Sm.refl k s⟩
  · rw [if_neg hz, if_neg hz]
    exact cut_cal h hg hn
theorem flush_cal (h : Cal s) {g : Nat} (hg : g < 8) : fluE s (g : Int) = 0 ∧ Cal (fluS s (g : Int)) ∧ Dur g (s.F g) (fluS s (g : Int)) ∧ ∀ k, k ≠ g → Sm k s (fluS s (g : Int)) := by
  obtain ⟨h1, h2⟩ := flu_calm h.idl h.lose hg
  have hw := wf_flu h.wf (g : Int)
  rw [h2] at hw ⊢
  refine ⟨h1, ⟨⟨h.idl.up, h.idl.crash⟩, h.lose, hw⟩, ⟨rfl, upd_same _ _ _, ?_⟩, fun k hk => ?_⟩
  · show sizes g (fit g ((s.F g).length - upd s.U g (s.F g).length g) s.L) = []
    rw [upd_same, Nat.sub_self]
    exact sizes_fit_zero g _
  · have h1 : Sm k s (durS g s) := ⟨rfl, upd_other _ _ _ _ hk, rfl⟩
    exact h1.trans (fit_sm (s := durS g s) (fun p hp => (h.wf.files p hp).2) hk)
theorem push_cal (h : Cal s) {g : Nat} (hg : g < 8) {b : Bs} (hl : (s.F g).length + b.length ≤ 16777216) : appE s (g : Int) b = 0 ∧ Cal (appS s (g : Int) b) ∧ (appS s (g : Int) b).F g = s.F g ++ b ∧ (appS s (g : Int) b).U g = s.U g ∧
    sizes g (appS s (g : Int) b).L = sizes g s.L ++ (if b = [] then [] else [b.length]) ∧ ∀ k, k ≠ g → Sm k s (appS s (g : Int) b) := by
  obtain ⟨h1, h2⟩ := app_calm h.idl hg hl
  have hw := wf_app h.wf (g : Int) b
  rw [h2] at hw ⊢
  refine ⟨h1, ⟨pushS_calm h.idl _ _, by rw [pushS_lose]; exact h.lose, hw⟩, pushS_F _ _ _, by rw [pushS_U], ?_, fun k hk => ⟨pushS_other _ _ _ _ hk, by rw [pushS_U], ?_⟩⟩
  · unfold pushS
    split
    · simp
    · show sizes g (s.L ++ [(g, b.length)]) = _
      rw [sizes_append, sizes_one, if_pos rfl]
  · unfold pushS
    split
    · rfl
    · show sizes k (s.L ++ [(g, b.length)]) = _
      rw [sizes_append, sizes_one, if_neg (fun e => hk e.symm), List.append_nil]
theorem turn_cal (h : Cal s) {f g : Nat} (hf : f < 8) (hg : g < 8) (hne : f ≠ g) {b : Bs} (hd : Dur g b s) : turE s (f : Int) (g : Int) = 0 ∧ Cal (turS s (f : Int) (g : Int)) ∧ Dur f b (turS s (f : Int) (g : Int)) ∧ Dur g [] (turS s (f : Int) (g : Int)) ∧ ∀ k, k ≠ f → k ≠ g → Sm k s (turS s (f : Int) (g : Int)) := by
  obtain ⟨h1, h2⟩ := tur_calm h.idl hf hg hne
  have hu : ¬ s.U g < (s.F g).length := by rw [hd.1, hd.2.1]; omega
  rw [if_neg hu] at h1 h2
  have hw := wf_tur h.wf (f : Int) (g : Int)
  rw [h2] at hw ⊢
  have hF : (movS f g s).F f = b := by show upd (upd s.F f (s.F g)) g [] f = b; rw [upd_other _ _ _ _ hne, upd_same]; exact hd.1
  have hU : (movS f g s).U f = b.length := by show upd (upd s.U f (s.U g)) g 0 f = _; rw [upd_other _ _ _ _ hne, upd_same]; exact hd.2.1
  refine ⟨h1, ⟨⟨h.idl.up, h.idl.crash⟩, h.lose, hw⟩, ⟨hF, hU, ?_⟩, ⟨upd_same _ _ _, upd_same _ _ _, ?_⟩, fun k hk hk2 => ?_⟩
  · show sizes f (fit f (((movS f g s).F f).length - (movS f g s).U f) s.L) = []
    rw [hF, hU, Nat.sub_self]
    exact sizes_fit_zero f _
  · exact (filter_sizes_other (left := 0) (fun e => hne e.symm) _ _ (fun p hp => (h.wf.files p hp).2)).trans hd.2.2
  · have h1 : Sm k s (movS f g s) := ⟨by show upd (upd s.F f (s.F g)) g [] k = _; rw [upd_other _ _ _ _ hk2, upd_other _ _ _ _ hk], by show upd (upd s.U f (s.U g)) g 0 k = _; rw [upd_other _ _ _ _ hk2, upd_other _ _ _ _ hk], rfl⟩
    exact h1.trans (fit_sm (s := movS f g s) (fun p hp => (h.wf.files p hp).2) hk)
theorem opn_cal (h : Cal s) {f : Nat} (hf : f ≤ 6) : (opn s (f : Int)).1 = 0 ∧ Cal (opn s (f : Int)).2 ∧ Dur f (recs (val (s.F f))) (opn s (f : Int)).2 ∧ Dur (f + 1) [] (opn s (f : Int)).2 ∧ (∀ k, k ≠ f → k ≠ f + 1 → Sm k s (opn s (f : Int)).2) ∧ readB s (f : Int) = s.F f := by
  obtain ⟨r1, r2⟩ := read_up h.idl.up (show f < 8 by omega)
  have e : opn s (f : Int) = opn3 s (f : Int) (vlen (s.F f)) := by
    unfold opn
    rw [if_neg (by omega), if_neg (by rw [r1]; simp), r2]
  obtain ⟨a1, a2, a3, a4⟩ := shorten_cal h (show f < 8 by omega) (vlen_le (s.F f))
  obtain ⟨b1, b2, b3, b4⟩ := shorten_cal a2 (show f + 1 < 8 by omega) (Nat.zero_le _)
  rw [show (((f + 1 : Nat) : Int)) = (f : Int) + 1 by omega] at b1 b2 b3 b4
  rw [show (((0 : Nat) : Int)) = 0 from rfl] at b1 b2 b3 b4
  obtain ⟨c1, c2, c3, c4⟩ := flush_cal b2 (show f < 8 by omega)
  have e3 : opn3 s (f : Int) (vlen (s.F f)) = (fluE (shS (shS s f (vlen (s.F f) : Nat)) (f + 1) 0) f, fluS (shS (shS s f (vlen (s.F f) : Nat)) (f + 1) 0) f) := by
    unfold opn3
    rw [if_neg (fun h => h a1), if_neg (fun h => h b1)]
  rw [e, e3]
  have hF : (shS (shS s (f : Int) (vlen (s.F f) : Nat)) ((f : Int) + 1) 0).F f = recs (val (s.F f)) := by rw [(b4 f (by omega)).1, a3, take_vlen]
  rw [hF] at c3
  have hF1 := (c4 (f + 1) (by omega)).1
  rw [b3, List.take_zero] at hF1
  have hn := sizes_none c2.wf (show f + 1 < 8 by omega) hF1
  exact ⟨c1, c2, c3, ⟨hF1, hn.1, hn.2⟩, fun k hk hk2 => (a4 k hk).trans ((b4 k hk2).trans (c4 k hk)), r2⟩
theorem rep_cal (h : Cal s) {f : Nat} (hf : f ≤ 6) {b : Bs} (hb : b.length ≤ 16777216) : (rep s f b).1 = 0 ∧ Cal (rep s f b).2 ∧ Dur f b (rep s f b).2 ∧ Dur (f + 1) [] (rep s f b).2 ∧ ∀ k, k ≠ f → k ≠ f + 1 → Sm k s (rep s f b).2 := by
  obtain ⟨b1, b2, b3, b4⟩ := shorten_cal h (show f + 1 < 8 by omega) (Nat.zero_le (s.F (f + 1)).length)
  rw [show (((f + 1 : Nat) : Int)) = (f : Int) + 1 by omega] at b1 b2 b3 b4
  rw [show (((0 : Nat) : Int)) = 0 from rfl] at b1 b2 b3 b4
  rw [List.take_zero] at b3
  obtain ⟨p1, p2, p3, p4, p5, p6⟩ := push_cal b2 (show f + 1 < 8 by omega) (b := b) (by rw [b3]; simpa using hb)
  rw [show (((f + 1 : Nat) : Int)) = (f : Int) + 1 by omega] at p1 p2 p3 p4 p5 p6
  obtain ⟨c1, c2, c3, c4⟩ := flush_cal p2 (show f + 1 < 8 by omega)
  rw [show (((f + 1 : Nat) : Int)) = (f : Int) + 1 by omega] at c1 c2 c3 c4
  rw [p3, b3, List.nil_append] at c3
  obtain ⟨t1, t2, t3, t4, t5⟩ := turn_cal c2 (show f < 8 by omega) (show f + 1 < 8 by omega) (by omega) c3
  rw [show (((f + 1 : Nat) : Int)) = (f : Int) + 1 by omega] at t1 t2 t3 t4 t5
  have e : rep s f b = (turE (fluS (appS (shS s ((f : Int) + 1) 0) ((f : Int) + 1) b) ((f : Int) + 1)) (f : Int) ((f : Int) + 1), turS (fluS (appS (shS s ((f : Int) + 1) 0) ((f : Int) + 1) b) ((f : Int) + 1)) (f : Int) ((f : Int) + 1)) := by
    unfold rep
    rw [if_neg (fun h => h b1), if_neg (fun h => h p1), if_neg (fun h => h c1)]
  rw [e]
  exact ⟨t1, t2, t3, t4, fun k hk hk2 => (b4 k hk2).trans ((p6 k hk2).trans ((c4 k hk2).trans (t5 k hk hk2)))⟩
theorem recB_ne (b : Bs) : recB b ≠ [] := by simp [recB]
theorem wapp_cal (h : Cal s) {f : Nat} (hf : f < 8) {b : Bs} (hb : b.length ≤ 1048576) (hl : (s.F f).length + (b.length + 7) ≤ 16777216) :
    wappE s f b = 0 ∧ Cal (wappS s f b) ∧ (wappS s f b).F f = s.F f ++ recB b ∧ (wappS s f b).U f = s.U f ∧ sizes f (wappS s f b).L = sizes f s.L ++ [b.length + 7] ∧ ∀ k, k ≠ f → Sm k s (wappS s f b) := by
  have ht : tooB b = false := by unfold tooB; exact decide_eq_false (by omega)
  unfold wappE wappS
  rw [ht, if_neg (by decide), if_neg (by decide)]
  obtain ⟨p1, p2, p3, p4, p5, p6⟩ := push_cal h hf (b := recB b) (by rw [recB_length]; exact hl)
  rw [if_neg (recB_ne b), recB_length] at p5
  exact ⟨p1, p2, p3, p4, p5, p6⟩
theorem wapp_rows {f : Nat} {rows : List Bs} {b : Bs} (h : wappE s f b = 0) : wappR s f rows b = rows ++ [b] := by unfold wappR; rw [if_pos h]
theorem wrew_cal (h : Cal s) {f : Nat} (hf : f ≤ 6) {rows ts : List Bs} (hs : Small ts) (hb : (recs ts).length ≤ 16777216) :
    wrewE s f ts = 0 ∧ wrewR s f rows ts = ts ∧ Cal (wrewS s f ts) ∧ Dur f (recs ts) (wrewS s f ts) ∧ Dur (f + 1) [] (wrewS s f ts) ∧ ∀ k, k ≠ f → k ≠ f + 1 → Sm k s (wrewS s f ts) := by
  have ht : ts.any tooB = false := by
    rw [List.any_eq_false]
    intro b hbm
    have := hs b hbm
    unfold tooB
    simp; omega
  obtain ⟨r1, r2, r3, r4, r5⟩ := rep_cal h hf hb
  have e : wrewE s f ts = 0 := by unfold wrewE; rw [ht, if_neg (by decide)]; exact r1
  refine ⟨e, by unfold wrewR; rw [if_pos e], ?_⟩
  unfold wrewS
  rw [ht, if_neg (by decide)]
  exact ⟨r2, r3, r4, r5⟩
end
end Go.Proofs.Ytdjchpejhfkknaa.Lw
