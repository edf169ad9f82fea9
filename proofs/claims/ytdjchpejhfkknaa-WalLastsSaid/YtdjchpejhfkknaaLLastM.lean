/- Plain mathematics of WalLasts: a log of file 2 on a disk whose power may fail at any operation and that may lose flushes: while it is up, its first k rows are durable; behind a crash, a beginning of its rows with those k is found. Conditions: those of each lemma. -/
import Derived.Test.YtdjchpejhfkknaaLFacts
namespace Go.Proofs.Ytdjchpejhfkknaa.Lw
open Go.RowKit Km Dk
open Lm hiding Bs
set_option linter.unusedVariables false

/-- A disk that is up, with a log in file 2 whose first k rows are durable. -/
structure Iv (s : St) (rows : List Bs) (k : Nat) : Prop where
  up : s.down = false
  wf : Wf s
  lg : Lg s 2 rows k
/-- A disk that is down, on which the log's rows begin all that was there, and begin with what was safe. -/
structure Fin_ (s : St) (all safe : List Bs) : Prop where
  dn : s.down = true
  wf : Wf s
  beg : val (s.F 2) <+: all
  has : safe <+: val (s.F 2)
def Out (s : St) (rows : List Bs) (k : Nat) : Prop := Iv s rows k ∨ Fin_ s rows (rows.take k)
theorem lg_sm {s s' : St} {rows : List Bs} {k : Nat} (h : Lg s 2 rows k) (hs : Sm 2 s s') : Lg s' 2 rows k :=
  ⟨by rw [hs.1]; exact h.file, by rw [hs.2.1]; exact h.dur, h.le, by rw [hs.2.2]; exact h.pend, h.small⟩
theorem lg_val {s : St} {rows : List Bs} {k : Nat} (h : Lg s 2 rows k) : val (s.F 2) = rows := by rw [h.file]; exact val_whole _ h.small
theorem due_up {s : St} (h : s.down = false) : (dueS s).F = s.F ∧ (dueS s).U = s.U ∧ (dueS s).L = s.L ∧ (dueS s).down = false ∧ (dueS s).lose = s.lose := by
  have e : dueS s = { s with crash := s.crash - 1 } := by unfold dueS; rw [h]; rfl
  rw [e]
  exact ⟨rfl, rfl, rfl, h, rfl⟩
theorem due_sm {s : St} (h : s.down = false) (g : Nat) : Sm g s (dueS s) := by
  obtain ⟨h1, h2, h3, _⟩ := due_up h
  exact ⟨by rw [h1], by rw [h2], by rw [h3]⟩
theorem iv_due {s : St} {rows : List Bs} {k : Nat} (h : Iv s rows k) : Iv (dueS s) rows k := ⟨(due_up h.up).2.2.2.1, wf_due h.wf, lg_sm h.lg (due_sm h.up 2)⟩
theorem crash_fin {s : St} {rows : List Bs} {k : Nat} (h : Iv s rows k) (ks : List Int) : Fin_ (crashS ks s) rows (rows.take k) := by
  obtain ⟨y, h1, h2⟩ := lg_crash h.lg h.up ks
  have e : val ((crashS ks s).F 2) = rows.take (k + full (pcs ks 2 0 s.L)) := by rw [h1]; exact val_stop _ _ (small_take h.lg.small _) h2
  refine ⟨crash_isdown s ks, wf_crash h.wf ks, ?_, ?_⟩
  · rw [e]; exact List.take_prefix _ _
  · rw [e]; exact List.take_prefix_take_left (by omega)
theorem ent_out {s : St} {rows : List Bs} {k : Nat} (h : Iv s rows k) : (Iv (entS s) rows k ∧ (entS s).F = s.F ∧ (entS s).U = s.U ∧ (entS s).L = s.L) ∨ (Fin_ (entS s) rows (rows.take k)) := by
  unfold entS
  split
  · exact Or.inr (crash_fin (iv_due h) _)
  · obtain ⟨h1, h2, h3, _⟩ := due_up h.up
    exact Or.inl ⟨iv_due h, h1, h2, h3⟩
theorem chk_up {s : St} (h : s.down = false) : chk s true = 0 := by unfold chk; rw [h]; rfl
theorem chk_down {s : St} (h : s.down = true) (b : Bool) : chk s b = 9 := by unfold chk; rw [h]; rfl
theorem ok3 : okF (3 : Int) = true := by decide
theorem ok2 : okF (2 : Int) = true := by decide
theorem iv_fit {s s' : St} {rows : List Bs} {k : Nat} (h : Iv s rows k) (hw : Wf (fitS 3 s')) (hd : s'.down = false) (hL : ∀ p ∈ s'.L, 1 ≤ p.2) (hs : Sm 2 s s') : Iv (fitS 3 s') rows k :=
  ⟨hd, hw, lg_sm h.lg (hs.trans (fit_sm hL (by decide)))⟩
/-- Cut of file 3. -/
theorem cut_out {s : St} {rows : List Bs} {k : Nat} (h : Iv s rows k) (n : Int) : (cutE s 3 n = 0 → Iv (cutS s 3 n) rows k ∧ (cutS s 3 n).F 3 = (s.F 3).take n.toNat) ∧ (cutE s 3 n ≠ 0 → Out (cutS s 3 n) rows k) := by
  refine ⟨fun h0 => ?_, fun h0 => ?_⟩
  · have hw := wf_cut h.wf 3 n
    have e : cutS s 3 n = fitS 3 (shoS 3 n.toNat (entS s)) := by unfold cutS; rw [if_pos h0]; rfl
    rw [e] at hw ⊢
    rcases ent_out h with ⟨hi, h1, h2, h3⟩ | hf
    · have hs : Sm 2 (entS s) (shoS 3 n.toNat (entS s)) := ⟨upd_other (entS s).F 3 2 (((entS s).F 3).take n.toNat) (by decide), upd_other (entS s).U 3 2 (min ((entS s).U 3) n.toNat) (by decide), rfl⟩
      refine ⟨iv_fit hi hw hi.up (fun p hp => (hi.wf.files p hp).2) hs, ?_⟩
      show upd (entS s).F 3 (((entS s).F 3).take n.toNat) 3 = _
      rw [upd_same, h1]
    · have := (cutE_zero h0).1
      rw [chk_down hf.dn] at this
      exact absurd this (by decide)
  · have e : cutS s 3 n = entS s := by unfold cutS; rw [if_neg h0]
    rw [e]
    rcases ent_out h with ⟨hi, _⟩ | hf
    · exact Or.inl hi
    · exact Or.inr hf
theorem sh_out {s : St} {rows : List Bs} {k : Nat} (h : Iv s rows k) : (shE s 3 0 = 0 → Iv (shS s 3 0) rows k ∧ (shS s 3 0).F 3 = []) ∧ (shE s 3 0 ≠ 0 → Out (shS s 3 0) rows k) := by
  unfold shE shS
  have hz := size_nat s (show 3 < 8 by decide)
  have hz' : sizeN s 3 = (s.F 3).length := hz
  by_cases hc : ((sizeN s 3 : Nat) : Int) ≤ 0
  · rw [if_pos hc, if_pos hc]
    refine ⟨fun _ => ⟨h, ?_⟩, fun hx => absurd rfl hx⟩
    rw [hz'] at hc
    exact List.eq_nil_of_length_eq_zero (by omega)
  · rw [if_neg hc, if_neg hc]
    obtain ⟨h1, h2⟩ := cut_out h 0
    exact ⟨fun h0 => ⟨(h1 h0).1, by rw [(h1 h0).2]; simp⟩, h2⟩
/-- What an append on a disk that is up does to its state. -/
theorem addS_F {s : St} {f : Nat} {b : Bs} (h0 : addE s (f : Int) b = 0) : (addS s (f : Int) b).F f = s.F f ++ b ∧ (addS s (f : Int) b).U = s.U ∧ (addS s (f : Int) b).down = s.down ∧ (∀ g, g ≠ f → Sm g s (addS s (f : Int) b)) ∧ sizes f (addS s (f : Int) b).L = sizes f s.L ++ (if b = [] then [] else [b.length]) := by
  unfold addS
  by_cases hb : b = []
  · subst hb
    rw [if_neg (fun h => h.2 rfl)]
    exact ⟨by simp, rfl, rfl, fun g _ => Sm.refl g s, by simp⟩
  · rw [if_pos ⟨h0, hb⟩, Int.toNat_natCast]
    refine ⟨upd_same s.F f (s.F f ++ b), rfl, rfl, fun g hg => ⟨upd_other s.F f g (s.F f ++ b) hg, rfl, ?_⟩, ?_⟩
    · show sizes g (s.L ++ [(f, b.length)]) = _
      rw [sizes_append, sizes_one, if_neg (fun e => hg e.symm), List.append_nil]
    · show sizes f (s.L ++ [(f, b.length)]) = _
      rw [sizes_append, sizes_one, if_pos rfl, if_neg hb]
theorem addS_ne {s : St} {f : Int} {b : Bs} (h0 : addE s f b ≠ 0) : addS s f b = s := by unfold addS; rw [if_neg (fun h => h0 h.1)]
/-- Append to file 3. -/
theorem app_out {s : St} {rows : List Bs} {k : Nat} (h : Iv s rows k) (b : Bs) : (appE s 3 b = 0 → Iv (appS s 3 b) rows k ∧ (appS s 3 b).F 3 = s.F 3 ++ b) ∧ (appE s 3 b ≠ 0 → Out (appS s 3 b) rows k) := by
  have hd := iv_due h
  have hF := (due_up h.up).1
  have hv : Iv (addS (dueS s) 3 b) rows k ∧ (addE (dueS s) 3 b = 0 → (addS (dueS s) 3 b).F 3 = s.F 3 ++ b) := by
    by_cases h0 : addE (dueS s) 3 b = 0
    · obtain ⟨a1, a2, a3, a4, _⟩ := addS_F (s := dueS s) (f := 3) h0
      exact ⟨⟨a3.trans hd.up, wf_add hd.wf _ _, lg_sm hd.lg (a4 2 (by decide))⟩, fun _ => by rw [← hF]; exact a1⟩
    · rw [addS_ne h0]
      exact ⟨hd, fun h => absurd h h0⟩
  unfold appE appS
  by_cases hb : dueB s = true
  · rw [if_pos hb, if_pos hb]
    exact ⟨fun h => absurd h (by decide), fun _ => Or.inr (crash_fin hv.1 _)⟩
  · rw [if_neg hb, if_neg hb]
    exact ⟨fun h0 => ⟨hv.1, hv.2 h0⟩, fun _ => Or.inl hv.1⟩
/-- Flush of file 3. -/
theorem flu_out {s : St} {rows : List Bs} {k : Nat} (h : Iv s rows k) : (fluE s 3 = 0 → Iv (fluS s 3) rows k ∧ (fluS s 3).F 3 = s.F 3 ∧ (fluS s 3).U 3 = (s.F 3).length) ∧ (fluE s 3 ≠ 0 → Out (fluS s 3) rows k) := by
  have hw := wf_flu h.wf 3
  rcases ent_out h with ⟨hi, h1, h2, h3⟩ | hf
  · have hc : chk (entS s) (okF 3) = 0 := by rw [ok3]; exact chk_up hi.up
    unfold fluE fluS at *
    rw [if_pos hc] at hw ⊢
    rw [if_pos hc]
    by_cases hl : 0 < (entS s).lose
    · rw [if_pos hl] at hw ⊢
      rw [if_pos hl]
      exact ⟨fun h => absurd h (by decide), fun _ => Or.inl ⟨hi.up, hw, lg_sm hi.lg ⟨rfl, rfl, rfl⟩⟩⟩
    · rw [if_neg hl] at hw ⊢
      rw [if_neg hl]
      have hs : Sm 2 (entS s) (durS 3 (entS s)) := ⟨rfl, upd_other (entS s).U 3 2 ((entS s).F 3).length (by decide), rfl⟩
      refine ⟨fun _ => ⟨iv_fit hi hw hi.up (fun p hp => (hi.wf.files p hp).2) hs, ?_, ?_⟩, fun h => absurd rfl h⟩
      · show (entS s).F 3 = _
        rw [h1]
      · show upd (entS s).U 3 ((entS s).F 3).length 3 = _
        rw [upd_same, h1]
  · have hc : chk (entS s) (okF 3) = 9 := chk_down hf.dn _
    unfold fluE fluS
    rw [hc, if_neg (by decide), if_neg (by decide)]
    exact ⟨fun h => absurd h (by decide), fun _ => Or.inr hf⟩
/-- Turn of file 3 to file 2. -/
theorem tur_out {s : St} {rows ts : List Bs} {k : Nat} (h : Iv s rows k) (hts : Small ts) (hF : s.F 3 = recs ts) (hU : s.U 3 = (recs ts).length) : (turE s 2 3 = 0 → Iv (turS s 2 3) ts ts.length) ∧ (turE s 2 3 ≠ 0 → Out (turS s 2 3) rows k) := by
  have hw := wf_tur h.wf 2 3
  refine ⟨fun h0 => ?_, fun h0 => ?_⟩
  · rcases ent_out h with ⟨hi, h1, h2, h3⟩ | hf
    · have e : turS s 2 3 = fitS 2 (movS 2 3 (entS s)) := by unfold turS; rw [if_pos h0]; rfl
      rw [e] at hw ⊢
      have hf2 : (movS 2 3 (entS s)).F 2 = recs ts := by show upd (upd (entS s).F 2 ((entS s).F 3)) 3 [] 2 = _; rw [upd_other _ _ _ _ (by decide), upd_same, h1]; exact hF
      have hu2 : (movS 2 3 (entS s)).U 2 = (recs ts).length := by show upd (upd (entS s).U 2 ((entS s).U 3)) 3 0 2 = _; rw [upd_other _ _ _ _ (by decide), upd_same, h2]; exact hU
      refine ⟨hi.up, hw, ⟨hf2, ?_, Nat.le_refl _, ?_, hts⟩⟩
      · show (movS 2 3 (entS s)).U 2 = _
        rw [hu2, List.take_length]
      · show sizes 2 (fit 2 (((movS 2 3 (entS s)).F 2).length - (movS 2 3 (entS s)).U 2) (entS s).L) = _
        rw [hf2, hu2, Nat.sub_self, List.drop_length]
        exact sizes_fit_zero 2 _
    · have := (turE_zero h0).1
      rw [chk_down hf.dn] at this
      exact absurd this (by decide)
  · have e : turS s 2 3 = entS s := by unfold turS; rw [if_neg h0]
    rw [e]
    rcases ent_out h with ⟨hi, _⟩ | hf
    · exact Or.inl hi
    · exact Or.inr hf
/-- The log's own Rewrite. -/
theorem rew_out {s : St} {rows ts : List Bs} {k : Nat} (h : Iv s rows k) (hts : Small ts) : (wrewE s 2 ts = 0 → Iv (wrewS s 2 ts) ts ts.length) ∧ (wrewE s 2 ts ≠ 0 → Out (wrewS s 2 ts) rows k) := by
  have ht : ts.any tooB = false := by
    rw [List.any_eq_false]
    intro b hbm
    have := hts b hbm
    unfold tooB
    simp; omega
  unfold wrewE wrewS
  rw [ht, if_neg (by decide), if_neg (by decide)]
  obtain ⟨s1, s2⟩ := sh_out h
  unfold rep
  have e3 : ((2 : Nat) : Int) + 1 = 3 := rfl
  have e2 : ((2 : Nat) : Int) = 2 := rfl
  rw [e3, e2]
  by_cases c1 : shE s 3 0 = 0
  · rw [if_neg (fun h => h c1)]
    obtain ⟨i1, f1⟩ := s1 c1
    obtain ⟨a1, a2⟩ := app_out i1 (recs ts)
    by_cases c2 : appE (shS s 3 0) 3 (recs ts) = 0
    · rw [if_neg (fun h => h c2)]
      obtain ⟨i2, f2⟩ := a1 c2
      rw [f1, List.nil_append] at f2
      obtain ⟨b1, b2⟩ := flu_out i2
      by_cases c3 : fluE (appS (shS s 3 0) 3 (recs ts)) 3 = 0
      · rw [if_neg (fun h => h c3)]
        obtain ⟨i3, f3, u3⟩ := b1 c3
        rw [f2] at f3 u3
        exact tur_out i3 hts f3 u3
      · rw [if_pos c3]
        exact ⟨fun h => absurd h c3, fun _ => b2 c3⟩
    · rw [if_pos c2]
      exact ⟨fun h => absurd h c2, fun _ => a2 c2⟩
  · rw [if_pos c1]
    exact ⟨fun h => absurd h c1, fun _ => s2 c1⟩
/-- The log's own Append. -/
theorem wapp_out {s : St} {rows : List Bs} {k : Nat} {b : Bs} (h : Iv s rows k) : (wappE s 2 b = 0 → Iv (wappS s 2 b) (rows ++ [b]) k) ∧ (wappE s 2 b ≠ 0 → (Iv (wappS s 2 b) rows k ∧ wappE s 2 b ≠ 9) ∨ (wappE s 2 b = 9 ∧ Fin_ (wappS s 2 b) (rows ++ [b]) (rows.take k))) := by
  have hd := iv_due h
  unfold wappE wappS
  by_cases ht : tooB b = true
  · rw [ht, if_pos rfl, if_pos rfl]
    exact ⟨fun h => absurd h (by decide), fun _ => Or.inl ⟨h, by decide⟩⟩
  · rw [if_neg ht, if_neg ht]
    have e2 : ((2 : Nat) : Int) = 2 := rfl
    rw [e2]
    have hsm : b.length ≤ 1048576 := by
      unfold tooB at ht
      simpa using ht
    have hadd : addE (dueS s) 2 (recB b) = 0 → Iv (addS (dueS s) 2 (recB b)) (rows ++ [b]) k := by
      intro h0
      obtain ⟨a1, a2, a3, _, a5⟩ := addS_F (s := dueS s) (f := 2) h0
      rw [e2] at a1 a2 a3 a5
      rw [if_neg (recB_ne b), recB_length] at a5
      have hk := hd.lg.le
      refine ⟨a3.trans hd.up, wf_add hd.wf _ _, ⟨?_, ?_, by simp; omega, ?_, small_append hd.lg.small (fun c hc => by rw [List.mem_singleton] at hc; subst hc; exact hsm)⟩⟩
      · rw [a1, hd.lg.file, recs_append, recs_one]
      · rw [a2, hd.lg.dur, List.take_append_of_le_length hk]
      · rw [a5, hd.lg.pend, List.drop_append_of_le_length hk, List.map_append]
        rfl
    have hne : addE (dueS s) 2 (recB b) ≠ 0 → addS (dueS s) 2 (recB b) = dueS s := fun h0 => addS_ne h0
    unfold appE appS
    by_cases hb : dueB s = true
    · rw [if_pos hb, if_pos hb]
      refine ⟨fun h => absurd h (by decide), fun _ => Or.inr ⟨rfl, ?_⟩⟩
      by_cases h0 : addE (dueS s) 2 (recB b) = 0
      · have hf := crash_fin (hadd h0) s.keep
        refine ⟨hf.dn, hf.wf, hf.beg, ?_⟩
        have := hf.has
        rw [List.take_append_of_le_length hd.lg.le] at this
        exact this
      · rw [hne h0]
        have hf := crash_fin hd s.keep
        exact ⟨hf.dn, hf.wf, hf.beg.trans (List.prefix_append _ _), hf.has⟩
    · rw [if_neg hb, if_neg hb]
      refine ⟨hadd, fun h0 => Or.inl ⟨?_, ?_⟩⟩
      · rw [hne h0]
        exact hd
      · unfold addE
        rw [ok2, chk_up hd.up, if_pos rfl]
        split <;> decide
/-- The log's own Flush. -/
theorem wflu_out {s : St} {rows : List Bs} {k : Nat} (h : Iv s rows k) : (fluE s 2 = 0 → Iv (fluS s 2) rows rows.length) ∧ (fluE s 2 ≠ 0 → Out (fluS s 2) rows k) := by
  have hw := wf_flu h.wf 2
  rcases ent_out h with ⟨hi, h1, h2, h3⟩ | hf
  · have hc : chk (entS s) (okF 2) = 0 := by rw [ok2]; exact chk_up hi.up
    unfold fluE fluS at *
    rw [if_pos hc] at hw ⊢
    rw [if_pos hc]
    by_cases hl : 0 < (entS s).lose
    · rw [if_pos hl] at hw ⊢
      rw [if_pos hl]
      exact ⟨fun h => absurd h (by decide), fun _ => Or.inl ⟨hi.up, hw, lg_sm hi.lg ⟨rfl, rfl, rfl⟩⟩⟩
    · rw [if_neg hl] at hw ⊢
      rw [if_neg hl]
      refine ⟨fun _ => ⟨hi.up, hw, ⟨hi.lg.file, ?_, Nat.le_refl _, ?_, hi.lg.small⟩⟩, fun h => absurd rfl h⟩
      · show upd (entS s).U 2 ((entS s).F 2).length 2 = _
        rw [upd_same, hi.lg.file, List.take_length]
      · show sizes 2 (fit 2 (((entS s).F 2).length - upd (entS s).U 2 ((entS s).F 2).length 2) (entS s).L) = _
        rw [upd_same, Nat.sub_self, List.drop_length]
        exact sizes_fit_zero 2 _
  · have hc : chk (entS s) (okF 2) = 9 := chk_down hf.dn _
    unfold fluE fluS
    rw [hc, if_neg (by decide), if_neg (by decide)]
    exact ⟨fun h => absurd h (by decide), fun _ => Or.inr hf⟩
theorem lose_iv {s : St} {rows : List Bs} {k : Nat} (h : Iv s rows k) {n : Int} (hn : J64 n) : Iv (loseS s n) rows k := ⟨h.up, wf_lose h.wf hn, lg_sm h.lg ⟨rfl, rfl, rfl⟩⟩
theorem arm_iv {s : St} {rows : List Bs} {k : Nat} (h : Iv s rows k) {n : Int} (hn : J64 n) {ks : List Int} (hk : ∀ z ∈ ks, J64 z) (hl : ks.length ≤ 17592186044416) : Iv (armS s n ks) rows k := by
  have hw := wf_arm h.wf hn hk hl
  unfold armS at *
  split
  · next hc => rw [if_pos hc] at hw; exact ⟨h.up, hw, lg_sm h.lg ⟨rfl, rfl, rfl⟩⟩
  · next hc => rw [if_neg hc] at hw; exact ⟨h.up, hw, lg_sm h.lg ⟨rfl, rfl, rfl⟩⟩
/-- Behind Start, Lose(0) and Arm(0, nil) a disk that was down is calm, and its file is as the crash left it. -/
theorem fin_calm {s : St} {all safe : List Bs} (h : Fin_ s all safe) : Cal (armS (loseS (startS s) 0) 0 []) ∧ (armS (loseS (startS s) 0) 0 []).F = s.F := by
  have e : armS (loseS (startS s) 0) 0 [] = { (loseS (startS s) 0) with crash := 0, keep := [] } := by unfold armS; rw [if_neg (by decide)]
  have hw := wf_arm (wf_lose (wf_start h.wf) (n := 0) ⟨by decide, by decide⟩) (n := 0) ⟨by decide, by decide⟩ (keep := []) (fun z hz => (by cases hz)) (by decide)
  rw [e] at hw ⊢
  exact ⟨⟨⟨rfl, rfl⟩, rfl, hw⟩, rfl⟩
end Go.Proofs.Ytdjchpejhfkknaa.Lw
