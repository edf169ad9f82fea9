/- Plain mathematics of WalAlone: the disk's states where a log of file 0 and one of file 2 take turns. Conditions: those of each lemma. -/
import Derived.Test.YtdjchpejhfkknaaLSkipW
import Derived.Test.YtdjchpejhfkknaaLTwo
namespace Go.Proofs.Ytdjchpejhfkknaa.Lw
open Go.RowKit Km Dk
open Lm hiding Bs
set_option linter.unusedVariables false

/-- The first i rows of l are in file 0, none flushed; the first j rows of m are in file 2, all durable. -/
structure Al (s : St) (l m : List Bs) (i j : Nat) : Prop where
  cal : Cal s
  lg : Lg s 0 (l.take i) 0
  dur : Dur 2 (recs (m.take j)) s
theorem al_open {s : St} {l m : List Bs} {i j : Nat} (h : Al s l m i j) (hm : Small m) : (opn s ((2 : Nat) : Int)).1 = 0 ∧ val (readB s ((2 : Nat) : Int)) = m.take j ∧ Al (opn s ((2 : Nat) : Int)).2 l m i j := by
  obtain ⟨q1, q2, q3, _, q5, q6⟩ := opn_cal h.cal (f := 2) (by decide)
  have hv : val (s.F 2) = m.take j := by rw [h.dur.1]; exact val_whole _ (small_take hm j)
  rw [hv] at q3
  obtain ⟨m1, m2, m3⟩ := q5 0 (by decide) (by decide)
  exact ⟨q1, by rw [q6]; exact hv, q2, ⟨by rw [m1]; exact h.lg.file, by rw [m2]; exact h.lg.dur, h.lg.le, by rw [m3]; exact h.lg.pend, h.lg.small⟩, q3⟩
theorem al_zero (l m : List Bs) : (opn Km.new ((0 : Nat) : Int)).1 = 0 ∧ val (readB Km.new ((0 : Nat) : Int)) = l.take 0 ∧ Al (opn Km.new ((0 : Nat) : Int)).2 l m 0 0 := by
  obtain ⟨q1, q2, q3, _, q5, q6⟩ := opn_cal new_cal (f := 0) (by decide)
  have hv : val (Km.new.F 0) = [] := val_nil
  rw [hv] at q3
  obtain ⟨m1, m2, m3⟩ := q5 2 (by decide) (by decide)
  exact ⟨q1, by rw [q6, hv]; rfl, q2, ⟨q3.1, q3.2.1, Nat.zero_le _, by rw [q3.2.2]; simp, fun b hb => by simp at hb⟩, m1, m2, m3⟩
theorem al_app {s : St} {l m : List Bs} {i j : Nat} {b : Bs} (h : Al s l m i j) (hb : l[i]? = some b) (hs : b.length ≤ 1048576) (hl : (s.F 0).length + (b.length + 7) ≤ 16777216) :
    wappE s 0 b = 0 ∧ wappR s 0 (l.take i) b = l.take (i + 1) ∧ Al (wappS s 0 b) l m (i + 1) j := by
  obtain ⟨p1, p2, p3, p4, p5, p6⟩ := wapp_cal h.cal (f := 0) (by decide) hs hl
  have htk := walSkips.take_next hb
  obtain ⟨m1, m2, m3⟩ := p6 2 (by decide)
  refine ⟨p1, by rw [wapp_rows p1, htk], p2, ⟨by rw [p3, h.lg.file, htk, recs_append, recs_one], by rw [p4, h.lg.dur]; simp, Nat.zero_le _, ?_, ?_⟩, by rw [m1]; exact h.dur.1, by rw [m2]; exact h.dur.2.1, by rw [m3]; exact h.dur.2.2⟩
  · rw [p5, h.lg.pend, htk]
    simp
  · rw [htk]
    exact small_append h.lg.small (fun c hc => by rw [List.mem_singleton] at hc; subst hc; exact hs)
theorem al_stay {s : St} {l m : List Bs} {i j : Nat} (h : Al s l m i j) (hi : l.length ≤ i) : Al s l m (i + 1) j := by
  have e : l.take (i + 1) = l.take i := by rw [List.take_of_length_le hi, List.take_of_length_le (by omega)]
  exact ⟨h.cal, by rw [e]; exact h.lg, h.dur⟩
theorem al_rew {s : St} {l m : List Bs} {i j k : Nat} {rows : List Bs} (h : Al s l m i j) (hm : Small m) (hz : (recs (m.take k)).length ≤ 16777216) :
    wrewE s 2 (m.take k) = 0 ∧ wrewR s 2 rows (m.take k) = m.take k ∧ Al (wrewS s 2 (m.take k)) l m i k := by
  obtain ⟨r1, r2, r3, r4, _, r6⟩ := wrew_cal h.cal (f := 2) (by decide) (rows := rows) (small_take hm k) hz
  obtain ⟨m1, m2, m3⟩ := r6 0 (by decide) (by decide)
  exact ⟨r1, r2, r3, ⟨by rw [m1]; exact h.lg.file, by rw [m2]; exact h.lg.dur, h.lg.le, by rw [m3]; exact h.lg.pend, h.lg.small⟩, r4⟩
theorem al_same {s : St} {l m : List Bs} {i j : Nat} (h : Al s l m i j) (hj : m.length ≤ j) : Al s l m i (j + 1) := by
  have e : m.take (j + 1) = m.take j := by rw [List.take_of_length_le hj, List.take_of_length_le (by omega)]
  exact ⟨h.cal, h.lg, by rw [e]; exact h.dur⟩
/-- What a crash leaves. -/
theorem al_crash {s : St} {l m : List Bs} {i j : Nat} (h : Al s l m i j) (hi : l.length ≤ i) (hj : m.length ≤ j) (hm : Small m) (ks : List Int) :
    ∃ n, val ((crashS ks s).F 0) = l.take n ∧ val ((crashS ks s).F 2) = m := by
  have hl := h.lg
  have hd := h.dur
  rw [List.take_of_length_le hi] at hl
  rw [List.take_of_length_le hj] at hd
  have hl2 : Lg s 2 m m.length := ⟨hd.1, by rw [hd.2.1, List.take_length], Nat.le_refl _, by rw [hd.2.2, List.drop_length]; rfl, hm⟩
  obtain ⟨y, h1, h2⟩ := lg_crash hl h.cal.idl.up ks
  obtain ⟨z, h3, h4⟩ := lg_crash hl2 h.cal.idl.up ks
  exact ⟨_, by rw [h1]; exact val_stop _ _ (small_take hl.small _) h2, by rw [h3, val_stop _ _ (small_take hm _) h4, List.take_of_length_le (by omega)]⟩
end Go.Proofs.Ytdjchpejhfkknaa.Lw
