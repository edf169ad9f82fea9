/- What DiskLasts keeps: the row of what is safe, and what an act makes of it. Conditions: those of each lemma. -/
import Derived.Test.YtjgedopbcopnkaaKLaW
namespace Go.Proofs.Ytjgedopbcopnkaa.diskLasts
open Go.RowKit Km Dk
set_option linter.unusedVariables false

def IsTrue (w : World) (e : Ending) (w' : World) : Prop := e = .returned (.bool true) ∧ Below w.heap.size w w'
/-- The row of eight texts. -/
def sfc (sf : Nat → Bs) : Array Value := ((List.range 8).map fun j => Value.string (sv (sf j))).toArray
theorem sfc_at (a : Nat → Bs) (f : Nat) (hf : f < 8) : (sfc a)[f]? = some (.string (sv (a f))) := by
  simp [sfc, hf]
theorem sfc_set (a : Nat → Bs) (f : Nat) (x : Bs) : (sfc a).setIfInBounds f (.string (sv x)) = sfc (upd a f x) := by
  apply Array.ext
  · simp [sfc]
  · intro i h1 h2
    rw [Array.getElem_setIfInBounds]
    · by_cases e : f = i
      · subst e; simp [sfc, upd]
      · simp [sfc, upd, e, Ne.symm e]
    · simpa [sfc] using h1
theorem infoStr : (Try.prog.info? 9).map (fun i => (i.zero, i.size, i.bytes)) = some (some (.string ⟨#[]⟩), 1, 16) := by kernel_rfl
theorem mk8 : madeCells #[Value.string ⟨#[]⟩] 8 = sfc (fun _ => []) := by
  apply Array.ext
  · simp [madeCells, sfc]
  · intro i h1 h2
    simp [madeCells, sfc, Nat.mod_one]
    rfl
theorem run_mk8 (W : World) : (Instr.makeSlice 28 (.int .i64 8) (.int .i64 8)).run Try.prog W = .ok (.slice (some ⟨W.heap.size, 0, none⟩) 8 8) (W.alloc (.cells (sfc fun _ => []) 9 (0, 0))) := by
  obtain ⟨i0, hi, hz0, hz1, hz2⟩ := info_parts infoStr
  have h := run_make W 28 9 i0 (.string ⟨#[]⟩) Try.underlying28 hi hz0 .i64 .i64 8 8 (by omega) (by omega) (by rw [hz2]; omega) (by omega)
  have e : madeCells (Value.string ⟨#[]⟩).cells (Int.toNat 8 * 1) = sfc (fun _ => []) := mk8
  rw [h, hz1, e]
  rfl
theorem acts_below {w w' : World} {v : Value} {l : List (Ac × Value)} (h : Acts w v l) (hb : Below w.heap.size w w') : Acts w' v l := by
  obtain ⟨a, c, e, h1, h2, hc⟩ := h
  refine ⟨a, c, e, h1, fun p hp => ?_, fun h0 => ?_⟩
  · obtain ⟨a1, a2, a3, a4, a5, a6, a7, a8, a9⟩ := h2 p hp
    exact ⟨a1, a2, a3, a4, a5, a6, a7, a8.below hb, fun b hb' => Nat.lt_of_lt_of_le (a9 b hb') hb.size⟩
  · obtain ⟨b, o, e2, h3, h4⟩ := hc h0
    exact ⟨b, o, e2, Nat.lt_of_lt_of_le h3 hb.size, fun j p hp i hi => (hb.cell (p := ⟨b, o + j * 6 + i, none⟩) h3).trans (h4 j p hp i hi)⟩
theorem szA_mem {l : List (Ac × Value)} {p : Ac × Value} (h : p ∈ l) : p.1.s.length ≤ szA l := by
  unfold szA
  induction l with
  | nil => cases h
  | cons q t ih =>
    rcases List.mem_cons.1 h with rfl | h
    · simp; omega
    · have := ih h; simp only [List.map_cons, List.sum_cons]; omega
/-- What is safe behind an act, in three steps. -/
def n1 (sf : Nat → Bs) (s : St) (a : Ac) : Nat → Bs := if pick a.d = 2 ∧ doE s a = 0 then upd sf a.f.toNat ((doS s a).F a.f.toNat) else sf
def n2 (sf : Nat → Bs) (s : St) (a : Ac) : Nat → Bs := if pick a.d = 3 ∧ doE s a = 0 then upd sf a.f.toNat ((sf a.f.toNat).take a.n.toNat) else sf
def n3 (sf : Nat → Bs) (s : St) (a : Ac) : Nat → Bs := if pick a.d = 4 ∧ doE s a = 0 then upd (upd sf a.f.toNat (sf a.g.toNat)) a.g.toNat [] else sf
theorem sv_next {sf : Nat → Bs} {s : St} (hw : Wf s) (h : Sv sf s) (a : Ac) : Sv (n3 (n2 (n1 sf s a) s a) s a) (doS s a) := by
  unfold n3 n2 n1 doS doE
  have hp := pick_lt a.d
  generalize pick a.d = p at *
  have hc : p = 0 ∨ p = 1 ∨ p = 2 ∨ p = 3 ∨ p = 4 ∨ p = 5 ∨ p = 6 ∨ p = 7 ∨ p = 8 ∨ p = 9 ∨ p = 10 := by omega
  rcases hc with rfl | rfl | rfl | rfl | rfl | rfl | rfl | rfl | rfl | rfl | rfl
  · simpa using sv_app hw h a.f a.s
  · simpa using sv_app hw h a.f a.s
  · by_cases he : fluE s a.f = 0
    · obtain ⟨⟨k, hk, hf⟩, _, _⟩ := flu_yes a.f he
      have := sv_flu hw h hk (by rw [← hf]; exact he)
      rw [hf] at he
      simpa [hf, he] using this
    · simpa [he] using sv_flu_no hw h a.f he
  · by_cases he : cutE s a.f a.n = 0
    · obtain ⟨⟨k, m, hk, hf, hn⟩, _⟩ := cut_yes he
      have := sv_cut hw h hk (m := m) (by rw [← hf, ← hn]; exact he)
      rw [hf, hn] at he
      simpa [hf, hn, he] using this
    · simpa [he] using sv_cut_no hw h a.f a.n he
  · by_cases he : turE s a.f a.g = 0
    · obtain ⟨⟨k, l, hk, hl, hf, hg, hkl⟩, _⟩ := tur_yes he
      have := sv_tur hw h hk hl hkl (by rw [← hf, ← hg]; exact he)
      rw [hf, hg] at he
      simpa [hf, hg, he] using this
    · simpa [he] using sv_tur_no hw h a.f a.g he
  · simpa using sv_crash hw h a.k
  · have : Sv sf (loseS s a.n) := h
    simpa using this
  · have : Sv sf (startS s) := h
    simpa using this
  · simpa using h
  · simpa using h
  · have : Sv sf (armS s a.n a.k) := by
      unfold armS
      split <;> exact h
    simpa using this
theorem due_down {s : St} (hu : s.down = false) : (dueS s).down = false := by
  have e : dueS s = { s with crash := s.crash - 1 } := by unfold dueS; rw [hu]; rfl
  rw [e]
  exact hu
theorem ent_crashed {s : St} (hw : Wf s) (hu : s.down = false) (hd : (entS s).down = true) : ∀ f, f < 8 → (entS s).U f = ((entS s).F f).length := by
  have hdue : (dueS s).down = false := due_down hu
  by_cases hb : dueB s = true
  · have e : entS s = crashS s.keep (dueS s) := by unfold entS; rw [if_pos hb]
    rw [e]
    exact fun f hf => crash_all (wf_due hw) _ hdue hf
  · have e : entS s = dueS s := by unfold entS; rw [if_neg hb]
    rw [e, hdue] at hd
    cases hd
/-- When an act takes the machine down, all that remains is durable. -/
theorem do_crashed {s : St} (hw : Wf s) (a : Ac) (hu : s.down = false) (hd : (doS s a).down = true) : ∀ f, f < 8 → (doS s a).U f = ((doS s a).F f).length := by
  have hdue : (dueS s).down = false := due_down hu
  have hadd : ∀ f b, (addS (dueS s) f b).down = false := fun f b => by unfold addS; split <;> exact hdue
  have happ : (appS s a.f a.s).down = true → ∀ f, f < 8 → (appS s a.f a.s).U f = ((appS s a.f a.s).F f).length := by
    intro hd
    by_cases hb : dueB s = true
    · have e : appS s a.f a.s = crashS s.keep (addS (dueS s) a.f a.s) := by unfold appS; rw [if_pos hb]
      rw [e]
      exact fun f hf => crash_all (wf_add (wf_due hw) _ _) _ (hadd _ _) hf
    · have e : appS s a.f a.s = addS (dueS s) a.f a.s := by unfold appS; rw [if_neg hb]
      rw [e, hadd] at hd
      cases hd
  unfold doS at *
  have hp := pick_lt a.d
  generalize pick a.d = p at *
  have hc : p = 0 ∨ p = 1 ∨ p = 2 ∨ p = 3 ∨ p = 4 ∨ p = 5 ∨ p = 6 ∨ p = 7 ∨ p = 8 ∨ p = 9 ∨ p = 10 := by omega
  rcases hc with rfl | rfl | rfl | rfl | rfl | rfl | rfl | rfl | rfl | rfl | rfl
  · exact happ hd
  · exact happ hd
  · by_cases hk : chk (entS s) (okF a.f) = 0
    · have := (chk_zero hk).1
      have e : (fluS s a.f).down = (entS s).down := by unfold fluS; rw [if_pos hk]; split <;> rfl
      rw [show (fluS s a.f).down = true from hd, this] at e
      cases e
    · have e : fluS s a.f = entS s := by unfold fluS; rw [if_neg hk]
      have hd' : (fluS s a.f).down = true := hd
      show ∀ f, f < 8 → (fluS s a.f).U f = ((fluS s a.f).F f).length
      rw [e] at hd' ⊢
      exact ent_crashed hw hu hd'
  · have hd' : (cutS s a.f a.n).down = true := hd
    show ∀ f, f < 8 → (cutS s a.f a.n).U f = ((cutS s a.f a.n).F f).length
    by_cases he : cutE s a.f a.n = 0
    · have h1 := (cut_yes he).2
      have e : (cutS s a.f a.n).down = (entS s).down := by unfold cutS; rw [if_pos he]; rfl
      rw [hd', h1] at e
      cases e
    · have e : cutS s a.f a.n = entS s := by unfold cutS; rw [if_neg he]
      rw [e] at hd' ⊢
      exact ent_crashed hw hu hd'
  · have hd' : (turS s a.f a.g).down = true := hd
    show ∀ f, f < 8 → (turS s a.f a.g).U f = ((turS s a.f a.g).F f).length
    by_cases he : turE s a.f a.g = 0
    · have h1 := (tur_yes he).2
      have e : (turS s a.f a.g).down = (entS s).down := by unfold turS; rw [if_pos he]; rfl
      rw [hd', h1] at e
      cases e
    · have e : turS s a.f a.g = entS s := by unfold turS; rw [if_neg he]
      rw [e] at hd' ⊢
      exact ent_crashed hw hu hd'
  · exact fun f hf => crash_all hw _ hu hf
  · have hd' : s.down = true := hd
    rw [hu] at hd'; cases hd'
  · have hd' : false = true := hd
    cases hd'
  · have hd' : s.down = true := hd
    rw [hu] at hd'; cases hd'
  · have hd' : s.down = true := hd
    rw [hu] at hd'; cases hd'
  · have hd' : (armS s a.n a.k).down = true := hd
    have e : (armS s a.n a.k).down = s.down := by unfold armS; split <;> rfl
    rw [hd', hu] at e
    cases e
theorem ent_up {s : St} (h : (entS s).down = false) : s.down = false := by
  cases hd : s.down with
  | false => rfl
  | true =>
    have e1 : dueB s = false := by unfold dueB; rw [hd]; rfl
    have e2 : dueS s = s := by unfold dueS; rw [hd]; rfl
    unfold entS at h
    rw [e1, e2] at h
    rw [show s.down = false from h] at hd
    cases hd
theorem dsk_out {A : Nat → Prop} {r : Nat} {s : St} {W : World} (h : Dsk A r s W) {g : Nat} (hg : ¬ A g) (i : Nat) (u : Value) : Dsk A r s (W.setCell ⟨g, i, none⟩ u) :=
  ⟨h.1, h.2.choose, h.2.choose_spec.stay (by rw [setCell_size]; exact Nat.le_refl _) (fun b _ hb => heap_setCell_other W _ b u (fun e => hg (by have e' : b = g := e; rw [← e']; exact hb)))⟩
theorem sf_set {W : World} {g : Nat} {sf : Nat → Bs} (h : Blk W g 9 (sfc sf)) (i : Nat) (x : Bs) : Blk (W.setCell ⟨g, i, none⟩ (.string (sv x))) g 9 (sfc (upd sf i x)) := by
  have := h.set_ i (.string (sv x))
  rw [sfc_set] at this
  exact this
theorem upd_self (f : Nat → Bs) (i : Nat) : upd f i (f i) = f := by
  funext j
  unfold upd
  split
  · next e => rw [e]
  · rfl
/-- What is safe behind a flush, a cut, a turn, and behind anything else. -/
theorem nx2 {sf : Nat → Bs} {s : St} (hw : Wf s) (h : Sv sf s) {a : Ac} (hp : pick a.d = 2) (he : doE s a = 0) : ∃ k, k < 8 ∧ a.f = (k : Nat) ∧ s.down = false ∧ (doS s a).down = false ∧ Sv (upd sf k ((doS s a).F k)) (doS s a) := by
  have h1 := sv_next hw h a
  unfold n3 n2 n1 at h1
  simp only [hp, he] at h1
  have e1 : doE s a = fluE s a.f := by unfold doE; rw [hp]; rfl
  have e2 : doS s a = fluS s a.f := by unfold doS; rw [hp]; rfl
  obtain ⟨⟨k, hk, hf⟩, h2, h3⟩ := flu_yes a.f (e1.symm.trans he)
  refine ⟨k, hk, hf, ent_up h3, by rw [e2, h2]; exact h3, ?_⟩
  rw [hf] at h1
  simpa using h1
theorem nx3 {sf : Nat → Bs} {s : St} (hw : Wf s) (h : Sv sf s) {a : Ac} (hp : pick a.d = 3) (he : doE s a = 0) : ∃ k m : Nat, k < 8 ∧ a.f = (k : Nat) ∧ a.n = (m : Nat) ∧ s.down = false ∧ (doS s a).down = false ∧ Sv (upd sf k ((sf k).take m)) (doS s a) := by
  have h1 := sv_next hw h a
  unfold n3 n2 n1 at h1
  simp only [hp, he] at h1
  have e1 : doE s a = cutE s a.f a.n := by unfold doE; rw [hp]; rfl
  have e2 : doS s a = cutS s a.f a.n := by unfold doS; rw [hp]; rfl
  have he' := e1.symm.trans he
  obtain ⟨⟨k, m, hk, hf, hn⟩, h3⟩ := cut_yes he'
  refine ⟨k, m, hk, hf, hn, ent_up h3, by rw [e2]; unfold cutS; rw [if_pos he']; exact h3, ?_⟩
  rw [hf, hn] at h1
  simpa using h1
theorem nx4 {sf : Nat → Bs} {s : St} (hw : Wf s) (h : Sv sf s) {a : Ac} (hp : pick a.d = 4) (he : doE s a = 0) : ∃ k l : Nat, k < 8 ∧ l < 8 ∧ a.f = (k : Nat) ∧ a.g = (l : Nat) ∧ s.down = false ∧ (doS s a).down = false ∧ Sv (upd (upd sf k (sf l)) l []) (doS s a) := by
  have h1 := sv_next hw h a
  unfold n3 n2 n1 at h1
  simp only [hp, he] at h1
  have e1 : doE s a = turE s a.f a.g := by unfold doE; rw [hp]; rfl
  have e2 : doS s a = turS s a.f a.g := by unfold doS; rw [hp]; rfl
  have he' := e1.symm.trans he
  obtain ⟨⟨k, l, hk, hl, hf, hg, _⟩, h3⟩ := tur_yes he'
  refine ⟨k, l, hk, hl, hf, hg, ent_up h3, by rw [e2]; unfold turS; rw [if_pos he']; exact h3, ?_⟩
  rw [hf, hg] at h1
  simpa using h1
theorem nx0 {sf : Nat → Bs} {s : St} (hw : Wf s) (h : Sv sf s) {a : Ac} (hn : (pick a.d ≠ 2 ∧ pick a.d ≠ 3 ∧ pick a.d ≠ 4) ∨ doE s a ≠ 0) : Sv sf (doS s a) := by
  have h1 := sv_next hw h a
  unfold n3 n2 n1 at h1
  rcases hn with ⟨a2, a3, a4⟩ | he
  · simpa [a2, a3, a4] using h1
  · simpa [he] using h1
theorem upd_next (F sf : Nat → Bs) (q : Nat) : upd (fun f => if f < q then F f else sf f) q (F q) = fun f => if f < q + 1 then F f else sf f := by
  funext f
  unfold upd
  show (if f = q then F q else if f < q then F f else sf f) = if f < q + 1 then F f else sf f
  by_cases e : f = q
  · subst e; rw [if_pos rfl, if_pos (by omega)]
  · rw [if_neg e]
    by_cases e2 : f < q
    · rw [if_pos e2, if_pos (by omega)]
    · rw [if_neg e2, if_neg (by omega)]
theorem sv_off {sf : Nat → Bs} {s : St} (h : Sv sf s) : Sv sf (startS (armS s 0 [])) := by
  have e : armS s 0 [] = { s with crash := 0, keep := [] } := by unfold armS; rw [if_neg (by decide)]
  rw [e]
  exact h
theorem sv_crashed {sf : Nat → Bs} {s : St} (hw : Wf s) (hu : ∀ f, f < 8 → s.U f = (s.F f).length) : Sv (fun f => if f < 8 then s.F f else sf f) (crashS [] (startS s)) := by
  refine sv_all (wf_crash (wf_start hw) _) (fun f hf => crash_all (wf_start hw) _ rfl hf) (fun f hf => ?_)
  rw [if_pos hf]
  exact (crash_full (wf_start hw) [] hf (hu f hf)).symm
set_option maxRecDepth 100000 in
/-- The law where there are not few acts. -/
theorem notfew {w : World} {v kv : Value} {l : List (Ac × Value)} (h : Acts w v l) (hm : 200 < l.length ∨ (l.length ≤ 200 ∧ 100000 < szA l)) {ka : Option Addr} {kn kc : Nat} (hk : kv = .slice ka kn kc) : Calls Try.prog 3 #[v, kv] w (IsTrue w) := by
  have SM := Lib.hid (fun W => small_any W)
  have HF := Lib.hid (show ∀ W, Below w.heap.size w W → Calls Try.prog 9 #[v] W fun e w' => e = .returned (.bool false) ∧ Below W.heap.size W w' from fun W hb => by
    rcases hm with h1 | ⟨h1, h2⟩
    · exact few_many (acts_below h hb) h1
    · have := few_less (acts_below h hb) h1
      rw [decide_eq_false (by omega)] at this
      exact this)
  obtain ⟨a, c, rfl, _⟩ := h
  subst hk
  clear hm
  generalize l.length = N at *
  go_enter Try.func3, Try.ntmps3
  go_wp2_with fail
  refine (SM.out _).mono ?_
  rintro e w1 ⟨rfl, hb1⟩
  go_wp2_with fail
  refine (new_any (A := fun b => w1.heap.size ≤ b) (fun b hb => hb)).mono ?_
  rintro e w2 ⟨rfl, _, hb2⟩
  have HB := Lib.hid (below_trans hb1 hb2)
  clear hb1 hb2
  go_wp2_with fail
  refine (HF.out _ HB.out).mono ?_
  rintro e w3 ⟨rfl, hb3⟩
  have HB3 := Lib.hid (below_trans HB.out hb3)
  clear hb3
  go_wp2_with fail
  go_ret
  exact ⟨rfl, HB3.out⟩
end Go.Proofs.Ytjgedopbcopnkaa.diskLasts
