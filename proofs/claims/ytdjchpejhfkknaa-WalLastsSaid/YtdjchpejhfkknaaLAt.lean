/- A disk with one log of it, and what the methods of both leave, named. Conditions: the disk and the log lie in memory of their own. -/
import Derived.Test.YtdjchpejhfkknaaLOpen
namespace Go.Proofs.Ytdjchpejhfkknaa.Lw
open Go.RowKit Km Dk
open Lm hiding Bs
set_option linter.unusedVariables false
set_option maxRecDepth 100000

/-- What Open leaves. -/
def WOpen (A : Nat → Prop) (r : Nat) (f : Int) (R : Int × St) (rows : List Bs) (w : World) (e : Ending) (w' : World) : Prop :=
  ∃ D, (∀ b, D b → A b) ∧ Dsk D r R.2 w' ∧ Fr A w w' ∧
    (R.1 = 0 → ∃ p M, e = .returned (.tuple #[.pointer (some ⟨p, 0, none⟩), .int .i64 0]) ∧ LD D M r p f.toNat R.2 rows w' ∧ ∀ b, M b → w.heap.size ≤ b) ∧
    (R.1 ≠ 0 → e = .returned (.tuple #[.pointer none, .int .i64 R.1]))
theorem wopen_any {A : Nat → Prop} {r : Nat} {s : St} {w : World} (h : Dsk A r s w) (f : Int) : Calls Try.prog 26 #[.pointer (some ⟨r, 0, none⟩), .int .i64 f] w fun e w' => WOpen A r f (opn s f) (val (readB s f)) w e w' := by
  by_cases hf : f < 0 ∨ 6 < f
  · have e1 : opn s f = (1, s) := by unfold opn; rw [if_pos hf]
    rw [e1]
    refine (open_arg f hf).mono ?_
    rintro e w' ⟨rfl, rfl⟩
    exact ⟨A, fun _ hb => hb, h, Fr.refl _ _, fun h => absurd (show (1 : Int) = 0 from h) (by decide), fun _ => rfl⟩
  · by_cases he : readE s f ≠ 0
    · have e1 : opn s f = (readE s f, s) := by unfold opn; rw [if_neg hf, if_pos he]
      rw [e1]
      refine (open_read h hf he).mono ?_
      rintro e w' ⟨rfl, hb⟩
      exact ⟨A, fun _ hb => hb, h.below hb, (Fr.refl _ _).below hb, fun h => absurd h he, fun _ => rfl⟩
    · have e1 : opn s f = opn3 s f (vlen (readB s f)) := by unfold opn; rw [if_neg hf, if_neg he]
      rw [e1]
      obtain ⟨k, rfl⟩ : ∃ k : Nat, f = (k : Nat) := ⟨f.toNat, by omega⟩
      exact open_main h (by omega) (Decidable.not_not.1 he)

/-- A disk and one log of it, all of whose blocks are in A. -/
def Lgd (A : Nat → Prop) (r p f : Nat) (s : St) (rows : List Bs) (w : World) : Prop := ∃ D M, (∀ b, D b → A b) ∧ (∀ b, M b → A b) ∧ LD D M r p f s rows w
section
variable {A : Nat → Prop} {r p f : Nat} {s s' : St} {rows rows' : List Bs} {w w' : World}
theorem Lgd.new (h : Lgd A r p f s rows w) : ∀ b, w.heap.size ≤ b → A b := by
  obtain ⟨D, M, h1, _, h3⟩ := h
  exact fun b hb => h1 b (h3.dsk.2.choose_spec.sep.new b hb)
theorem Lgd.wf (h : Lgd A r p f s rows w) : Wf s := h.choose_spec.choose_spec.2.2.dsk.1
theorem Lgd.below (h : Lgd A r p f s rows w) (hb : Below w.heap.size w w') : Lgd A r p f s rows w' := by
  obtain ⟨D, M, h1, h2, h3⟩ := h
  exact ⟨D, M, h1, h2, h3.below hb⟩
theorem Lgd.mono {A' : Nat → Prop} (h : Lgd A r p f s rows w) (ha : ∀ b, A b → A' b) : Lgd A' r p f s rows w := by
  obtain ⟨D, M, h1, h2, h3⟩ := h
  exact ⟨D, M, fun b hb => ha b (h1 b hb), fun b hb => ha b (h2 b hb), h3⟩
/-- Blocks that have come in since are the caller's. -/
theorem Lgd.hide {P : Nat → Prop} (h : Lgd A r p f s rows w) (hb : Below w.heap.size w w') (hP : ∀ g, P g → w.heap.size ≤ g ∧ g < w'.heap.size) : Lgd (fun b => A b ∧ ¬ P b) r p f s rows w' := by
  obtain ⟨D, M, h1, h2, h3⟩ := h
  obtain ⟨⟨v, b1, b2, b3⟩, b4⟩ := h3.log
  have hM : ∀ b, b < w.heap.size → ¬ P b := fun b hl hp => by have := hP b hp; omega
  refine ⟨fun b => D b ∧ ¬ P b, fun b => M b ∧ ¬ P b, fun b hb => ⟨h1 b hb.1, hb.2⟩, fun b hb => ⟨h2 b hb.1, hb.2⟩, Dsk.drop h3.dsk hb hP, ?_, fun b hb hD => h3.sep b hb.1 hD.1⟩
  have hl := h3.log.below hb
  obtain ⟨⟨v', c1, c2, c3⟩, c4⟩ := hl
  refine ⟨⟨v, (hb.block p b1.lt).trans b1, owns_block b2 fun g hg => hb.block g (b3 g hg).2.2, fun g hg => ?_⟩, ⟨b4, hM p b1.lt⟩⟩
  obtain ⟨x, y, z⟩ := b3 g hg
  exact ⟨⟨x, hM g z⟩, y, by have := hb.size; omega⟩
theorem Lgd.alloc (h : Lgd A r p f s rows w) (o : Obj) : Lgd (fun b => A b ∧ ¬ b = w.heap.size) r p f s rows (w.alloc o) := h.hide (below_alloc w o) fun g hg => by subst hg; simp
theorem Aft.lgd {D M : Nat → Prop} (h1 : ∀ b, D b → A b) (h2 : ∀ b, M b → A b) (h : Aft D M r p f s rows w w') : Lgd A r p f s rows w' ∧ Fr A w w' := by
  obtain ⟨D', M', a1, a2, a3, a4⟩ := h
  exact ⟨⟨D', M', fun b hb => h1 b (a1 b hb), fun b hb => (a2 b hb).elim (h2 b) (fun hd => h1 b hd), a3⟩, a4.mono fun b hb => hb.elim (h1 b) (h2 b)⟩
theorem lgd_append (h : Lgd A r p f s rows w) (b : Bs) (hb : b.length ≤ 100000000) (hl : rows.length ≤ 1000000) {x : Int} (he : wappE s f b = x) (hs : wappS s f b = s') (hr : wappR s f rows b = rows') :
    Calls Try.prog 35 #[.pointer (some ⟨p, 0, none⟩), .string (sv b)] w fun e w' => e = .returned (.int .i64 x) ∧ Lgd A r p f s' rows' w' ∧ Fr A w w' := by
  subst he hs hr
  obtain ⟨D, M, h1, h2, h3⟩ := h
  exact (wappend_any h3 b hb hl).mono fun e w' ⟨he, ha⟩ => ⟨he, ha.lgd h1 h2⟩
theorem lgd_flush (h : Lgd A r p f s rows w) {x : Int} (he : fluE s ((f : Nat) : Int) = x) (hs : fluS s ((f : Nat) : Int) = s') :
    Calls Try.prog 37 #[.pointer (some ⟨p, 0, none⟩)] w fun e w' => e = .returned (.int .i64 x) ∧ Lgd A r p f s' rows w' ∧ Fr A w w' := by
  subst he hs
  obtain ⟨D, M, h1, h2, h3⟩ := h
  exact (wflush_any h3).mono fun e w' ⟨he, ha, hf⟩ => ⟨he, ⟨D, M, h1, h2, ha⟩, hf.mono h1⟩
theorem lgd_rewrite (h : Lgd A r p f s rows w) (hf6 : f ≤ 6) {v : Value} {ts : List Bs} (ht : Texts w v ts) (hout : ∀ b, vblock v = some b → ¬ A b) (hl : ts.length ≤ 100000) (hz : (recs ts).length ≤ 100000000)
    {x : Int} (he : wrewE s f ts = x) (hs : wrewS s f ts = s') (hr : wrewR s f rows ts = rows') :
    Calls Try.prog 34 #[.pointer (some ⟨p, 0, none⟩), v] w fun e w' => e = .returned (.int .i64 x) ∧ Lgd A r p f s' rows' w' ∧ Fr A w w' := by
  subst he hs hr
  obtain ⟨D, M, h1, h2, h3⟩ := h
  exact (wrewrite_any h3 hf6 ht (fun b hb hD => hout b hb (h1 b hD)) hl hz).mono fun e w' ⟨he, ha⟩ => ⟨he, ha.lgd h1 h2⟩
theorem lgd_len (h : Lgd A r p f s rows w) (hl : rows.length ≤ 1000000000) {n : Nat} (hn : rows.length = n) : Calls Try.prog 20 #[.pointer (some ⟨p, 0, none⟩)] w fun e w' => e = .returned (.int .i64 ((n : Nat) : Int)) ∧ w = w' := by
  subst hn
  exact wlen_any h.choose_spec.choose_spec.2.2.log hl
theorem lgd_all (h : Lgd A r p f s rows w) (hl : rows.length ≤ 1000000000) (hs : ∀ t ∈ rows, t.length ≤ 1000000000) : Calls Try.prog 18 #[.pointer (some ⟨p, 0, none⟩)] w fun e w' =>
    ∃ v A', e = .returned v ∧ (∀ b, A' b → A b) ∧ Lgd A' r p f s rows w' ∧ Texts w' v rows ∧ (∀ b, vblock v = some b → ¬ A' b ∧ w.heap.size ≤ b ∧ b < w'.heap.size) ∧ Below w.heap.size w w' := by
  refine (wall_any h.choose_spec.choose_spec.2.2.log hl hs).mono ?_
  rintro e w' ⟨v, rfl, ht, ho, hb⟩
  refine ⟨v, fun b => A b ∧ ¬ v.ownBlock = some b, rfl, fun b hb => hb.1, h.hide hb (fun g hg => ho.lt g hg), ht, fun b hb' => ?_, hb⟩
  have := vblock_own hb'
  exact ⟨fun hA => hA.2 this, ho.lt b this⟩
/-- A call of the disk. -/
theorem Lgd.disk {D M : Nat → Prop} (h1 : ∀ b, D b → A b) (h2 : ∀ b, M b → A b) (h3 : LD D M r p f s rows w) (hd : Dsk D r s' w') (hf : Fr D w w') : Lgd A r p f s' rows w' ∧ Fr A w w' :=
  ⟨⟨D, M, h1, h2, h3.disk hd hf⟩, hf.mono h1⟩
theorem lgd_start (h : Lgd A r p f s rows w) (hs : startS s = s') : Calls Try.prog 38 #[.pointer (some ⟨r, 0, none⟩)] w fun e w' => e = .returned (.tuple #[]) ∧ Lgd A r p f s' rows w' ∧ Fr A w w' := by
  obtain ⟨D, M, h1, h2, h3⟩ := h
  exact (start_at h3.dsk hs).mono fun e w' ⟨he, hd, hf⟩ => ⟨he, Lgd.disk h1 h2 h3 hd hf⟩
theorem lgd_crash_nil (h : Lgd A r p f s rows w) (hs : crashS [] s = s') : Calls Try.prog 28 #[.pointer (some ⟨r, 0, none⟩), .slice none 0 0] w fun e w' => e = .returned (.tuple #[]) ∧ Lgd A r p f s' rows w' ∧ Fr A w w' := by
  obtain ⟨D, M, h1, h2, h3⟩ := h
  exact (crash_nil h3.dsk hs).mono fun e w' ⟨he, hd, hf⟩ => ⟨he, Lgd.disk h1 h2 h3 hd hf⟩
theorem lgd_crash (h : Lgd A r p f s rows w) {v : Value} {ks : List Int} (hv : Ints w v ks) (hj : ∀ z ∈ ks, J64 z) (hvb : ∀ b, vblock v = some b → ¬ A b) (hs : crashS ks s = s') :
    Calls Try.prog 28 #[.pointer (some ⟨r, 0, none⟩), v] w fun e w' => e = .returned (.tuple #[]) ∧ Lgd A r p f s' rows w' ∧ Fr A w w' := by
  obtain ⟨D, M, h1, h2, h3⟩ := h
  exact (crash_at h3.dsk hv hj (fun b hb hD => hvb b hb (h1 b hD)) hs).mono fun e w' ⟨he, hd, hf⟩ => ⟨he, Lgd.disk h1 h2 h3 hd hf⟩
theorem lgd_lose (h : Lgd A r p f s rows w) (n : Int) (hn : J64 n) (hs : loseS s n = s') : Calls Try.prog 50 #[.pointer (some ⟨r, 0, none⟩), .int .i64 n] w fun e w' => e = .returned (.tuple #[]) ∧ Lgd A r p f s' rows w' ∧ Fr A w w' := by
  obtain ⟨D, M, h1, h2, h3⟩ := h
  exact (lose_at h3.dsk n hn hs).mono fun e w' ⟨he, hd, hf⟩ => ⟨he, Lgd.disk h1 h2 h3 hd hf⟩
theorem lgd_arm (h : Lgd A r p f s rows w) {n : Int} (hn : J64 n) {v : Value} {l : List Int} (hl : l.length ≤ 17592186044416) (hj : ∀ z ∈ l, J64 z) (hv : Ints w v l) (hvb : ∀ b, vblock v = some b → ¬ A b) (hs : armS s n l = s') :
    Calls Try.prog 52 #[.pointer (some ⟨r, 0, none⟩), .int .i64 n, v] w fun e w' => e = .returned (.tuple #[]) ∧ Lgd A r p f s' rows w' ∧ Fr A w w' := by
  subst hs
  obtain ⟨D, M, h1, h2, h3⟩ := h
  exact (arm_dsk h3.dsk hn hl hj hv (fun b hb hD => hvb b hb (h1 b hD))).mono fun e w' ⟨he, hd, hf⟩ => ⟨he, Lgd.disk h1 h2 h3 hd hf⟩
theorem lgd_dsk (h : Lgd A r p f s rows w) : Dsk A r s w := by
  obtain ⟨D, M, h1, h2, h3⟩ := h
  exact h3.dsk.mono h1
/-- Open of a disk, where it is good. -/
theorem open_good (h : Dsk A r s w) (f : Nat) (he : (opn s ((f : Nat) : Int)).1 = 0) (hs : (opn s ((f : Nat) : Int)).2 = s') (hr : val (readB s ((f : Nat) : Int)) = rows) :
    Calls Try.prog 26 #[.pointer (some ⟨r, 0, none⟩), .int .i64 ((f : Nat) : Int)] w fun e w' => ∃ p, e = .returned (.tuple #[.pointer (some ⟨p, 0, none⟩), .int .i64 0]) ∧ Lgd A r p f s' rows w' ∧ Fr A w w' := by
  subst hs hr
  refine (wopen_any h (f : Nat)).mono ?_
  rintro e w' ⟨D, h1, h2, h3, h4, _⟩
  obtain ⟨p, M, a1, a2, a3⟩ := h4 he
  exact ⟨p, a1, ⟨D, M, h1, fun b hb => h.2.choose_spec.sep.new b (a3 b hb), a2⟩, h3⟩
theorem open_bad (h : Dsk A r s w) (f : Int) {x : Int} (he : (opn s f).1 = x) (hx : x ≠ 0) (hs : (opn s f).2 = s') :
    Calls Try.prog 26 #[.pointer (some ⟨r, 0, none⟩), .int .i64 f] w fun e w' => e = .returned (.tuple #[.pointer none, .int .i64 x]) ∧ Dsk A r s' w' ∧ Fr A w w' := by
  subst hs he
  refine (wopen_any h f).mono ?_
  rintro e w' ⟨D, h1, h2, h3, _, h5⟩
  exact ⟨h5 hx, h2.mono h1, h3⟩
end
end Go.Proofs.Ytdjchpejhfkknaa.Lw
