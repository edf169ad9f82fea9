/- Two logs on one disk, of the files 0 and 2: what an act of either leaves of the other. Conditions: no block is of two of the three. -/
import Derived.Test.YtdjchpejhfkknaaLAt
namespace Go.Proofs.Ytdjchpejhfkknaa.Lw
open Go.RowKit Km Dk
open Lm hiding Bs
set_option linter.unusedVariables false

/-- A disk, a log of file 0 and a log of file 2, all of whose blocks are in A. -/
def Two (A : Nat → Prop) (r p q : Nat) (s : St) (l m : List Bs) (w : World) : Prop :=
  ∃ D M N, (∀ b, D b → A b) ∧ (∀ b, M b → A b) ∧ (∀ b, N b → A b) ∧ LD D M r p 0 s l w ∧ LD D N r q 2 s m w ∧ (∀ b, N b → ¬ M b)
section
variable {A : Nat → Prop} {r p q : Nat} {s s' : St} {l l' m m' : List Bs} {w w' : World}
theorem Two.fst (h : Two A r p q s l m w) : Lgd A r p 0 s l w := by
  obtain ⟨D, M, N, h1, h2, h3, h4, h5, h6⟩ := h
  exact ⟨D, M, h1, h2, h4⟩
theorem Two.snd (h : Two A r p q s l m w) : Lgd A r q 2 s m w := by
  obtain ⟨D, M, N, h1, h2, h3, h4, h5, h6⟩ := h
  exact ⟨D, N, h1, h3, h5⟩
theorem Two.below (h : Two A r p q s l m w) (hb : Below w.heap.size w w') : Two A r p q s l m w' := by
  obtain ⟨D, M, N, h1, h2, h3, h4, h5, h6⟩ := h
  exact ⟨D, M, N, h1, h2, h3, h4.below hb, h5.below hb, h6⟩
theorem two_append (h : Two A r p q s l m w) (b : Bs) (hb : b.length ≤ 100000000) (hl : l.length ≤ 1000000) {x : Int} (he : wappE s 0 b = x) (hs : wappS s 0 b = s') (hr : wappR s 0 l b = l') :
    Calls Try.prog 35 #[.pointer (some ⟨p, 0, none⟩), .string (sv b)] w fun e w' => e = .returned (.int .i64 x) ∧ Two A r p q s' l' m w' ∧ Fr A w w' := by
  subst he hs hr
  obtain ⟨D, M, N, h1, h2, h3, h4, h5, h6⟩ := h
  refine (wappend_any h4 b hb hl).mono ?_
  rintro e w' ⟨he, D', M', a1, a2, a3, a4⟩
  refine ⟨he, ⟨D', M', N, fun b hb => h1 b (a1 b hb), fun b hb => (a2 b hb).elim (h2 b) (fun hd => h1 b hd), h3, a3, ⟨a3.dsk, h5.log.fr a4 fun b hn hd => hd.elim (h5.sep b hn) (h6 b hn), fun b hn hd => h5.sep b hn (a1 b hd)⟩, fun b hn hm => (a2 b hm).elim (h6 b hn) (h5.sep b hn)⟩, a4.mono fun b hb => hb.elim (h1 b) (h2 b)⟩
theorem two_rewrite (h : Two A r p q s l m w) {v : Value} {ts : List Bs} (ht : Texts w v ts) (hout : ∀ b, vblock v = some b → ¬ A b) (hl : ts.length ≤ 100000) (hz : (recs ts).length ≤ 100000000)
    {x : Int} (he : wrewE s 2 ts = x) (hs : wrewS s 2 ts = s') (hr : wrewR s 2 m ts = m') :
    Calls Try.prog 34 #[.pointer (some ⟨q, 0, none⟩), v] w fun e w' => e = .returned (.int .i64 x) ∧ Two A r p q s' l m' w' ∧ Fr A w w' := by
  subst he hs hr
  obtain ⟨D, M, N, h1, h2, h3, h4, h5, h6⟩ := h
  refine (wrewrite_any h5 (by decide) ht (fun b hb hD => hout b hb (h1 b hD)) hl hz).mono ?_
  rintro e w' ⟨he, D', N', a1, a2, a3, a4⟩
  refine ⟨he, ⟨D', M, N', fun b hb => h1 b (a1 b hb), h2, fun b hb => (a2 b hb).elim (h3 b) (fun hd => h1 b hd), ⟨a3.dsk, h4.log.fr a4 fun b hm hd => hd.elim (h4.sep b hm) (fun hn => h6 b hn hm), fun b hm hd => h4.sep b hm (a1 b hd)⟩, a3, fun b hn hm => (a2 b hn).elim (fun h => h6 b h hm) (h4.sep b hm)⟩, a4.mono fun b hb => hb.elim (h1 b) (h3 b)⟩
/-- Open of file 2 beside a log of file 0. -/
theorem two_open (h : Lgd A r p 0 s l w) (he : (opn s ((2 : Nat) : Int)).1 = 0) (hs : (opn s ((2 : Nat) : Int)).2 = s') (hr : val (readB s ((2 : Nat) : Int)) = m) :
    Calls Try.prog 26 #[.pointer (some ⟨r, 0, none⟩), .int .i64 2] w fun e w' => ∃ q, e = .returned (.tuple #[.pointer (some ⟨q, 0, none⟩), .int .i64 0]) ∧ Two A r p q s' l m w' ∧ Fr A w w' := by
  obtain ⟨D, M, h1, h2, h3⟩ := h
  refine (open_good h3.dsk 2 he hs hr).mono ?_
  rintro e w' ⟨q, he, ⟨D', N, a1, a2, a3⟩, hf⟩
  exact ⟨q, he, ⟨D', M, N, fun b hb => h1 b (a1 b hb), h2, fun b hb => h1 b (a2 b hb), ⟨a3.dsk, h3.log.fr hf h3.sep, fun b hm hd => h3.sep b hm (a1 b hd)⟩, a3, fun b hn hm => h3.sep b hm (a2 b hn)⟩, hf.mono h1⟩
end
end Go.Proofs.Ytdjchpejhfkknaa.Lw
