/- The methods of a disk with what they give named beforehand; a list of ints that the caller writes out. Conditions: the disk lies in memory of its own. -/
import Derived.Test.YtdjchpejhfkknaaKTurn
namespace Go.Proofs.Ytdjchpejhfkknaa.Dk
open Go.RowKit Km
set_option linter.unusedVariables false
set_option maxRecDepth 100000

section
variable {A : Nat → Prop} {r : Nat} {s s' : St} {K : Nat → Value} {w w' : World}
theorem append_at (h : Dsk A r s w) (f : Int) (b : Bs) (x : Int) (he : appE s f b = x) (hs : appS s f b = s') (hbl : b.length ≤ 1099511627776) : Calls Try.prog 13 #[.pointer (some ⟨r, 0, none⟩), .int .i64 f, .string (sv b)] w fun e w' => e = .returned (.int .i64 x) ∧ Dsk A r s' w' ∧ Fr A w w' := by
  subst he hs
  exact append_dsk h f b hbl
theorem flush_at (h : Dsk A r s w) (f : Int) (x : Int) (he : fluE s f = x) (hs : fluS s f = s') : Calls Try.prog 58 #[.pointer (some ⟨r, 0, none⟩), .int .i64 f] w fun e w' => e = .returned (.int .i64 x) ∧ Dsk A r s' w' ∧ Fr A w w' := by
  subst he hs
  exact flush_dsk h f
theorem cut_at (h : Dsk A r s w) (f n : Int) (x : Int) (he : cutE s f n = x) (hs : cutS s f n = s') : Calls Try.prog 78 #[.pointer (some ⟨r, 0, none⟩), .int .i64 f, .int .i64 n] w fun e w' => e = .returned (.int .i64 x) ∧ Dsk A r s' w' ∧ Fr A w w' := by
  subst he hs
  exact cut_dsk h f n
theorem turn_at (h : Dsk A r s w) (f g : Int) (x : Int) (he : turE s f g = x) (hs : turS s f g = s') : Calls Try.prog 85 #[.pointer (some ⟨r, 0, none⟩), .int .i64 f, .int .i64 g] w fun e w' => e = .returned (.int .i64 x) ∧ Dsk A r s' w' ∧ Fr A w w' := by
  subst he hs
  exact turn_dsk h f g
theorem read_at (h : Dsk A r s w) (f : Int) (x : Int) (b : Bs) (he : readE s f = x) (hb : readB s f = b) : Calls Try.prog 36 #[.pointer (some ⟨r, 0, none⟩), .int .i64 f] w fun e w' => e = .returned (.tuple #[.string (sv b), .int .i64 x]) ∧ Dsk A r s w' ∧ Fr A w w' := by
  subst he hb
  exact (read_dsk h f).mono fun e w' ⟨h1, h2⟩ => ⟨h1, h.below h2, (Fr.refl A w).below h2⟩
theorem start_at (h : Dsk A r s w) (hs : startS s = s') : Calls Try.prog 38 #[.pointer (some ⟨r, 0, none⟩)] w fun e w' => e = .returned (.tuple #[]) ∧ Dsk A r s' w' ∧ Fr A w w' := by
  subst hs
  exact start_dsk h
theorem down_at (h : Dsk A r s w) (b : Bool) (hb : s.down = b) : Calls Try.prog 24 #[.pointer (some ⟨r, 0, none⟩)] w fun e w' => e = .returned (.bool b) ∧ w = w' := by
  subst hb
  exact down_dsk h
theorem size_at (h : Dsk A r s w) (f : Int) (n : Nat) (hn : sizeN s f = n) : Calls Try.prog 22 #[.pointer (some ⟨r, 0, none⟩), .int .i64 f] w fun e w' => e = .returned (.int .i64 (n : Nat)) ∧ w = w' := by
  subst hn
  exact size_dsk h f
theorem lose_at (h : Dsk A r s w) (n : Int) (hn : J64 n) (hs : loseS s n = s') : Calls Try.prog 50 #[.pointer (some ⟨r, 0, none⟩), .int .i64 n] w fun e w' => e = .returned (.tuple #[]) ∧ Dsk A r s' w' ∧ Fr A w w' := by
  subst hs
  exact lose_dsk h n hn
theorem crash_at (h : Dsk A r s w) {v : Value} {ks : List Int} (hv : Ints w v ks) (hj : ∀ z ∈ ks, J64 z) (hvb : ∀ b, vblock v = some b → ¬ A b) (hs : crashS ks s = s') :
    Calls Try.prog 28 #[.pointer (some ⟨r, 0, none⟩), v] w fun e w' => e = .returned (.tuple #[]) ∧ Dsk A r s' w' ∧ Fr A w w' := by
  subst hs
  exact crash_dsk h hv hj hvb
theorem crash_nil (h : Dsk A r s w) (hs : crashS [] s = s') :
    Calls Try.prog 28 #[.pointer (some ⟨r, 0, none⟩), .slice none 0 0] w fun e w' => e = .returned (.tuple #[]) ∧ Dsk A r s' w' ∧ Fr A w w' :=
  crash_at h ⟨none, 0, rfl, fun h => by simp at h⟩ (fun z hz => by cases hz) (fun b hb => by cases hb) hs
theorem arm_nil (h : Dsk A r s w) (hs : armS s 0 [] = s') :
    Calls Try.prog 52 #[.pointer (some ⟨r, 0, none⟩), .int .i64 0, .slice none 0 0] w fun e w' => e = .returned (.tuple #[]) ∧ Dsk A r s' w' ∧ Fr A w w' := by
  subst hs
  exact arm_dsk h (by unfold J64; omega) (Nat.zero_le _) (fun z hz => by cases hz) ⟨none, 0, rfl, fun h => by simp at h⟩ (fun b hb => by cases hb)
theorem lit_ints (w : World) (ks : List Int) : Ints (w.alloc (.cells (ic ks).toArray 3)) (.slice (some ⟨w.heap.size, 0, none⟩) ks.length ks.length) ks :=
  ⟨_, _, rfl, fun _ => ⟨_, _, rfl, by simp, fun j z hz => by
    rw [(Blk.new w 3 (ic ks).toArray).cell, Nat.zero_add]
    simp [ic, hz]⟩⟩
theorem crash_lit (h : Dsk A r s w) {cs : Array Value} {n : Nat} (ks : List Int) (hcs : cs = (ic ks).toArray) (hn : n = ks.length) (hj : ∀ z ∈ ks, J64 z) (hs : crashS ks s = s') :
    Calls Try.prog 28 #[.pointer (some ⟨r, 0, none⟩), .slice (some ⟨w.heap.size, 0, none⟩) n n] (w.alloc (.cells cs 3)) fun e w' => e = .returned (.tuple #[]) ∧ Dsk A r s' w' ∧ Fr A w w' := by
  subst hs hcs hn
  have hE := crash_dsk (h.hide (below_alloc w (.cells (ic ks).toArray 3)) (Nat.le_refl _) (by simp)) (lit_ints w ks) hj (fun b hb hn => by
    simp [vblock] at hb
    exact hn.2 hb.2.symm)
  exact hE.mono fun e w' ⟨h1, h2, h3⟩ => ⟨h1, h2.mono fun b hb => hb.1, ((Fr.refl A w).alloc _).trans (h3.mono fun b hb => hb.1)⟩
theorem arm_lit (h : Dsk A r s w) {cs : Array Value} {m : Nat} {n : Int} (hn : J64 n) (ks : List Int) (hcs : cs = (ic ks).toArray) (hm : m = ks.length) (hl : ks.length ≤ 17592186044416) (hj : ∀ z ∈ ks, J64 z) (hs : armS s n ks = s') :
    Calls Try.prog 52 #[.pointer (some ⟨r, 0, none⟩), .int .i64 n, .slice (some ⟨w.heap.size, 0, none⟩) m m] (w.alloc (.cells cs 3)) fun e w' => e = .returned (.tuple #[]) ∧ Dsk A r s' w' ∧ Fr A w w' := by
  subst hs hcs hm
  have hE := arm_dsk (h.hide (below_alloc w (.cells (ic ks).toArray 3)) (Nat.le_refl _) (by simp)) hn hl hj (lit_ints w ks) (fun b hb hn => by
    simp [vblock] at hb
    exact hn.2 hb.2.symm)
  exact hE.mono fun e w' ⟨h1, h2, h3⟩ => ⟨h1, h2.mono fun b hb => hb.1, ((Fr.refl A w).alloc _).trans (h3.mono fun b hb => hb.1)⟩
end
end Go.Proofs.Ytdjchpejhfkknaa.Dk
