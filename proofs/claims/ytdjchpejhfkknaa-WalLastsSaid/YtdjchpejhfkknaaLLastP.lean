/- WalLasts: what holds in memory between two acts. Conditions: those of each lemma. -/
import Derived.Test.YtdjchpejhfkknaaLAft
namespace Go.Proofs.Ytdjchpejhfkknaa.walLasts
open Go.RowKit Km Dk Lw
open Lm hiding Bs
set_option linter.unusedVariables false
set_option maxRecDepth 100000

theorem new_iv : Iv (opn Km.new ((2 : Nat) : Int)).2 [] 0 ∧ (opn Km.new ((2 : Nat) : Int)).1 = 0 ∧ val (readB Km.new ((2 : Nat) : Int)) = [] := by
  obtain ⟨q1, q2, q3, _, q5, q6⟩ := opn_cal new_cal (f := 2) (by decide)
  have hv : val (Km.new.F 2) = [] := val_nil
  rw [hv] at q3
  exact ⟨⟨q2.idl.1, q2.wf, ⟨q3.1, q3.2.1, Nat.zero_le _, by rw [q3.2.2]; simp, fun b hb => by simp at hb⟩⟩, q1, by rw [q6, hv]⟩
theorem axs_below {w w' : World} {v : Value} {l : List (Ax × Value × Value)} (h : Axs w v l) (hb : Below w.heap.size w w') : Axs w' v l := by
  obtain ⟨a, c, rfl, h1, h2, h3⟩ := h
  refine ⟨a, c, rfl, h1, fun p hp => ?_, fun h0 => ?_⟩
  · obtain ⟨x1, x2, x3, x4, x5, x6, x7, x8⟩ := h2 p hp
    exact ⟨x1, x2, x3, Texts.below x4 hb, x5, x6, x7.below hb, fun b e => Nat.lt_of_lt_of_le (x8 b e) hb.size⟩
  · obtain ⟨b, o, e, hl, hc⟩ := h3 h0
    exact ⟨b, o, e, Nat.lt_of_lt_of_le hl hb.size, fun j p hp i hi => (hb.cell (p := ⟨b, o + j * 5 + i, none⟩) hl).trans (hc j p hp i hi)⟩
theorem ax_cells {w W : World} {v : Value} {l : List (Ax × Value × Value)} {a : Option Addr} {n c : Nat} (h : Axs w v l) (hf : Fr (fun b => w.heap.size ≤ b) w W) (hv : v = .slice a n c) {j : Nat} {p : Ax × Value × Value} (hp : l[j]? = some p) :
    ∃ b o, a = some ⟨b, o, none⟩ ∧ W.cell? ⟨b, o + j * 5, none⟩ = some (.int .i64 p.1.d) ∧ W.cell? ⟨b, o + j * 5 + 1, none⟩ = some (.string (sv p.1.s)) ∧ W.cell? ⟨b, o + j * 5 + 2, none⟩ = some p.2.1 ∧
      W.cell? ⟨b, o + j * 5 + 3, none⟩ = some (.int .i64 p.1.n) ∧ W.cell? ⟨b, o + j * 5 + 4, none⟩ = some p.2.2 ∧ J64 p.1.n ∧ (∀ z ∈ p.1.k, J64 z) ∧
      Texts W p.2.1 p.1.l ∧ (∀ x, vblock p.2.1 = some x → x < w.heap.size) ∧ Ints W p.2.2 p.1.k ∧ (∀ x, vblock p.2.2 = some x → x < w.heap.size) := by
  obtain ⟨a', c', e, _, hr, hc⟩ := h
  have hj := (List.getElem?_eq_some_iff.1 hp).1
  obtain ⟨b, o, e2, h1, h2⟩ := hc (by omega)
  rw [hv] at e
  injection e with e3 e4 e5
  have key : ∀ i, i < 5 → W.cell? ⟨b, o + j * 5 + i, none⟩ = (axC p.1 p.2.1 p.2.2)[i]? := fun i hi => (World.cell?_of_block (w := w) (a := ⟨b, o + j * 5 + i, none⟩) (hf.block b h1 (by show ¬ w.heap.size ≤ b; omega))).trans (h2 j p hp i hi)
  obtain ⟨x1, x2, x3, x4, x5, x6, x7, x8⟩ := hr p (List.mem_of_getElem? hp)
  have hx4 : ∀ x, vblock p.2.1 = some x → x < w.heap.size := fun x e => Texts.lt x4 e
  exact ⟨b, o, by rw [e3, e2], key 0 (by decide), key 1 (by decide), key 2 (by decide), key 3 (by decide), key 4 (by decide), x2, x6, Texts.frs x4 hf (fun x e => by have := hx4 x e; omega), hx4, x7.fr hf (fun x e => by have := x8 x e; omega), x8⟩
/-- A list of texts does not lie where a hope lies. -/
theorem texts_ne {W : World} {v va vx vf : Value} {b : Bool} {l : List Bs} {g : Nat} (h : Texts W v l) (hb : Blk W g Hope7 #[va, vx, vf, .bool b]) (hs : IsSl va ∧ IsSl vx ∧ IsSl vf) : ∀ x, vblock v = some x → x ≠ g := by
  intro x e hx
  subst hx
  obtain ⟨a, c, rfl, h1, h2, hc⟩ := h
  have h0 : 0 < l.length := by
    rcases Nat.eq_zero_or_pos l.length with z | z
    · rw [z] at e; cases a <;> simp [vblock] at e
    · exact z
  obtain ⟨b', o, rfl, h3, h4⟩ := hc h0
  rw [vblock_some h0] at e
  injection e with e
  subst e
  have hcell := h4 0 _ (List.getElem?_eq_getElem h0)
  obtain ⟨⟨a1, n1, c1, rfl⟩, ⟨a2, n2, c2, rfl⟩, ⟨a3, n3, c3, rfl⟩⟩ := hs
  have hk := hb.cell (o + 0)
  rw [hcell] at hk
  match o + 0, hk with
  | 0, hk => cases hk
  | 1, hk => cases hk
  | 2, hk => cases hk
  | 3, hk => cases hk
  | n + 4, hk => simp at hk
/-- Between two acts: the disk is up. -/
def Up (w : World) (r p g i : Nat) (vs : Value) (W : World) : Prop := ∃ s rows k B va vx vf b, Iv s rows k ∧ rows.length ≤ 12 + i ∧ (∀ t ∈ rows, t.length ≤ 2000) ∧ Lgd B r p 2 s rows W ∧ (∀ b, B b → w.heap.size ≤ b ∧ b ≠ g) ∧ Texts W vs (rows.take k) ∧ (∀ b, vblock vs = some b → ¬ B b) ∧
  Fr (fun b => w.heap.size ≤ b) w W ∧ Blk W g Hope7 #[va, vx, vf, .bool b] ∧ IsSl va ∧ IsSl vx ∧ IsSl vf
/-- The disk is down, and the hope says what must be found. -/
def Dn (w : World) (r g : Nat) (W : World) : Prop := ∃ s B all safe va vx vf b, Fin_ s all safe ∧ all.length ≤ 1000 ∧ (∀ t ∈ all, t.length ≤ 1000000000) ∧ Dsk B r s W ∧ (∀ b, B b → w.heap.size ≤ b ∧ b ≠ g) ∧ Texts W va all ∧ (∀ b, vblock va = some b → ¬ B b) ∧ Texts W vx safe ∧ (∀ b, vblock vx = some b → ¬ B b) ∧
  (b = true → ∃ fresh, Texts W vf fresh ∧ fresh.length ≤ 1000000 ∧ ∀ b, vblock vf = some b → ¬ B b) ∧ Fr (fun b => w.heap.size ≤ b) w W ∧ Blk W g Hope7 #[va, vx, vf, .bool b] ∧ IsSl va ∧ IsSl vx ∧ IsSl vf
theorem Up.mono {w W : World} {r p g i j : Nat} {vs : Value} (h : Up w r p g i vs W) (hij : i ≤ j) : Up w r p g j vs W := by
  obtain ⟨s, rows, k, B, va, vx, vf, b, h1, h2, h3⟩ := h
  exact ⟨s, rows, k, B, va, vx, vf, b, h1, by omega, h3⟩
abbrev put4 (W : World) (g : Nat) (va vx vf : Value) (b : Bool) : World := (((W.setCell ⟨g, 0, none⟩ va).setCell ⟨g, 1, none⟩ vx).setCell ⟨g, 2, none⟩ vf).setCell ⟨g, 3, none⟩ (.bool b)
/-- An act: the hope is stored. -/
theorem after_step {w W W' : World} {r p g i : Nat} {A : Nat → Prop} {va0 vx0 vf0 : Value} {b0 : Bool} {e : Ending} (hA : ∀ b, A b → w.heap.size ≤ b ∧ b ≠ g) (hg : w.heap.size ≤ g) (hF : Fr (fun b => w.heap.size ≤ b) w W) (hB : Blk W g Hope7 #[va0, vx0, vf0, .bool b0])
    (hsl : IsSl va0 ∧ IsSl vx0 ∧ IsSl vf0) (h : AfR A r p (12 + (i + 1)) W e W') :
    ∃ vs va vx vf b, e = .returned (.tuple #[vs, .agg #[va, vx, vf, .bool b]]) ∧ (IsSl vs ∧ IsSl va ∧ IsSl vx ∧ IsSl vf) ∧ Blk W' g Hope7 #[va0, vx0, vf0, .bool b0] ∧ (Up w r p g (i + 1) vs (put4 W' g va vx vf b) ∨ Dn w r g (put4 W' g va vx vf b)) := by
  obtain ⟨s', rows', B, vs, va, vx, vf, b, rfl, hs, hsub, hd, hf, hh⟩ := h
  have hnA : ¬ A g := fun x => (hA g x).2 rfl
  have hnB : ¬ B g := fun x => hnA (hsub g x)
  have hB' := hf.blk hB hnA
  have hF4 : Fr (fun b => w.heap.size ≤ b) w (put4 W' g va vx vf b) := ((((hF.trans (hf.mono fun b hb => (hA b hb).1)).setCell (p := ⟨g, 0, none⟩) hg va).setCell (p := ⟨g, 1, none⟩) hg vx).setCell (p := ⟨g, 2, none⟩) hg vf).setCell (p := ⟨g, 3, none⟩) hg (.bool b)
  have hB4 : Blk (put4 W' g va vx vf b) g Hope7 #[va, vx, vf, .bool b] := (((hB'.set_ 0 va).set_ 1 vx).set_ 2 vf).set_ 3 (.bool b)
  have hT : ∀ (u : Value) (l : List Bs), Texts W' u l → Texts (put4 W' g va vx vf b) u l := fun u l ht => by
    have hne := texts_ne ht hB' hsl
    exact Texts.put (Texts.put (Texts.put (Texts.put ht (a := ⟨g, 0, none⟩) hne va) (a := ⟨g, 1, none⟩) hne vx) (a := ⟨g, 2, none⟩) hne vf) (a := ⟨g, 3, none⟩) hne (.bool b)
  refine ⟨vs, va, vx, vf, b, rfl, hs, hB', ?_⟩
  rcases hh with ⟨k, hl, hi, hlen, hr, ht, hv⟩ | ⟨all, safe, hfin, hlen, hr, ta, na, tx, nx, tf⟩
  · exact .inl ⟨s', rows', k, B, va, vx, vf, b, hi, by omega, hr, (((hl.put (a := ⟨g, 0, none⟩) hnB va).put (a := ⟨g, 1, none⟩) hnB vx).put (a := ⟨g, 2, none⟩) hnB vf).put (a := ⟨g, 3, none⟩) hnB (.bool b), fun x hx => hA x (hsub x hx), hT _ _ ht, hv, hF4, hB4, hs.2⟩
  · exact .inr ⟨s', B, all, safe, va, vx, vf, b, hfin, hlen, hr, Dsk.put (Dsk.put (Dsk.put (Dsk.put hd (a := ⟨g, 0, none⟩) hnB va) (a := ⟨g, 1, none⟩) hnB vx) (a := ⟨g, 2, none⟩) hnB vf) (a := ⟨g, 3, none⟩) hnB (.bool b), fun x hx => hA x (hsub x hx), hT _ _ ta, na, hT _ _ tx, nx,
      fun hb => by obtain ⟨fresh, t1, t2, t3⟩ := tf hb; exact ⟨fresh, hT _ _ t1, t2, t3⟩, hF4, hB4, hs.2⟩
/-- The disk is up at the end: All, and the hope is made anew. -/
theorem up_end {w W w5 : World} {r p g k : Nat} {s : St} {rows : List Bs} {ks : List Int} {B B5 : Nat → Prop} {vs vn kv va0 vx0 vf0 : Value} {b0 : Bool} (u5 : ∀ b, B b → w.heap.size ≤ b ∧ b ≠ g) (u6 : Texts W vs (rows.take k)) (u8 : Fr (fun b => w.heap.size ≤ b) w W) (hg : w.heap.size ≤ g)
    (u9 : Blk W g Hope7 #[va0, vx0, vf0, .bool b0]) (u10 : IsSl va0 ∧ IsSl vx0 ∧ IsSl vf0) (h1 : ∀ b, B5 b → B b) (h2 : Lgd B5 r p 2 s rows w5) (h3 : Texts w5 vn rows) (hb : Below W.heap.size W w5) (hk : Ints w kv ks) (hL : Lies w kv) :
    Lgd B5 r p 2 s rows (put4 w5 g vn vs (.slice none 0 0) false) ∧ Ints (put4 w5 g vn vs (.slice none 0 0) false) kv ks ∧ (∀ b, vblock kv = some b → ¬ B5 b) ∧ Texts (put4 w5 g vn vs (.slice none 0 0) false) vn rows ∧ Texts (put4 w5 g vn vs (.slice none 0 0) false) vs (rows.take k) ∧
      Blk (put4 w5 g vn vs (.slice none 0 0) false) g Hope7 #[vn, vs, .slice none 0 0, .bool false] ∧ Fr (fun b => w.heap.size ≤ b) w (put4 w5 g vn vs (.slice none 0 0) false) ∧ ¬ B5 g := by
  have hn : ¬ B5 g := fun x => (u5 g (h1 g x)).2 rfl
  have hB5 := u9.below hb u9.lt
  have hF : Fr (fun b => w.heap.size ≤ b) w (put4 w5 g vn vs (.slice none 0 0) false) := ((((u8.below hb).setCell (p := ⟨g, 0, none⟩) hg vn).setCell (p := ⟨g, 1, none⟩) hg vs).setCell (p := ⟨g, 2, none⟩) hg (.slice none 0 0)).setCell (p := ⟨g, 3, none⟩) hg (.bool false)
  have hT : ∀ (u : Value) (l : List Bs), Texts w5 u l → Texts (put4 w5 g vn vs (.slice none 0 0) false) u l := fun u l ht => by
    have hne := texts_ne ht hB5 u10
    exact Texts.put (Texts.put (Texts.put (Texts.put ht (a := ⟨g, 0, none⟩) hne vn) (a := ⟨g, 1, none⟩) hne vs) (a := ⟨g, 2, none⟩) hne (.slice none 0 0)) (a := ⟨g, 3, none⟩) hne (.bool false)
  exact ⟨(((h2.put (a := ⟨g, 0, none⟩) hn vn).put (a := ⟨g, 1, none⟩) hn vs).put (a := ⟨g, 2, none⟩) hn (.slice none 0 0)).put (a := ⟨g, 3, none⟩) hn (.bool false), hk.fr hF (fun b e => by have := hL b e; omega), fun b e x => by have := hL b e; have := (u5 b (h1 b x)).1; omega, hT _ _ h3, hT _ _ (Texts.below u6 hb),
    (((hB5.set_ 0 vn).set_ 1 vs).set_ 2 (.slice none 0 0)).set_ 3 (.bool false), hF, hn⟩
end Go.Proofs.Ytdjchpejhfkknaa.walLasts
