/- bourneref03.g: the reference's mixing of four words, in place. Conditions: the slice has 16 words; the four places are different. -/
import Derived.Test.YtfmjankmfddefaaDoorGTwoB
import Derived.Test.YtfmjankmfddefaaDoorGBlake
namespace Go.Proofs.YtfmjankmfddefaaDoor.Dg
open Go.RowKit Gm
set_option linter.unusedVariables false

/-- The block g begins with these words, which may be written. -/
def Wf (W : World) (g : Nat) (l : List Int) : Prop := (∀ j, j < l.length → W.cell? ⟨g, j, none⟩ = some (.int .u32 (l.getD j 0))) ∧ (∀ j, j < l.length → W.frozen? ⟨g, j, none⟩ = false) ∧ g < W.heap.size
theorem getD_set (l : List Int) (i j : Nat) (v : Int) (h : i < l.length) : (l.set i v).getD j 0 = if i = j then v else l.getD j 0 := by
  rw [List.getD_eq_getElem?_getD, List.getElem?_set]
  by_cases e : i = j
  · subst e; simp [h]
  · rw [if_neg e, if_neg e, List.getD_eq_getElem?_getD]
theorem Wf.set {W : World} {g : Nat} {l : List Int} (h : Wf W g l) (k : Nat) (hk : k < l.length) (x : Int) : Wf (W.setCell ⟨g, k, none⟩ (.int .u32 x)) g (l.set k x) := by
  obtain ⟨h1, h2, h3⟩ := h
  refine ⟨fun j hj => ?_, fun j hj => ?_, by simpa [World.setCell] using h3⟩
  · rw [List.length_set] at hj
    rw [getD_set l k j x hk]
    by_cases e : k = j
    · subst e
      rw [World.cell?_setCell_same _ _ _ (h1 k hk), if_pos rfl]
    · rw [World.cell?_setCell_other _ _ _ _ (by intro e'; injection e' with _ e''; exact e e''), h1 j hj, if_neg e]
  · rw [List.length_set] at hj
    rw [World.frozen?_setCell]; exact h2 j hj
theorem Wf.below {W W' : World} {g B : Nat} {l : List Int} (h : Wf W g l) (hb : Below B W W') (hg : g < B) : Wf W' g l :=
  ⟨fun j hj => (hb.cell (p := ⟨g, j, none⟩) hg).trans (h.1 j hj), fun j hj => (hb.frozen (p := ⟨g, j, none⟩) hg).trans (h.2.1 j hj), Nat.lt_of_lt_of_le h.2.2 hb.size⟩
theorem Wf.only {W W' : World} {g : Nat} {l : List Int} {row : Option Nat} (h : Wf W g l) (hb : W.grownBy W' row) (hg : some g ≠ row) : Wf W' g l :=
  ⟨fun j hj => (hb.cell_far ⟨g, j, none⟩ h.2.2 hg).trans (h.1 j hj), fun j hj => (hb.frozen_far ⟨g, j, none⟩ h.2.2 hg).trans (h.2.1 j hj), Nat.lt_of_lt_of_le h.2.2 hb.size⟩
/-- The reference's mixing, statement by statement. -/
def rg (l : List Int) (a b c d : Nat) (x y : Int) : List Int :=
  let l := l.set a (ad (ad (l.getD a 0) (l.getD b 0)) x)
  let l := l.set d (rr 65536 65536 (xr (l.getD d 0) (l.getD a 0)))
  let l := l.set c (ad (l.getD c 0) (l.getD d 0))
  let l := l.set b (rr 1048576 4096 (xr (l.getD b 0) (l.getD c 0)))
  let l := l.set a (ad (ad (l.getD a 0) (l.getD b 0)) y)
  let l := l.set d (rr 16777216 256 (xr (l.getD d 0) (l.getD a 0)))
  let l := l.set c (ad (l.getD c 0) (l.getD d 0))
  l.set b (rr 33554432 128 (xr (l.getD b 0) (l.getD c 0)))
theorem ad_wrap (a b : Int) : ad a b = IntKind.u32.wrap (a + b) := (IntKind.wrap_u32 _).symm
theorem ad_assoc (a b x : Int) : ad (ad a b) x = ad a (ad b x) := by unfold ad; omega
theorem rg_eq (l : List Int) (a b c d : Nat) (x y : Int) (hl : l.length = 16) (ha : a < 16) (hb : b < 16) (hc : c < 16) (hd : d < 16) (h1 : a ≠ b) (h2 : a ≠ c) (h3 : a ≠ d) (h4 : b ≠ c) (h5 : b ≠ d) (h6 : c ≠ d) : rg l a b c d x y = gg l a b c d x y := by
  unfold rg gg qq q1 q2
  have e1 := h1.symm
  have e2 := h2.symm
  have e3 := h3.symm
  have e4 := h4.symm
  have e5 := h5.symm
  have e6 := h6.symm
  simp only [getD_set, List.length_set, hl, ha, hb, hc, hd, h1, h2, h3, h4, h5, h6, e1, e2, e3, e4, e5, e6, if_true, if_false]
  apply List.ext_getElem?
  intro i
  simp only [List.getElem?_set, List.length_set, hl, ha, hb, hc, hd, if_true]
  by_cases i1 : a = i
  · subst i1; simp [e1, e2, e3, ad_assoc]
  · by_cases i2 : b = i
    · subst i2; simp [e4, e5, ad_assoc]
    · by_cases i3 : c = i
      · subst i3; simp [i2, e6, ad_assoc]
      · by_cases i4 : d = i
        · subst i4; simp [i2, i3, ad_assoc]
        · simp [i1, i2, i3, i4]
set_option maxHeartbeats 8000000 in
set_option maxRecDepth 100000 in
theorem refg_any (G cap : Nat) (l : List Int) (hl : l.length = 16) (a b c d : Nat) (ha : a < 16) (hb : b < 16) (hc : c < 16) (hd : d < 16) (x y : Int) (w : World) (hW : Wf w G l) :
    Calls Tryd.prog 78 #[.slice (some ⟨G, 0, none⟩) 16 cap, .int .i64 a, .int .i64 b, .int .i64 c, .int .i64 d, .int .u32 x, .int .u32 y] w fun e w' => e = .returned (.tuple #[]) ∧ Wf w' G (rg l a b c d x y) ∧ w.grownBy w' (some G) := by
  have HR := Lib.hid right_
  have ia : (a : Int) < 16 := by omega
  have ib : (b : Int) < 16 := by omega
  have ic : (c : Int) < 16 := by omega
  have id : (d : Int) < 16 := by omega
  have HI := Lib.hid (And.intro ha (And.intro hb (And.intro hc hd)))
  clear ha hb hc hd
  go_enter Tryd.func78, Tryd.ntmps78
  refine hide_world (X := fun W => Hid (Wf W G l ∧ w.grownBy W (some G))) (Lib.hid ⟨hW, only_refl w _⟩) ?_
  intro W HS
  clear hW
  have HL0 := Lib.hid hl
  clear hl
  go_wp2_with fail
  obtain ⟨u0, hu0⟩ : ∃ v, l.getD a 0 = v := ⟨_, rfl⟩
  obtain ⟨v0, hv0⟩ : ∃ v, l.getD b 0 = v := ⟨_, rfl⟩
  have hS : W.drew.cell? ⟨G, a, none⟩ = some (.int .u32 u0) ∧ W.drew.cell? ⟨G, b, none⟩ = some (.int .u32 v0) := by
    obtain ⟨h1, -⟩ := HS.out
    exact ⟨(h1.1 a (by rw [HL0.out]; exact HI.out.1)).trans (by rw [hu0]), (h1.1 b (by rw [HL0.out]; exact HI.out.2.1)).trans (by rw [hv0])⟩
  obtain ⟨s0, hs0⟩ : ∃ v, IntKind.u32.wrap (u0 + v0) = v := ⟨_, rfl⟩
  obtain ⟨z0, hz0⟩ : ∃ v, IntKind.u32.wrap (s0 + x) = v := ⟨_, rfl⟩
  have HZ0 : Hid (ad (ad u0 v0) x = z0) := Lib.hid (by rw [ad_wrap, ad_wrap, hs0, hz0])
  refine wp_region_T 14 (fun W => W.cell? ⟨G, a, none⟩ = some (.int .u32 u0) ∧ W.cell? ⟨G, b, none⟩ = some (.int .u32 v0)) (by kernel_rfl) ?_
  refine wpAnyT_take (i := 0) (v := ?_) rfl (by kernel_rfl) (fun _ _ _ h => h) (Or.inl ⟨by rfl, ?_⟩) hS ?_
  rotate_left
  · intro w2 hw2
    try dsimp only at hw2
    go_simp
    first | done | with_reducible rfl
  try simp only [Act.put, List.getElem_toArray, List.getElem_cons_zero, List.setIfInBounds_toArray, List.set_cons_zero, List.set_cons_succ]
  refine wpAnyT_take (i := 1) (v := ?_) rfl (by kernel_rfl) (fun _ _ _ h => h) (Or.inl ⟨by rfl, ?_⟩) hS ?_
  rotate_left
  · intro w2 hw2
    try dsimp only at hw2
    go_simp
    first | done | with_reducible rfl
  try simp only [Act.put, List.getElem_toArray, List.getElem_cons_succ, List.getElem_cons_zero, List.setIfInBounds_toArray, List.set_cons_zero, List.set_cons_succ]
  refine wpAnyT_take (i := 2) (v := ?_) rfl (by kernel_rfl) (fun _ _ _ h => h) (Or.inl ⟨by rfl, ?_⟩) hS ?_
  rotate_left
  · intro w2 hw2
    try dsimp only at hw2
    go_simp
    first | done | with_reducible rfl
  try simp only [Act.put, List.getElem_toArray, List.getElem_cons_succ, List.getElem_cons_zero, List.setIfInBounds_toArray, List.set_cons_zero, List.set_cons_succ]
  refine wpAnyT_take (i := 3) (v := ?_) rfl (by kernel_rfl) (fun _ _ _ h => h) (Or.inl ⟨by rfl, ?_⟩) hS ?_
  rotate_left
  · intro w2 hw2
    try dsimp only at hw2
    go_simp
    first | done | with_reducible rfl
  try simp only [Act.put, List.getElem_toArray, List.getElem_cons_succ, List.getElem_cons_zero, List.setIfInBounds_toArray, List.set_cons_zero, List.set_cons_succ]
  refine wpAnyT_take (i := 4) (v := ?_) rfl (by kernel_rfl) (fun _ _ _ h => h) (Or.inl ⟨by rfl, ?_⟩) hS ?_
  rotate_left
  · intro w2 hw2
    try dsimp only at hw2
    go_simp
    first | done | with_reducible rfl
  try simp only [Act.put, List.getElem_toArray, List.getElem_cons_succ, List.getElem_cons_zero, List.setIfInBounds_toArray, List.set_cons_zero, List.set_cons_succ]
  refine wpAnyT_take (i := 5) (v := ?_) rfl (by kernel_rfl) (fun _ _ _ h => h) (Or.inl ⟨by rfl, ?_⟩) hS ?_
  rotate_left
  · intro w2 hw2
    try dsimp only at hw2
    go_simp
    first | done | with_reducible rfl
  try simp only [Act.put, List.getElem_toArray, List.getElem_cons_succ, List.getElem_cons_zero, List.setIfInBounds_toArray, List.set_cons_zero, List.set_cons_succ]
  refine wpAnyT_take (i := 6) (v := ?_) rfl (by kernel_rfl) (fun _ _ _ h => h) (Or.inl ⟨by rfl, ?_⟩) hS ?_
  rotate_left
  · intro w2 hw2
    try dsimp only at hw2
    go_simp
    first | done | with_reducible rfl
  try simp only [Act.put, List.getElem_toArray, List.getElem_cons_succ, List.getElem_cons_zero, List.setIfInBounds_toArray, List.set_cons_zero, List.set_cons_succ]
  refine wpAnyT_take (i := 7) (v := ?_) rfl (by kernel_rfl) (fun _ _ _ h => h) (Or.inl ⟨by rfl, ?_⟩) hS ?_
  rotate_left
  · intro w2 hw2
    try dsimp only at hw2
    go_simp
    first | done | with_reducible rfl
  try simp only [Act.put, List.getElem_toArray, List.getElem_cons_succ, List.getElem_cons_zero, List.setIfInBounds_toArray, List.set_cons_zero, List.set_cons_succ]
  refine wpAnyT_take (i := 8) (v := ?_) rfl (by kernel_rfl) (fun _ _ _ h => h) (Or.inl ⟨by rfl, ?_⟩) hS ?_
  rotate_left
  · intro w2 hw2
    try dsimp only at hw2
    go_simp
    first | done | with_reducible rfl
  try simp only [Act.put, List.getElem_toArray, List.getElem_cons_succ, List.getElem_cons_zero, List.setIfInBounds_toArray, List.set_cons_zero, List.set_cons_succ]
  refine wpAnyT_take (i := 9) (v := ?_) rfl (by kernel_rfl) (fun _ _ _ h => h) (Or.inl ⟨by rfl, ?_⟩) hS ?_
  rotate_left
  · intro w2 hw2
    try dsimp only at hw2
    go_simp
    first | done | with_reducible rfl
  try simp only [Act.put, List.getElem_toArray, List.getElem_cons_succ, List.getElem_cons_zero, List.setIfInBounds_toArray, List.set_cons_zero, List.set_cons_succ]
  refine wpAnyT_take (i := 10) (v := ?_) rfl (by kernel_rfl) (fun _ _ _ h => h) (Or.inl ⟨by rfl, ?_⟩) hS ?_
  rotate_left
  · intro w2 hw2
    try dsimp only at hw2
    go_simp
    first | done | with_reducible rfl
  try simp only [Act.put, List.getElem_toArray, List.getElem_cons_succ, List.getElem_cons_zero, List.setIfInBounds_toArray, List.set_cons_zero, List.set_cons_succ]
  refine wpAnyT_take (i := 11) (v := ?_) rfl (by kernel_rfl) (fun _ _ _ h => h) (Or.inl ⟨by rfl, ?_⟩) hS ?_
  rotate_left
  · intro w2 hw2
    try dsimp only at hw2
    go_simp
    first | done | with_reducible rfl
  try simp only [Act.put, List.getElem_toArray, List.getElem_cons_succ, List.getElem_cons_zero, List.setIfInBounds_toArray, List.set_cons_zero, List.set_cons_succ]
  refine wpAnyT_take (i := 12) (v := ?_) rfl (by kernel_rfl) (fun _ _ _ h => h) (Or.inl ⟨by rfl, ?_⟩) hS ?_
  rotate_left
  · intro w2 hw2
    try dsimp only at hw2
    go_simp
    first | done | with_reducible rfl
  try simp only [Act.put, List.getElem_toArray, List.getElem_cons_succ, List.getElem_cons_zero, List.setIfInBounds_toArray, List.set_cons_zero, List.set_cons_succ]
  refine wpAnyT_take (i := 13) (v := ?_) rfl (by kernel_rfl) (fun _ _ _ h => h) (Or.inl ⟨by rfl, ?_⟩) hS ?_
  rotate_left
  · intro w2 hw2
    try dsimp only at hw2
    go_simp
    first | done | with_reducible rfl
  try simp only [Act.put, List.getElem_toArray, List.getElem_cons_succ, List.getElem_cons_zero, List.setIfInBounds_toArray, List.set_cons_zero, List.set_cons_succ]
  have hcc : W.drew.cell? ⟨G, a, none⟩ = some (.int .u32 u0) := hS.1
  have hcf : W.drew.frozen? ⟨G, a, none⟩ = false := HS.out.1.2.1 a (by rw [HL0.out]; exact HI.out.1)
  clear hS
  refine wpAnyT_gate rfl (by kernel_rfl) (fun K hK => ?_)
  go_simp
  refine hK.out _ _ ?_
  clear hK K hcc hcf
  try simp only [Act.put]
  have HE0 : Hid (l.set a (ad (ad (l.getD a 0) (l.getD b 0)) x) = l.set a z0) := Lib.hid (by rw [hu0, hv0, HZ0.out])
  refine hide_any (X := fun W => Hid (Wf W G (l.set a z0) ∧ w.grownBy W (some G))) (Lib.hid ⟨Wf.set (W := W.drew) HS.out.1 a (by rw [HL0.out]; exact HI.out.1) z0, only_setCell (only_drewN HS.out.2 1) a _⟩) ?_
  have HL1 : Hid ((l.set a z0).length = 16) := Lib.hid (by rw [List.length_set]; exact HL0.out)
  obtain ⟨l1, hl1⟩ : ∃ l', l.set a z0 = l' := ⟨_, rfl⟩
  rw [hl1] at HE0 HL1
  rw [hl1]
  clear hl1 HS W HZ0 hz0 hu0 hv0
  intro W HS
  refine wpAny_done (by kernel_rfl) ?_ _
  go_wp2_with fail
  obtain ⟨u1, hu1⟩ : ∃ v, l1.getD d 0 = v := ⟨_, rfl⟩
  obtain ⟨v1, hv1⟩ : ∃ v, l1.getD a 0 = v := ⟨_, rfl⟩
  have hS : W.drew.cell? ⟨G, d, none⟩ = some (.int .u32 u1) ∧ W.drew.cell? ⟨G, a, none⟩ = some (.int .u32 v1) := by
    obtain ⟨h1, -⟩ := HS.out
    exact ⟨(h1.1 d (by rw [HL1.out]; exact HI.out.2.2.2)).trans (by rw [hu1]), (h1.1 a (by rw [HL1.out]; exact HI.out.1)).trans (by rw [hv1])⟩
  obtain ⟨s1, hs1⟩ : ∃ v, bits .xor .u32 u1 v1 = v := ⟨_, rfl⟩
  obtain ⟨z1, hz1⟩ : ∃ v, rr 65536 65536 s1 = v := ⟨_, rfl⟩
  have HC1 := Lib.hid (fun W => HR.out 16 65536 65536 s1 W (.inl ⟨rfl, rfl, rfl⟩))
  have HZ1 : Hid (rr 65536 65536 (xr u1 v1) = z1) := Lib.hid (by unfold xr; rw [hs1, hz1])
  rw [hz1] at HC1
  refine wp_region_T 13 (fun W => W.cell? ⟨G, d, none⟩ = some (.int .u32 u1) ∧ W.cell? ⟨G, a, none⟩ = some (.int .u32 v1)) (by kernel_rfl) ?_
  refine wpAnyT_take (i := 0) (v := ?_) rfl (by kernel_rfl) (fun _ _ _ h => h) (Or.inl ⟨by rfl, ?_⟩) hS ?_
  rotate_left
  · intro w2 hw2
    try dsimp only at hw2
    go_simp
    first | done | with_reducible rfl
  try simp only [Act.put, List.getElem_toArray, List.getElem_cons_zero, List.setIfInBounds_toArray, List.set_cons_zero, List.set_cons_succ]
  refine wpAnyT_take (i := 1) (v := ?_) rfl (by kernel_rfl) (fun _ _ _ h => h) (Or.inl ⟨by rfl, ?_⟩) hS ?_
  rotate_left
  · intro w2 hw2
    try dsimp only at hw2
    go_simp
    first | done | with_reducible rfl
  try simp only [Act.put, List.getElem_toArray, List.getElem_cons_succ, List.getElem_cons_zero, List.setIfInBounds_toArray, List.set_cons_zero, List.set_cons_succ]
  refine wpAnyT_take (i := 2) (v := ?_) rfl (by kernel_rfl) (fun _ _ _ h => h) (Or.inl ⟨by rfl, ?_⟩) hS ?_
  rotate_left
  · intro w2 hw2
    try dsimp only at hw2
    go_simp
    first | done | with_reducible rfl
  try simp only [Act.put, List.getElem_toArray, List.getElem_cons_succ, List.getElem_cons_zero, List.setIfInBounds_toArray, List.set_cons_zero, List.set_cons_succ]
  refine wpAnyT_take (i := 3) (v := ?_) rfl (by kernel_rfl) (fun _ _ _ h => h) (Or.inl ⟨by rfl, ?_⟩) hS ?_
  rotate_left
  · intro w2 hw2
    try dsimp only at hw2
    go_simp
    first | done | with_reducible rfl
  try simp only [Act.put, List.getElem_toArray, List.getElem_cons_succ, List.getElem_cons_zero, List.setIfInBounds_toArray, List.set_cons_zero, List.set_cons_succ]
  refine wpAnyT_take (i := 4) (v := ?_) rfl (by kernel_rfl) (fun _ _ _ h => h) (Or.inl ⟨by rfl, ?_⟩) hS ?_
  rotate_left
  · intro w2 hw2
    try dsimp only at hw2
    go_simp
    first | done | with_reducible rfl
  try simp only [Act.put, List.getElem_toArray, List.getElem_cons_succ, List.getElem_cons_zero, List.setIfInBounds_toArray, List.set_cons_zero, List.set_cons_succ]
  refine wpAnyT_take (i := 5) (v := ?_) rfl (by kernel_rfl) (fun _ _ _ h => h) (Or.inl ⟨by rfl, ?_⟩) hS ?_
  rotate_left
  · intro w2 hw2
    try dsimp only at hw2
    go_simp
    first | done | with_reducible rfl
  try simp only [Act.put, List.getElem_toArray, List.getElem_cons_succ, List.getElem_cons_zero, List.setIfInBounds_toArray, List.set_cons_zero, List.set_cons_succ]
  refine wpAnyT_take (i := 6) (v := ?_) rfl (by kernel_rfl) (fun _ _ _ h => h) (Or.inl ⟨by rfl, ?_⟩) hS ?_
  rotate_left
  · intro w2 hw2
    try dsimp only at hw2
    go_simp
    first | done | with_reducible rfl
  try simp only [Act.put, List.getElem_toArray, List.getElem_cons_succ, List.getElem_cons_zero, List.setIfInBounds_toArray, List.set_cons_zero, List.set_cons_succ]
  refine wpAnyT_take (i := 7) (v := ?_) rfl (by kernel_rfl) (fun _ _ _ h => h) (Or.inl ⟨by rfl, ?_⟩) hS ?_
  rotate_left
  · intro w2 hw2
    try dsimp only at hw2
    go_simp
    first | done | with_reducible rfl
  try simp only [Act.put, List.getElem_toArray, List.getElem_cons_succ, List.getElem_cons_zero, List.setIfInBounds_toArray, List.set_cons_zero, List.set_cons_succ]
  refine wpAnyT_take (i := 8) (v := ?_) rfl (by kernel_rfl) (fun _ _ _ h => h) (Or.inl ⟨by rfl, ?_⟩) hS ?_
  rotate_left
  · intro w2 hw2
    try dsimp only at hw2
    go_simp
    first | done | with_reducible rfl
  try simp only [Act.put, List.getElem_toArray, List.getElem_cons_succ, List.getElem_cons_zero, List.setIfInBounds_toArray, List.set_cons_zero, List.set_cons_succ]
  refine wpAnyT_take (i := 9) (v := ?_) rfl (by kernel_rfl) (fun _ _ _ h => h) (Or.inl ⟨by rfl, ?_⟩) hS ?_
  rotate_left
  · intro w2 hw2
    try dsimp only at hw2
    go_simp
    first | done | with_reducible rfl
  try simp only [Act.put, List.getElem_toArray, List.getElem_cons_succ, List.getElem_cons_zero, List.setIfInBounds_toArray, List.set_cons_zero, List.set_cons_succ]
  refine wpAnyT_take (i := 10) (v := ?_) rfl (by kernel_rfl) (fun _ _ _ h => h) (Or.inl ⟨by rfl, ?_⟩) hS ?_
  rotate_left
  · intro w2 hw2
    try dsimp only at hw2
    go_simp
    first | done | with_reducible rfl
  try simp only [Act.put, List.getElem_toArray, List.getElem_cons_succ, List.getElem_cons_zero, List.setIfInBounds_toArray, List.set_cons_zero, List.set_cons_succ]
  refine wpAnyT_one (i := 11) rfl (by kernel_rfl) (fun K hK => ?_)
  go_simp
  refine (HC1.out _).mono ?_
  rintro e w' ⟨rfl, rfl⟩
  refine hK.out _ _ hS ?_
  clear hK K
  try simp only [Act.put, List.getElem_toArray, List.getElem_cons_succ, List.getElem_cons_zero, List.setIfInBounds_toArray, List.set_cons_zero, List.set_cons_succ]
  refine wpAnyT_take (i := 12) (v := ?_) rfl (by kernel_rfl) (fun _ _ _ h => h) (Or.inl ⟨by rfl, ?_⟩) hS ?_
  rotate_left
  · intro w2 hw2
    try dsimp only at hw2
    go_simp
    first | done | with_reducible rfl
  try simp only [Act.put, List.getElem_toArray, List.getElem_cons_succ, List.getElem_cons_zero, List.setIfInBounds_toArray, List.set_cons_zero, List.set_cons_succ]
  have hcc : W.drew.cell? ⟨G, d, none⟩ = some (.int .u32 u1) := hS.1
  have hcf : W.drew.frozen? ⟨G, d, none⟩ = false := HS.out.1.2.1 d (by rw [HL1.out]; exact HI.out.2.2.2)
  clear hS
  refine wpAnyT_gate rfl (by kernel_rfl) (fun K hK => ?_)
  go_simp
  refine hK.out _ _ ?_
  clear hK K hcc hcf
  try simp only [Act.put]
  have HE1 : Hid (l1.set d (rr 65536 65536 (xr (l1.getD d 0) (l1.getD a 0))) = l1.set d z1) := Lib.hid (by rw [hu1, hv1, HZ1.out])
  refine hide_any (X := fun W => Hid (Wf W G (l1.set d z1) ∧ w.grownBy W (some G))) (Lib.hid ⟨Wf.set (W := W.drew) HS.out.1 d (by rw [HL1.out]; exact HI.out.2.2.2) z1, only_setCell (only_drewN HS.out.2 1) d _⟩) ?_
  have HL2 : Hid ((l1.set d z1).length = 16) := Lib.hid (by rw [List.length_set]; exact HL1.out)
  obtain ⟨l2, hl2⟩ : ∃ l', l1.set d z1 = l' := ⟨_, rfl⟩
  rw [hl2] at HE1 HL2
  rw [hl2]
  clear hl2 HS W HZ1 hz1 hu1 hv1
  intro W HS
  refine wpAny_done (by kernel_rfl) ?_ _
  go_wp2_with fail
  obtain ⟨u2, hu2⟩ : ∃ v, l2.getD c 0 = v := ⟨_, rfl⟩
  obtain ⟨v2, hv2⟩ : ∃ v, l2.getD d 0 = v := ⟨_, rfl⟩
  have hS : W.drew.cell? ⟨G, c, none⟩ = some (.int .u32 u2) ∧ W.drew.cell? ⟨G, d, none⟩ = some (.int .u32 v2) := by
    obtain ⟨h1, -⟩ := HS.out
    exact ⟨(h1.1 c (by rw [HL2.out]; exact HI.out.2.2.1)).trans (by rw [hu2]), (h1.1 d (by rw [HL2.out]; exact HI.out.2.2.2)).trans (by rw [hv2])⟩
  obtain ⟨z2, hz2⟩ : ∃ v, IntKind.u32.wrap (u2 + v2) = v := ⟨_, rfl⟩
  have HZ2 : Hid (ad u2 v2 = z2) := Lib.hid (by rw [ad_wrap, hz2])
  refine wp_region_T 12 (fun W => W.cell? ⟨G, c, none⟩ = some (.int .u32 u2) ∧ W.cell? ⟨G, d, none⟩ = some (.int .u32 v2)) (by kernel_rfl) ?_
  refine wpAnyT_take (i := 0) (v := ?_) rfl (by kernel_rfl) (fun _ _ _ h => h) (Or.inl ⟨by rfl, ?_⟩) hS ?_
  rotate_left
  · intro w2 hw2
    try dsimp only at hw2
    go_simp
    first | done | with_reducible rfl
  try simp only [Act.put, List.getElem_toArray, List.getElem_cons_zero, List.setIfInBounds_toArray, List.set_cons_zero, List.set_cons_succ]
  refine wpAnyT_take (i := 1) (v := ?_) rfl (by kernel_rfl) (fun _ _ _ h => h) (Or.inl ⟨by rfl, ?_⟩) hS ?_
  rotate_left
  · intro w2 hw2
    try dsimp only at hw2
    go_simp
    first | done | with_reducible rfl
  try simp only [Act.put, List.getElem_toArray, List.getElem_cons_succ, List.getElem_cons_zero, List.setIfInBounds_toArray, List.set_cons_zero, List.set_cons_succ]
  refine wpAnyT_take (i := 2) (v := ?_) rfl (by kernel_rfl) (fun _ _ _ h => h) (Or.inl ⟨by rfl, ?_⟩) hS ?_
  rotate_left
  · intro w2 hw2
    try dsimp only at hw2
    go_simp
    first | done | with_reducible rfl
  try simp only [Act.put, List.getElem_toArray, List.getElem_cons_succ, List.getElem_cons_zero, List.setIfInBounds_toArray, List.set_cons_zero, List.set_cons_succ]
  refine wpAnyT_take (i := 3) (v := ?_) rfl (by kernel_rfl) (fun _ _ _ h => h) (Or.inl ⟨by rfl, ?_⟩) hS ?_
  rotate_left
  · intro w2 hw2
    try dsimp only at hw2
    go_simp
    first | done | with_reducible rfl
  try simp only [Act.put, List.getElem_toArray, List.getElem_cons_succ, List.getElem_cons_zero, List.setIfInBounds_toArray, List.set_cons_zero, List.set_cons_succ]
  refine wpAnyT_take (i := 4) (v := ?_) rfl (by kernel_rfl) (fun _ _ _ h => h) (Or.inl ⟨by rfl, ?_⟩) hS ?_
  rotate_left
  · intro w2 hw2
    try dsimp only at hw2
    go_simp
    first | done | with_reducible rfl
  try simp only [Act.put, List.getElem_toArray, List.getElem_cons_succ, List.getElem_cons_zero, List.setIfInBounds_toArray, List.set_cons_zero, List.set_cons_succ]
  refine wpAnyT_take (i := 5) (v := ?_) rfl (by kernel_rfl) (fun _ _ _ h => h) (Or.inl ⟨by rfl, ?_⟩) hS ?_
  rotate_left
  · intro w2 hw2
    try dsimp only at hw2
    go_simp
    first | done | with_reducible rfl
  try simp only [Act.put, List.getElem_toArray, List.getElem_cons_succ, List.getElem_cons_zero, List.setIfInBounds_toArray, List.set_cons_zero, List.set_cons_succ]
  refine wpAnyT_take (i := 6) (v := ?_) rfl (by kernel_rfl) (fun _ _ _ h => h) (Or.inl ⟨by rfl, ?_⟩) hS ?_
  rotate_left
  · intro w2 hw2
    try dsimp only at hw2
    go_simp
    first | done | with_reducible rfl
  try simp only [Act.put, List.getElem_toArray, List.getElem_cons_succ, List.getElem_cons_zero, List.setIfInBounds_toArray, List.set_cons_zero, List.set_cons_succ]
  refine wpAnyT_take (i := 7) (v := ?_) rfl (by kernel_rfl) (fun _ _ _ h => h) (Or.inl ⟨by rfl, ?_⟩) hS ?_
  rotate_left
  · intro w2 hw2
    try dsimp only at hw2
    go_simp
    first | done | with_reducible rfl
  try simp only [Act.put, List.getElem_toArray, List.getElem_cons_succ, List.getElem_cons_zero, List.setIfInBounds_toArray, List.set_cons_zero, List.set_cons_succ]
  refine wpAnyT_take (i := 8) (v := ?_) rfl (by kernel_rfl) (fun _ _ _ h => h) (Or.inl ⟨by rfl, ?_⟩) hS ?_
  rotate_left
  · intro w2 hw2
    try dsimp only at hw2
    go_simp
    first | done | with_reducible rfl
  try simp only [Act.put, List.getElem_toArray, List.getElem_cons_succ, List.getElem_cons_zero, List.setIfInBounds_toArray, List.set_cons_zero, List.set_cons_succ]
  refine wpAnyT_take (i := 9) (v := ?_) rfl (by kernel_rfl) (fun _ _ _ h => h) (Or.inl ⟨by rfl, ?_⟩) hS ?_
  rotate_left
  · intro w2 hw2
    try dsimp only at hw2
    go_simp
    first | done | with_reducible rfl
  try simp only [Act.put, List.getElem_toArray, List.getElem_cons_succ, List.getElem_cons_zero, List.setIfInBounds_toArray, List.set_cons_zero, List.set_cons_succ]
  refine wpAnyT_take (i := 10) (v := ?_) rfl (by kernel_rfl) (fun _ _ _ h => h) (Or.inl ⟨by rfl, ?_⟩) hS ?_
  rotate_left
  · intro w2 hw2
    try dsimp only at hw2
    go_simp
    first | done | with_reducible rfl
  try simp only [Act.put, List.getElem_toArray, List.getElem_cons_succ, List.getElem_cons_zero, List.setIfInBounds_toArray, List.set_cons_zero, List.set_cons_succ]
  refine wpAnyT_take (i := 11) (v := ?_) rfl (by kernel_rfl) (fun _ _ _ h => h) (Or.inl ⟨by rfl, ?_⟩) hS ?_
  rotate_left
  · intro w2 hw2
    try dsimp only at hw2
    go_simp
    first | done | with_reducible rfl
  try simp only [Act.put, List.getElem_toArray, List.getElem_cons_succ, List.getElem_cons_zero, List.setIfInBounds_toArray, List.set_cons_zero, List.set_cons_succ]
  have hcc : W.drew.cell? ⟨G, c, none⟩ = some (.int .u32 u2) := hS.1
  have hcf : W.drew.frozen? ⟨G, c, none⟩ = false := HS.out.1.2.1 c (by rw [HL2.out]; exact HI.out.2.2.1)
  clear hS
  refine wpAnyT_gate rfl (by kernel_rfl) (fun K hK => ?_)
  go_simp
  refine hK.out _ _ ?_
  clear hK K hcc hcf
  try simp only [Act.put]
  have HE2 : Hid (l2.set c (ad (l2.getD c 0) (l2.getD d 0)) = l2.set c z2) := Lib.hid (by rw [hu2, hv2, HZ2.out])
  refine hide_any (X := fun W => Hid (Wf W G (l2.set c z2) ∧ w.grownBy W (some G))) (Lib.hid ⟨Wf.set (W := W.drew) HS.out.1 c (by rw [HL2.out]; exact HI.out.2.2.1) z2, only_setCell (only_drewN HS.out.2 1) c _⟩) ?_
  have HL3 : Hid ((l2.set c z2).length = 16) := Lib.hid (by rw [List.length_set]; exact HL2.out)
  obtain ⟨l3, hl3⟩ : ∃ l', l2.set c z2 = l' := ⟨_, rfl⟩
  rw [hl3] at HE2 HL3
  rw [hl3]
  clear hl3 HS W HZ2 hz2 hu2 hv2
  intro W HS
  refine wpAny_done (by kernel_rfl) ?_ _
  go_wp2_with fail
  obtain ⟨u3, hu3⟩ : ∃ v, l3.getD b 0 = v := ⟨_, rfl⟩
  obtain ⟨v3, hv3⟩ : ∃ v, l3.getD c 0 = v := ⟨_, rfl⟩
  have hS : W.drew.cell? ⟨G, b, none⟩ = some (.int .u32 u3) ∧ W.drew.cell? ⟨G, c, none⟩ = some (.int .u32 v3) := by
    obtain ⟨h1, -⟩ := HS.out
    exact ⟨(h1.1 b (by rw [HL3.out]; exact HI.out.2.1)).trans (by rw [hu3]), (h1.1 c (by rw [HL3.out]; exact HI.out.2.2.1)).trans (by rw [hv3])⟩
  obtain ⟨s3, hs3⟩ : ∃ v, bits .xor .u32 u3 v3 = v := ⟨_, rfl⟩
  obtain ⟨z3, hz3⟩ : ∃ v, rr 1048576 4096 s3 = v := ⟨_, rfl⟩
  have HC3 := Lib.hid (fun W => HR.out 12 1048576 4096 s3 W (.inr (.inl ⟨rfl, rfl, rfl⟩)))
  have HZ3 : Hid (rr 1048576 4096 (xr u3 v3) = z3) := Lib.hid (by unfold xr; rw [hs3, hz3])
  rw [hz3] at HC3
  refine wp_region_T 13 (fun W => W.cell? ⟨G, b, none⟩ = some (.int .u32 u3) ∧ W.cell? ⟨G, c, none⟩ = some (.int .u32 v3)) (by kernel_rfl) ?_
  refine wpAnyT_take (i := 0) (v := ?_) rfl (by kernel_rfl) (fun _ _ _ h => h) (Or.inl ⟨by rfl, ?_⟩) hS ?_
  rotate_left
  · intro w2 hw2
    try dsimp only at hw2
    go_simp
    first | done | with_reducible rfl
  try simp only [Act.put, List.getElem_toArray, List.getElem_cons_zero, List.setIfInBounds_toArray, List.set_cons_zero, List.set_cons_succ]
  refine wpAnyT_take (i := 1) (v := ?_) rfl (by kernel_rfl) (fun _ _ _ h => h) (Or.inl ⟨by rfl, ?_⟩) hS ?_
  rotate_left
  · intro w2 hw2
    try dsimp only at hw2
    go_simp
    first | done | with_reducible rfl
  try simp only [Act.put, List.getElem_toArray, List.getElem_cons_succ, List.getElem_cons_zero, List.setIfInBounds_toArray, List.set_cons_zero, List.set_cons_succ]
  refine wpAnyT_take (i := 2) (v := ?_) rfl (by kernel_rfl) (fun _ _ _ h => h) (Or.inl ⟨by rfl, ?_⟩) hS ?_
  rotate_left
  · intro w2 hw2
    try dsimp only at hw2
    go_simp
    first | done | with_reducible rfl
  try simp only [Act.put, List.getElem_toArray, List.getElem_cons_succ, List.getElem_cons_zero, List.setIfInBounds_toArray, List.set_cons_zero, List.set_cons_succ]
  refine wpAnyT_take (i := 3) (v := ?_) rfl (by kernel_rfl) (fun _ _ _ h => h) (Or.inl ⟨by rfl, ?_⟩) hS ?_
  rotate_left
  · intro w2 hw2
    try dsimp only at hw2
    go_simp
    first | done | with_reducible rfl
  try simp only [Act.put, List.getElem_toArray, List.getElem_cons_succ, List.getElem_cons_zero, List.setIfInBounds_toArray, List.set_cons_zero, List.set_cons_succ]
  refine wpAnyT_take (i := 4) (v := ?_) rfl (by kernel_rfl) (fun _ _ _ h => h) (Or.inl ⟨by rfl, ?_⟩) hS ?_
  rotate_left
  · intro w2 hw2
    try dsimp only at hw2
    go_simp
    first | done | with_reducible rfl
  try simp only [Act.put, List.getElem_toArray, List.getElem_cons_succ, List.getElem_cons_zero, List.setIfInBounds_toArray, List.set_cons_zero, List.set_cons_succ]
  refine wpAnyT_take (i := 5) (v := ?_) rfl (by kernel_rfl) (fun _ _ _ h => h) (Or.inl ⟨by rfl, ?_⟩) hS ?_
  rotate_left
  · intro w2 hw2
    try dsimp only at hw2
    go_simp
    first | done | with_reducible rfl
  try simp only [Act.put, List.getElem_toArray, List.getElem_cons_succ, List.getElem_cons_zero, List.setIfInBounds_toArray, List.set_cons_zero, List.set_cons_succ]
  refine wpAnyT_take (i := 6) (v := ?_) rfl (by kernel_rfl) (fun _ _ _ h => h) (Or.inl ⟨by rfl, ?_⟩) hS ?_
  rotate_left
  · intro w2 hw2
    try dsimp only at hw2
    go_simp
    first | done | with_reducible rfl
  try simp only [Act.put, List.getElem_toArray, List.getElem_cons_succ, List.getElem_cons_zero, List.setIfInBounds_toArray, List.set_cons_zero, List.set_cons_succ]
  refine wpAnyT_take (i := 7) (v := ?_) rfl (by kernel_rfl) (fun _ _ _ h => h) (Or.inl ⟨by rfl, ?_⟩) hS ?_
  rotate_left
  · intro w2 hw2
    try dsimp only at hw2
    go_simp
    first | done | with_reducible rfl
  try simp only [Act.put, List.getElem_toArray, List.getElem_cons_succ, List.getElem_cons_zero, List.setIfInBounds_toArray, List.set_cons_zero, List.set_cons_succ]
  refine wpAnyT_take (i := 8) (v := ?_) rfl (by kernel_rfl) (fun _ _ _ h => h) (Or.inl ⟨by rfl, ?_⟩) hS ?_
  rotate_left
  · intro w2 hw2
    try dsimp only at hw2
    go_simp
    first | done | with_reducible rfl
  try simp only [Act.put, List.getElem_toArray, List.getElem_cons_succ, List.getElem_cons_zero, List.setIfInBounds_toArray, List.set_cons_zero, List.set_cons_succ]
  refine wpAnyT_take (i := 9) (v := ?_) rfl (by kernel_rfl) (fun _ _ _ h => h) (Or.inl ⟨by rfl, ?_⟩) hS ?_
  rotate_left
  · intro w2 hw2
    try dsimp only at hw2
    go_simp
    first | done | with_reducible rfl
  try simp only [Act.put, List.getElem_toArray, List.getElem_cons_succ, List.getElem_cons_zero, List.setIfInBounds_toArray, List.set_cons_zero, List.set_cons_succ]
  refine wpAnyT_take (i := 10) (v := ?_) rfl (by kernel_rfl) (fun _ _ _ h => h) (Or.inl ⟨by rfl, ?_⟩) hS ?_
  rotate_left
  · intro w2 hw2
    try dsimp only at hw2
    go_simp
    first | done | with_reducible rfl
  try simp only [Act.put, List.getElem_toArray, List.getElem_cons_succ, List.getElem_cons_zero, List.setIfInBounds_toArray, List.set_cons_zero, List.set_cons_succ]
  refine wpAnyT_one (i := 11) rfl (by kernel_rfl) (fun K hK => ?_)
  go_simp
  refine (HC3.out _).mono ?_
  rintro e w' ⟨rfl, rfl⟩
  refine hK.out _ _ hS ?_
  clear hK K
  try simp only [Act.put, List.getElem_toArray, List.getElem_cons_succ, List.getElem_cons_zero, List.setIfInBounds_toArray, List.set_cons_zero, List.set_cons_succ]
  refine wpAnyT_take (i := 12) (v := ?_) rfl (by kernel_rfl) (fun _ _ _ h => h) (Or.inl ⟨by rfl, ?_⟩) hS ?_
  rotate_left
  · intro w2 hw2
    try dsimp only at hw2
    go_simp
    first | done | with_reducible rfl
  try simp only [Act.put, List.getElem_toArray, List.getElem_cons_succ, List.getElem_cons_zero, List.setIfInBounds_toArray, List.set_cons_zero, List.set_cons_succ]
  have hcc : W.drew.cell? ⟨G, b, none⟩ = some (.int .u32 u3) := hS.1
  have hcf : W.drew.frozen? ⟨G, b, none⟩ = false := HS.out.1.2.1 b (by rw [HL3.out]; exact HI.out.2.1)
  clear hS
  refine wpAnyT_gate rfl (by kernel_rfl) (fun K hK => ?_)
  go_simp
  refine hK.out _ _ ?_
  clear hK K hcc hcf
  try simp only [Act.put]
  have HE3 : Hid (l3.set b (rr 1048576 4096 (xr (l3.getD b 0) (l3.getD c 0))) = l3.set b z3) := Lib.hid (by rw [hu3, hv3, HZ3.out])
  refine hide_any (X := fun W => Hid (Wf W G (l3.set b z3) ∧ w.grownBy W (some G))) (Lib.hid ⟨Wf.set (W := W.drew) HS.out.1 b (by rw [HL3.out]; exact HI.out.2.1) z3, only_setCell (only_drewN HS.out.2 1) b _⟩) ?_
  have HL4 : Hid ((l3.set b z3).length = 16) := Lib.hid (by rw [List.length_set]; exact HL3.out)
  obtain ⟨l4, hl4⟩ : ∃ l', l3.set b z3 = l' := ⟨_, rfl⟩
  rw [hl4] at HE3 HL4
  rw [hl4]
  clear hl4 HS W HZ3 hz3 hu3 hv3
  intro W HS
  refine wpAny_done (by kernel_rfl) ?_ _
  go_wp2_with fail
  obtain ⟨u4, hu4⟩ : ∃ v, l4.getD a 0 = v := ⟨_, rfl⟩
  obtain ⟨v4, hv4⟩ : ∃ v, l4.getD b 0 = v := ⟨_, rfl⟩
  have hS : W.drew.cell? ⟨G, a, none⟩ = some (.int .u32 u4) ∧ W.drew.cell? ⟨G, b, none⟩ = some (.int .u32 v4) := by
    obtain ⟨h1, -⟩ := HS.out
    exact ⟨(h1.1 a (by rw [HL4.out]; exact HI.out.1)).trans (by rw [hu4]), (h1.1 b (by rw [HL4.out]; exact HI.out.2.1)).trans (by rw [hv4])⟩
  obtain ⟨s4, hs4⟩ : ∃ v, IntKind.u32.wrap (u4 + v4) = v := ⟨_, rfl⟩
  obtain ⟨z4, hz4⟩ : ∃ v, IntKind.u32.wrap (s4 + y) = v := ⟨_, rfl⟩
  have HZ4 : Hid (ad (ad u4 v4) y = z4) := Lib.hid (by rw [ad_wrap, ad_wrap, hs4, hz4])
  refine wp_region_T 14 (fun W => W.cell? ⟨G, a, none⟩ = some (.int .u32 u4) ∧ W.cell? ⟨G, b, none⟩ = some (.int .u32 v4)) (by kernel_rfl) ?_
  refine wpAnyT_take (i := 0) (v := ?_) rfl (by kernel_rfl) (fun _ _ _ h => h) (Or.inl ⟨by rfl, ?_⟩) hS ?_
  rotate_left
  · intro w2 hw2
    try dsimp only at hw2
    go_simp
    first | done | with_reducible rfl
  try simp only [Act.put, List.getElem_toArray, List.getElem_cons_zero, List.setIfInBounds_toArray, List.set_cons_zero, List.set_cons_succ]
  refine wpAnyT_take (i := 1) (v := ?_) rfl (by kernel_rfl) (fun _ _ _ h => h) (Or.inl ⟨by rfl, ?_⟩) hS ?_
  rotate_left
  · intro w2 hw2
    try dsimp only at hw2
    go_simp
    first | done | with_reducible rfl
  try simp only [Act.put, List.getElem_toArray, List.getElem_cons_succ, List.getElem_cons_zero, List.setIfInBounds_toArray, List.set_cons_zero, List.set_cons_succ]
  refine wpAnyT_take (i := 2) (v := ?_) rfl (by kernel_rfl) (fun _ _ _ h => h) (Or.inl ⟨by rfl, ?_⟩) hS ?_
  rotate_left
  · intro w2 hw2
    try dsimp only at hw2
    go_simp
    first | done | with_reducible rfl
  try simp only [Act.put, List.getElem_toArray, List.getElem_cons_succ, List.getElem_cons_zero, List.setIfInBounds_toArray, List.set_cons_zero, List.set_cons_succ]
  refine wpAnyT_take (i := 3) (v := ?_) rfl (by kernel_rfl) (fun _ _ _ h => h) (Or.inl ⟨by rfl, ?_⟩) hS ?_
  rotate_left
  · intro w2 hw2
    try dsimp only at hw2
    go_simp
    first | done | with_reducible rfl
  try simp only [Act.put, List.getElem_toArray, List.getElem_cons_succ, List.getElem_cons_zero, List.setIfInBounds_toArray, List.set_cons_zero, List.set_cons_succ]
  refine wpAnyT_take (i := 4) (v := ?_) rfl (by kernel_rfl) (fun _ _ _ h => h) (Or.inl ⟨by rfl, ?_⟩) hS ?_
  rotate_left
  · intro w2 hw2
    try dsimp only at hw2
    go_simp
    first | done | with_reducible rfl
  try simp only [Act.put, List.getElem_toArray, List.getElem_cons_succ, List.getElem_cons_zero, List.setIfInBounds_toArray, List.set_cons_zero, List.set_cons_succ]
  refine wpAnyT_take (i := 5) (v := ?_) rfl (by kernel_rfl) (fun _ _ _ h => h) (Or.inl ⟨by rfl, ?_⟩) hS ?_
  rotate_left
  · intro w2 hw2
    try dsimp only at hw2
    go_simp
    first | done | with_reducible rfl
  try simp only [Act.put, List.getElem_toArray, List.getElem_cons_succ, List.getElem_cons_zero, List.setIfInBounds_toArray, List.set_cons_zero, List.set_cons_succ]
  refine wpAnyT_take (i := 6) (v := ?_) rfl (by kernel_rfl) (fun _ _ _ h => h) (Or.inl ⟨by rfl, ?_⟩) hS ?_
  rotate_left
  · intro w2 hw2
    try dsimp only at hw2
    go_simp
    first | done | with_reducible rfl
  try simp only [Act.put, List.getElem_toArray, List.getElem_cons_succ, List.getElem_cons_zero, List.setIfInBounds_toArray, List.set_cons_zero, List.set_cons_succ]
  refine wpAnyT_take (i := 7) (v := ?_) rfl (by kernel_rfl) (fun _ _ _ h => h) (Or.inl ⟨by rfl, ?_⟩) hS ?_
  rotate_left
  · intro w2 hw2
    try dsimp only at hw2
    go_simp
    first | done | with_reducible rfl
  try simp only [Act.put, List.getElem_toArray, List.getElem_cons_succ, List.getElem_cons_zero, List.setIfInBounds_toArray, List.set_cons_zero, List.set_cons_succ]
  refine wpAnyT_take (i := 8) (v := ?_) rfl (by kernel_rfl) (fun _ _ _ h => h) (Or.inl ⟨by rfl, ?_⟩) hS ?_
  rotate_left
  · intro w2 hw2
    try dsimp only at hw2
    go_simp
    first | done | with_reducible rfl
  try simp only [Act.put, List.getElem_toArray, List.getElem_cons_succ, List.getElem_cons_zero, List.setIfInBounds_toArray, List.set_cons_zero, List.set_cons_succ]
  refine wpAnyT_take (i := 9) (v := ?_) rfl (by kernel_rfl) (fun _ _ _ h => h) (Or.inl ⟨by rfl, ?_⟩) hS ?_
  rotate_left
  · intro w2 hw2
    try dsimp only at hw2
    go_simp
    first | done | with_reducible rfl
  try simp only [Act.put, List.getElem_toArray, List.getElem_cons_succ, List.getElem_cons_zero, List.setIfInBounds_toArray, List.set_cons_zero, List.set_cons_succ]
  refine wpAnyT_take (i := 10) (v := ?_) rfl (by kernel_rfl) (fun _ _ _ h => h) (Or.inl ⟨by rfl, ?_⟩) hS ?_
  rotate_left
  · intro w2 hw2
    try dsimp only at hw2
    go_simp
    first | done | with_reducible rfl
  try simp only [Act.put, List.getElem_toArray, List.getElem_cons_succ, List.getElem_cons_zero, List.setIfInBounds_toArray, List.set_cons_zero, List.set_cons_succ]
  refine wpAnyT_take (i := 11) (v := ?_) rfl (by kernel_rfl) (fun _ _ _ h => h) (Or.inl ⟨by rfl, ?_⟩) hS ?_
  rotate_left
  · intro w2 hw2
    try dsimp only at hw2
    go_simp
    first | done | with_reducible rfl
  try simp only [Act.put, List.getElem_toArray, List.getElem_cons_succ, List.getElem_cons_zero, List.setIfInBounds_toArray, List.set_cons_zero, List.set_cons_succ]
  refine wpAnyT_take (i := 12) (v := ?_) rfl (by kernel_rfl) (fun _ _ _ h => h) (Or.inl ⟨by rfl, ?_⟩) hS ?_
  rotate_left
  · intro w2 hw2
    try dsimp only at hw2
    go_simp
    first | done | with_reducible rfl
  try simp only [Act.put, List.getElem_toArray, List.getElem_cons_succ, List.getElem_cons_zero, List.setIfInBounds_toArray, List.set_cons_zero, List.set_cons_succ]
  refine wpAnyT_take (i := 13) (v := ?_) rfl (by kernel_rfl) (fun _ _ _ h => h) (Or.inl ⟨by rfl, ?_⟩) hS ?_
  rotate_left
  · intro w2 hw2
    try dsimp only at hw2
    go_simp
    first | done | with_reducible rfl
  try simp only [Act.put, List.getElem_toArray, List.getElem_cons_succ, List.getElem_cons_zero, List.setIfInBounds_toArray, List.set_cons_zero, List.set_cons_succ]
  have hcc : W.drew.cell? ⟨G, a, none⟩ = some (.int .u32 u4) := hS.1
  have hcf : W.drew.frozen? ⟨G, a, none⟩ = false := HS.out.1.2.1 a (by rw [HL4.out]; exact HI.out.1)
  clear hS
  refine wpAnyT_gate rfl (by kernel_rfl) (fun K hK => ?_)
  go_simp
  refine hK.out _ _ ?_
  clear hK K hcc hcf
  try simp only [Act.put]
  have HE4 : Hid (l4.set a (ad (ad (l4.getD a 0) (l4.getD b 0)) y) = l4.set a z4) := Lib.hid (by rw [hu4, hv4, HZ4.out])
  refine hide_any (X := fun W => Hid (Wf W G (l4.set a z4) ∧ w.grownBy W (some G))) (Lib.hid ⟨Wf.set (W := W.drew) HS.out.1 a (by rw [HL4.out]; exact HI.out.1) z4, only_setCell (only_drewN HS.out.2 1) a _⟩) ?_
  have HL5 : Hid ((l4.set a z4).length = 16) := Lib.hid (by rw [List.length_set]; exact HL4.out)
  obtain ⟨l5, hl5⟩ : ∃ l', l4.set a z4 = l' := ⟨_, rfl⟩
  rw [hl5] at HE4 HL5
  rw [hl5]
  clear hl5 HS W HZ4 hz4 hu4 hv4
  intro W HS
  refine wpAny_done (by kernel_rfl) ?_ _
  go_wp2_with fail
  obtain ⟨u5, hu5⟩ : ∃ v, l5.getD d 0 = v := ⟨_, rfl⟩
  obtain ⟨v5, hv5⟩ : ∃ v, l5.getD a 0 = v := ⟨_, rfl⟩
  have hS : W.drew.cell? ⟨G, d, none⟩ = some (.int .u32 u5) ∧ W.drew.cell? ⟨G, a, none⟩ = some (.int .u32 v5) := by
    obtain ⟨h1, -⟩ := HS.out
    exact ⟨(h1.1 d (by rw [HL5.out]; exact HI.out.2.2.2)).trans (by rw [hu5]), (h1.1 a (by rw [HL5.out]; exact HI.out.1)).trans (by rw [hv5])⟩
  obtain ⟨s5, hs5⟩ : ∃ v, bits .xor .u32 u5 v5 = v := ⟨_, rfl⟩
  obtain ⟨z5, hz5⟩ : ∃ v, rr 16777216 256 s5 = v := ⟨_, rfl⟩
  have HC5 := Lib.hid (fun W => HR.out 8 16777216 256 s5 W (.inr (.inr (.inl ⟨rfl, rfl, rfl⟩))))
  have HZ5 : Hid (rr 16777216 256 (xr u5 v5) = z5) := Lib.hid (by unfold xr; rw [hs5, hz5])
  rw [hz5] at HC5
  refine wp_region_T 13 (fun W => W.cell? ⟨G, d, none⟩ = some (.int .u32 u5) ∧ W.cell? ⟨G, a, none⟩ = some (.int .u32 v5)) (by kernel_rfl) ?_
  refine wpAnyT_take (i := 0) (v := ?_) rfl (by kernel_rfl) (fun _ _ _ h => h) (Or.inl ⟨by rfl, ?_⟩) hS ?_
  rotate_left
  · intro w2 hw2
    try dsimp only at hw2
    go_simp
    first | done | with_reducible rfl
  try simp only [Act.put, List.getElem_toArray, List.getElem_cons_zero, List.setIfInBounds_toArray, List.set_cons_zero, List.set_cons_succ]
  refine wpAnyT_take (i := 1) (v := ?_) rfl (by kernel_rfl) (fun _ _ _ h => h) (Or.inl ⟨by rfl, ?_⟩) hS ?_
  rotate_left
  · intro w2 hw2
    try dsimp only at hw2
    go_simp
    first | done | with_reducible rfl
  try simp only [Act.put, List.getElem_toArray, List.getElem_cons_succ, List.getElem_cons_zero, List.setIfInBounds_toArray, List.set_cons_zero, List.set_cons_succ]
  refine wpAnyT_take (i := 2) (v := ?_) rfl (by kernel_rfl) (fun _ _ _ h => h) (Or.inl ⟨by rfl, ?_⟩) hS ?_
  rotate_left
  · intro w2 hw2
    try dsimp only at hw2
    go_simp
    first | done | with_reducible rfl
  try simp only [Act.put, List.getElem_toArray, List.getElem_cons_succ, List.getElem_cons_zero, List.setIfInBounds_toArray, List.set_cons_zero, List.set_cons_succ]
  refine wpAnyT_take (i := 3) (v := ?_) rfl (by kernel_rfl) (fun _ _ _ h => h) (Or.inl ⟨by rfl, ?_⟩) hS ?_
  rotate_left
  · intro w2 hw2
    try dsimp only at hw2
    go_simp
    first | done | with_reducible rfl
  try simp only [Act.put, List.getElem_toArray, List.getElem_cons_succ, List.getElem_cons_zero, List.setIfInBounds_toArray, List.set_cons_zero, List.set_cons_succ]
  refine wpAnyT_take (i := 4) (v := ?_) rfl (by kernel_rfl) (fun _ _ _ h => h) (Or.inl ⟨by rfl, ?_⟩) hS ?_
  rotate_left
  · intro w2 hw2
    try dsimp only at hw2
    go_simp
    first | done | with_reducible rfl
  try simp only [Act.put, List.getElem_toArray, List.getElem_cons_succ, List.getElem_cons_zero, List.setIfInBounds_toArray, List.set_cons_zero, List.set_cons_succ]
  refine wpAnyT_take (i := 5) (v := ?_) rfl (by kernel_rfl) (fun _ _ _ h => h) (Or.inl ⟨by rfl, ?_⟩) hS ?_
  rotate_left
  · intro w2 hw2
    try dsimp only at hw2
    go_simp
    first | done | with_reducible rfl
  try simp only [Act.put, List.getElem_toArray, List.getElem_cons_succ, List.getElem_cons_zero, List.setIfInBounds_toArray, List.set_cons_zero, List.set_cons_succ]
  refine wpAnyT_take (i := 6) (v := ?_) rfl (by kernel_rfl) (fun _ _ _ h => h) (Or.inl ⟨by rfl, ?_⟩) hS ?_
  rotate_left
  · intro w2 hw2
    try dsimp only at hw2
    go_simp
    first | done | with_reducible rfl
  try simp only [Act.put, List.getElem_toArray, List.getElem_cons_succ, List.getElem_cons_zero, List.setIfInBounds_toArray, List.set_cons_zero, List.set_cons_succ]
  refine wpAnyT_take (i := 7) (v := ?_) rfl (by kernel_rfl) (fun _ _ _ h => h) (Or.inl ⟨by rfl, ?_⟩) hS ?_
  rotate_left
  · intro w2 hw2
    try dsimp only at hw2
    go_simp
    first | done | with_reducible rfl
  try simp only [Act.put, List.getElem_toArray, List.getElem_cons_succ, List.getElem_cons_zero, List.setIfInBounds_toArray, List.set_cons_zero, List.set_cons_succ]
  refine wpAnyT_take (i := 8) (v := ?_) rfl (by kernel_rfl) (fun _ _ _ h => h) (Or.inl ⟨by rfl, ?_⟩) hS ?_
  rotate_left
  · intro w2 hw2
    try dsimp only at hw2
    go_simp
    first | done | with_reducible rfl
  try simp only [Act.put, List.getElem_toArray, List.getElem_cons_succ, List.getElem_cons_zero, List.setIfInBounds_toArray, List.set_cons_zero, List.set_cons_succ]
  refine wpAnyT_take (i := 9) (v := ?_) rfl (by kernel_rfl) (fun _ _ _ h => h) (Or.inl ⟨by rfl, ?_⟩) hS ?_
  rotate_left
  · intro w2 hw2
    try dsimp only at hw2
    go_simp
    first | done | with_reducible rfl
  try simp only [Act.put, List.getElem_toArray, List.getElem_cons_succ, List.getElem_cons_zero, List.setIfInBounds_toArray, List.set_cons_zero, List.set_cons_succ]
  refine wpAnyT_take (i := 10) (v := ?_) rfl (by kernel_rfl) (fun _ _ _ h => h) (Or.inl ⟨by rfl, ?_⟩) hS ?_
  rotate_left
  · intro w2 hw2
    try dsimp only at hw2
    go_simp
    first | done | with_reducible rfl
  try simp only [Act.put, List.getElem_toArray, List.getElem_cons_succ, List.getElem_cons_zero, List.setIfInBounds_toArray, List.set_cons_zero, List.set_cons_succ]
  refine wpAnyT_one (i := 11) rfl (by kernel_rfl) (fun K hK => ?_)
  go_simp
  refine (HC5.out _).mono ?_
  rintro e w' ⟨rfl, rfl⟩
  refine hK.out _ _ hS ?_
  clear hK K
  try simp only [Act.put, List.getElem_toArray, List.getElem_cons_succ, List.getElem_cons_zero, List.setIfInBounds_toArray, List.set_cons_zero, List.set_cons_succ]
  refine wpAnyT_take (i := 12) (v := ?_) rfl (by kernel_rfl) (fun _ _ _ h => h) (Or.inl ⟨by rfl, ?_⟩) hS ?_
  rotate_left
  · intro w2 hw2
    try dsimp only at hw2
    go_simp
    first | done | with_reducible rfl
  try simp only [Act.put, List.getElem_toArray, List.getElem_cons_succ, List.getElem_cons_zero, List.setIfInBounds_toArray, List.set_cons_zero, List.set_cons_succ]
  have hcc : W.drew.cell? ⟨G, d, none⟩ = some (.int .u32 u5) := hS.1
  have hcf : W.drew.frozen? ⟨G, d, none⟩ = false := HS.out.1.2.1 d (by rw [HL5.out]; exact HI.out.2.2.2)
  clear hS
  refine wpAnyT_gate rfl (by kernel_rfl) (fun K hK => ?_)
  go_simp
  refine hK.out _ _ ?_
  clear hK K hcc hcf
  try simp only [Act.put]
  have HE5 : Hid (l5.set d (rr 16777216 256 (xr (l5.getD d 0) (l5.getD a 0))) = l5.set d z5) := Lib.hid (by rw [hu5, hv5, HZ5.out])
  refine hide_any (X := fun W => Hid (Wf W G (l5.set d z5) ∧ w.grownBy W (some G))) (Lib.hid ⟨Wf.set (W := W.drew) HS.out.1 d (by rw [HL5.out]; exact HI.out.2.2.2) z5, only_setCell (only_drewN HS.out.2 1) d _⟩) ?_
  have HL6 : Hid ((l5.set d z5).length = 16) := Lib.hid (by rw [List.length_set]; exact HL5.out)
  obtain ⟨l6, hl6⟩ : ∃ l', l5.set d z5 = l' := ⟨_, rfl⟩
  rw [hl6] at HE5 HL6
  rw [hl6]
  clear hl6 HS W HZ5 hz5 hu5 hv5
  intro W HS
  refine wpAny_done (by kernel_rfl) ?_ _
  go_wp2_with fail
  obtain ⟨u6, hu6⟩ : ∃ v, l6.getD c 0 = v := ⟨_, rfl⟩
  obtain ⟨v6, hv6⟩ : ∃ v, l6.getD d 0 = v := ⟨_, rfl⟩
  have hS : W.drew.cell? ⟨G, c, none⟩ = some (.int .u32 u6) ∧ W.drew.cell? ⟨G, d, none⟩ = some (.int .u32 v6) := by
    obtain ⟨h1, -⟩ := HS.out
    exact ⟨(h1.1 c (by rw [HL6.out]; exact HI.out.2.2.1)).trans (by rw [hu6]), (h1.1 d (by rw [HL6.out]; exact HI.out.2.2.2)).trans (by rw [hv6])⟩
  obtain ⟨z6, hz6⟩ : ∃ v, IntKind.u32.wrap (u6 + v6) = v := ⟨_, rfl⟩
  have HZ6 : Hid (ad u6 v6 = z6) := Lib.hid (by rw [ad_wrap, hz6])
  refine wp_region_T 12 (fun W => W.cell? ⟨G, c, none⟩ = some (.int .u32 u6) ∧ W.cell? ⟨G, d, none⟩ = some (.int .u32 v6)) (by kernel_rfl) ?_
  refine wpAnyT_take (i := 0) (v := ?_) rfl (by kernel_rfl) (fun _ _ _ h => h) (Or.inl ⟨by rfl, ?_⟩) hS ?_
  rotate_left
  · intro w2 hw2
    try dsimp only at hw2
    go_simp
    first | done | with_reducible rfl
  try simp only [Act.put, List.getElem_toArray, List.getElem_cons_zero, List.setIfInBounds_toArray, List.set_cons_zero, List.set_cons_succ]
  refine wpAnyT_take (i := 1) (v := ?_) rfl (by kernel_rfl) (fun _ _ _ h => h) (Or.inl ⟨by rfl, ?_⟩) hS ?_
  rotate_left
  · intro w2 hw2
    try dsimp only at hw2
    go_simp
    first | done | with_reducible rfl
  try simp only [Act.put, List.getElem_toArray, List.getElem_cons_succ, List.getElem_cons_zero, List.setIfInBounds_toArray, List.set_cons_zero, List.set_cons_succ]
  refine wpAnyT_take (i := 2) (v := ?_) rfl (by kernel_rfl) (fun _ _ _ h => h) (Or.inl ⟨by rfl, ?_⟩) hS ?_
  rotate_left
  · intro w2 hw2
    try dsimp only at hw2
    go_simp
    first | done | with_reducible rfl
  try simp only [Act.put, List.getElem_toArray, List.getElem_cons_succ, List.getElem_cons_zero, List.setIfInBounds_toArray, List.set_cons_zero, List.set_cons_succ]
  refine wpAnyT_take (i := 3) (v := ?_) rfl (by kernel_rfl) (fun _ _ _ h => h) (Or.inl ⟨by rfl, ?_⟩) hS ?_
  rotate_left
  · intro w2 hw2
    try dsimp only at hw2
    go_simp
    first | done | with_reducible rfl
  try simp only [Act.put, List.getElem_toArray, List.getElem_cons_succ, List.getElem_cons_zero, List.setIfInBounds_toArray, List.set_cons_zero, List.set_cons_succ]
  refine wpAnyT_take (i := 4) (v := ?_) rfl (by kernel_rfl) (fun _ _ _ h => h) (Or.inl ⟨by rfl, ?_⟩) hS ?_
  rotate_left
  · intro w2 hw2
    try dsimp only at hw2
    go_simp
    first | done | with_reducible rfl
  try simp only [Act.put, List.getElem_toArray, List.getElem_cons_succ, List.getElem_cons_zero, List.setIfInBounds_toArray, List.set_cons_zero, List.set_cons_succ]
  refine wpAnyT_take (i := 5) (v := ?_) rfl (by kernel_rfl) (fun _ _ _ h => h) (Or.inl ⟨by rfl, ?_⟩) hS ?_
  rotate_left
  · intro w2 hw2
    try dsimp only at hw2
    go_simp
    first | done | with_reducible rfl
  try simp only [Act.put, List.getElem_toArray, List.getElem_cons_succ, List.getElem_cons_zero, List.setIfInBounds_toArray, List.set_cons_zero, List.set_cons_succ]
  refine wpAnyT_take (i := 6) (v := ?_) rfl (by kernel_rfl) (fun _ _ _ h => h) (Or.inl ⟨by rfl, ?_⟩) hS ?_
  rotate_left
  · intro w2 hw2
    try dsimp only at hw2
    go_simp
    first | done | with_reducible rfl
  try simp only [Act.put, List.getElem_toArray, List.getElem_cons_succ, List.getElem_cons_zero, List.setIfInBounds_toArray, List.set_cons_zero, List.set_cons_succ]
  refine wpAnyT_take (i := 7) (v := ?_) rfl (by kernel_rfl) (fun _ _ _ h => h) (Or.inl ⟨by rfl, ?_⟩) hS ?_
  rotate_left
  · intro w2 hw2
    try dsimp only at hw2
    go_simp
    first | done | with_reducible rfl
  try simp only [Act.put, List.getElem_toArray, List.getElem_cons_succ, List.getElem_cons_zero, List.setIfInBounds_toArray, List.set_cons_zero, List.set_cons_succ]
  refine wpAnyT_take (i := 8) (v := ?_) rfl (by kernel_rfl) (fun _ _ _ h => h) (Or.inl ⟨by rfl, ?_⟩) hS ?_
  rotate_left
  · intro w2 hw2
    try dsimp only at hw2
    go_simp
    first | done | with_reducible rfl
  try simp only [Act.put, List.getElem_toArray, List.getElem_cons_succ, List.getElem_cons_zero, List.setIfInBounds_toArray, List.set_cons_zero, List.set_cons_succ]
  refine wpAnyT_take (i := 9) (v := ?_) rfl (by kernel_rfl) (fun _ _ _ h => h) (Or.inl ⟨by rfl, ?_⟩) hS ?_
  rotate_left
  · intro w2 hw2
    try dsimp only at hw2
    go_simp
    first | done | with_reducible rfl
  try simp only [Act.put, List.getElem_toArray, List.getElem_cons_succ, List.getElem_cons_zero, List.setIfInBounds_toArray, List.set_cons_zero, List.set_cons_succ]
  refine wpAnyT_take (i := 10) (v := ?_) rfl (by kernel_rfl) (fun _ _ _ h => h) (Or.inl ⟨by rfl, ?_⟩) hS ?_
  rotate_left
  · intro w2 hw2
    try dsimp only at hw2
    go_simp
    first | done | with_reducible rfl
  try simp only [Act.put, List.getElem_toArray, List.getElem_cons_succ, List.getElem_cons_zero, List.setIfInBounds_toArray, List.set_cons_zero, List.set_cons_succ]
  refine wpAnyT_take (i := 11) (v := ?_) rfl (by kernel_rfl) (fun _ _ _ h => h) (Or.inl ⟨by rfl, ?_⟩) hS ?_
  rotate_left
  · intro w2 hw2
    try dsimp only at hw2
    go_simp
    first | done | with_reducible rfl
  try simp only [Act.put, List.getElem_toArray, List.getElem_cons_succ, List.getElem_cons_zero, List.setIfInBounds_toArray, List.set_cons_zero, List.set_cons_succ]
  have hcc : W.drew.cell? ⟨G, c, none⟩ = some (.int .u32 u6) := hS.1
  have hcf : W.drew.frozen? ⟨G, c, none⟩ = false := HS.out.1.2.1 c (by rw [HL6.out]; exact HI.out.2.2.1)
  clear hS
  refine wpAnyT_gate rfl (by kernel_rfl) (fun K hK => ?_)
  go_simp
  refine hK.out _ _ ?_
  clear hK K hcc hcf
  try simp only [Act.put]
  have HE6 : Hid (l6.set c (ad (l6.getD c 0) (l6.getD d 0)) = l6.set c z6) := Lib.hid (by rw [hu6, hv6, HZ6.out])
  refine hide_any (X := fun W => Hid (Wf W G (l6.set c z6) ∧ w.grownBy W (some G))) (Lib.hid ⟨Wf.set (W := W.drew) HS.out.1 c (by rw [HL6.out]; exact HI.out.2.2.1) z6, only_setCell (only_drewN HS.out.2 1) c _⟩) ?_
  have HL7 : Hid ((l6.set c z6).length = 16) := Lib.hid (by rw [List.length_set]; exact HL6.out)
  obtain ⟨l7, hl7⟩ : ∃ l', l6.set c z6 = l' := ⟨_, rfl⟩
  rw [hl7] at HE6 HL7
  rw [hl7]
  clear hl7 HS W HZ6 hz6 hu6 hv6
  intro W HS
  refine wpAny_done (by kernel_rfl) ?_ _
  go_wp2_with fail
  obtain ⟨u7, hu7⟩ : ∃ v, l7.getD b 0 = v := ⟨_, rfl⟩
  obtain ⟨v7, hv7⟩ : ∃ v, l7.getD c 0 = v := ⟨_, rfl⟩
  have hS : W.drew.cell? ⟨G, b, none⟩ = some (.int .u32 u7) ∧ W.drew.cell? ⟨G, c, none⟩ = some (.int .u32 v7) := by
    obtain ⟨h1, -⟩ := HS.out
    exact ⟨(h1.1 b (by rw [HL7.out]; exact HI.out.2.1)).trans (by rw [hu7]), (h1.1 c (by rw [HL7.out]; exact HI.out.2.2.1)).trans (by rw [hv7])⟩
  obtain ⟨s7, hs7⟩ : ∃ v, bits .xor .u32 u7 v7 = v := ⟨_, rfl⟩
  obtain ⟨z7, hz7⟩ : ∃ v, rr 33554432 128 s7 = v := ⟨_, rfl⟩
  have HC7 := Lib.hid (fun W => HR.out 7 33554432 128 s7 W (.inr (.inr (.inr ⟨rfl, rfl, rfl⟩))))
  have HZ7 : Hid (rr 33554432 128 (xr u7 v7) = z7) := Lib.hid (by unfold xr; rw [hs7, hz7])
  rw [hz7] at HC7
  refine wp_region_T 13 (fun W => W.cell? ⟨G, b, none⟩ = some (.int .u32 u7) ∧ W.cell? ⟨G, c, none⟩ = some (.int .u32 v7)) (by kernel_rfl) ?_
  refine wpAnyT_take (i := 0) (v := ?_) rfl (by kernel_rfl) (fun _ _ _ h => h) (Or.inl ⟨by rfl, ?_⟩) hS ?_
  rotate_left
  · intro w2 hw2
    try dsimp only at hw2
    go_simp
    first | done | with_reducible rfl
  try simp only [Act.put, List.getElem_toArray, List.getElem_cons_zero, List.setIfInBounds_toArray, List.set_cons_zero, List.set_cons_succ]
  refine wpAnyT_take (i := 1) (v := ?_) rfl (by kernel_rfl) (fun _ _ _ h => h) (Or.inl ⟨by rfl, ?_⟩) hS ?_
  rotate_left
  · intro w2 hw2
    try dsimp only at hw2
    go_simp
    first | done | with_reducible rfl
  try simp only [Act.put, List.getElem_toArray, List.getElem_cons_succ, List.getElem_cons_zero, List.setIfInBounds_toArray, List.set_cons_zero, List.set_cons_succ]
  refine wpAnyT_take (i := 2) (v := ?_) rfl (by kernel_rfl) (fun _ _ _ h => h) (Or.inl ⟨by rfl, ?_⟩) hS ?_
  rotate_left
  · intro w2 hw2
    try dsimp only at hw2
    go_simp
    first | done | with_reducible rfl
  try simp only [Act.put, List.getElem_toArray, List.getElem_cons_succ, List.getElem_cons_zero, List.setIfInBounds_toArray, List.set_cons_zero, List.set_cons_succ]
  refine wpAnyT_take (i := 3) (v := ?_) rfl (by kernel_rfl) (fun _ _ _ h => h) (Or.inl ⟨by rfl, ?_⟩) hS ?_
  rotate_left
  · intro w2 hw2
    try dsimp only at hw2
    go_simp
    first | done | with_reducible rfl
  try simp only [Act.put, List.getElem_toArray, List.getElem_cons_succ, List.getElem_cons_zero, List.setIfInBounds_toArray, List.set_cons_zero, List.set_cons_succ]
  refine wpAnyT_take (i := 4) (v := ?_) rfl (by kernel_rfl) (fun _ _ _ h => h) (Or.inl ⟨by rfl, ?_⟩) hS ?_
  rotate_left
  · intro w2 hw2
    try dsimp only at hw2
    go_simp
    first | done | with_reducible rfl
  try simp only [Act.put, List.getElem_toArray, List.getElem_cons_succ, List.getElem_cons_zero, List.setIfInBounds_toArray, List.set_cons_zero, List.set_cons_succ]
  refine wpAnyT_take (i := 5) (v := ?_) rfl (by kernel_rfl) (fun _ _ _ h => h) (Or.inl ⟨by rfl, ?_⟩) hS ?_
  rotate_left
  · intro w2 hw2
    try dsimp only at hw2
    go_simp
    first | done | with_reducible rfl
  try simp only [Act.put, List.getElem_toArray, List.getElem_cons_succ, List.getElem_cons_zero, List.setIfInBounds_toArray, List.set_cons_zero, List.set_cons_succ]
  refine wpAnyT_take (i := 6) (v := ?_) rfl (by kernel_rfl) (fun _ _ _ h => h) (Or.inl ⟨by rfl, ?_⟩) hS ?_
  rotate_left
  · intro w2 hw2
    try dsimp only at hw2
    go_simp
    first | done | with_reducible rfl
  try simp only [Act.put, List.getElem_toArray, List.getElem_cons_succ, List.getElem_cons_zero, List.setIfInBounds_toArray, List.set_cons_zero, List.set_cons_succ]
  refine wpAnyT_take (i := 7) (v := ?_) rfl (by kernel_rfl) (fun _ _ _ h => h) (Or.inl ⟨by rfl, ?_⟩) hS ?_
  rotate_left
  · intro w2 hw2
    try dsimp only at hw2
    go_simp
    first | done | with_reducible rfl
  try simp only [Act.put, List.getElem_toArray, List.getElem_cons_succ, List.getElem_cons_zero, List.setIfInBounds_toArray, List.set_cons_zero, List.set_cons_succ]
  refine wpAnyT_take (i := 8) (v := ?_) rfl (by kernel_rfl) (fun _ _ _ h => h) (Or.inl ⟨by rfl, ?_⟩) hS ?_
  rotate_left
  · intro w2 hw2
    try dsimp only at hw2
    go_simp
    first | done | with_reducible rfl
  try simp only [Act.put, List.getElem_toArray, List.getElem_cons_succ, List.getElem_cons_zero, List.setIfInBounds_toArray, List.set_cons_zero, List.set_cons_succ]
  refine wpAnyT_take (i := 9) (v := ?_) rfl (by kernel_rfl) (fun _ _ _ h => h) (Or.inl ⟨by rfl, ?_⟩) hS ?_
  rotate_left
  · intro w2 hw2
    try dsimp only at hw2
    go_simp
    first | done | with_reducible rfl
  try simp only [Act.put, List.getElem_toArray, List.getElem_cons_succ, List.getElem_cons_zero, List.setIfInBounds_toArray, List.set_cons_zero, List.set_cons_succ]
  refine wpAnyT_take (i := 10) (v := ?_) rfl (by kernel_rfl) (fun _ _ _ h => h) (Or.inl ⟨by rfl, ?_⟩) hS ?_
  rotate_left
  · intro w2 hw2
    try dsimp only at hw2
    go_simp
    first | done | with_reducible rfl
  try simp only [Act.put, List.getElem_toArray, List.getElem_cons_succ, List.getElem_cons_zero, List.setIfInBounds_toArray, List.set_cons_zero, List.set_cons_succ]
  refine wpAnyT_one (i := 11) rfl (by kernel_rfl) (fun K hK => ?_)
  go_simp
  refine (HC7.out _).mono ?_
  rintro e w' ⟨rfl, rfl⟩
  refine hK.out _ _ hS ?_
  clear hK K
  try simp only [Act.put, List.getElem_toArray, List.getElem_cons_succ, List.getElem_cons_zero, List.setIfInBounds_toArray, List.set_cons_zero, List.set_cons_succ]
  refine wpAnyT_take (i := 12) (v := ?_) rfl (by kernel_rfl) (fun _ _ _ h => h) (Or.inl ⟨by rfl, ?_⟩) hS ?_
  rotate_left
  · intro w2 hw2
    try dsimp only at hw2
    go_simp
    first | done | with_reducible rfl
  try simp only [Act.put, List.getElem_toArray, List.getElem_cons_succ, List.getElem_cons_zero, List.setIfInBounds_toArray, List.set_cons_zero, List.set_cons_succ]
  have hcc : W.drew.cell? ⟨G, b, none⟩ = some (.int .u32 u7) := hS.1
  have hcf : W.drew.frozen? ⟨G, b, none⟩ = false := HS.out.1.2.1 b (by rw [HL7.out]; exact HI.out.2.1)
  clear hS
  refine wpAnyT_gate rfl (by kernel_rfl) (fun K hK => ?_)
  go_simp
  refine hK.out _ _ ?_
  clear hK K hcc hcf
  try simp only [Act.put]
  have HE7 : Hid (l7.set b (rr 33554432 128 (xr (l7.getD b 0) (l7.getD c 0))) = l7.set b z7) := Lib.hid (by rw [hu7, hv7, HZ7.out])
  refine hide_any (X := fun W => Hid (Wf W G (l7.set b z7) ∧ w.grownBy W (some G))) (Lib.hid ⟨Wf.set (W := W.drew) HS.out.1 b (by rw [HL7.out]; exact HI.out.2.1) z7, only_setCell (only_drewN HS.out.2 1) b _⟩) ?_
  have HL8 : Hid ((l7.set b z7).length = 16) := Lib.hid (by rw [List.length_set]; exact HL7.out)
  obtain ⟨l8, hl8⟩ : ∃ l', l7.set b z7 = l' := ⟨_, rfl⟩
  rw [hl8] at HE7 HL8
  rw [hl8]
  clear hl8 HS W HZ7 hz7 hu7 hv7
  intro W HS
  refine wpAny_done (by kernel_rfl) ?_ _
  go_wp2_with fail
  go_end0
  refine ⟨rfl, ?_, HS.out.2⟩
  have e : rg l a b c d x y = l8 := by
    unfold rg
    simp only [HE0.out, HE1.out, HE2.out, HE3.out, HE4.out, HE5.out, HE6.out, HE7.out]
  rw [e]
  exact HS.out.1
end Go.Proofs.YtfmjankmfddefaaDoor.Dg
