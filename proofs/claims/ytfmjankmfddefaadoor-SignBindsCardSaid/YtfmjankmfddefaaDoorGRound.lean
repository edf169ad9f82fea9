/- digest.round: one round of the mixing. Conditions: the three arrays have 16 elements, and each number of the order is below 16. -/
import Derived.Test.YtfmjankmfddefaaDoorGTwo
import Derived.Test.YtfmjankmfddefaaDoorGBlake
namespace Go.Proofs.YtfmjankmfddefaaDoor.Dg
open Go.RowKit Gm
set_option linter.unusedVariables false

/-- What the walk of a round knows of the world. -/
def RS (w : World) (g : Nat) (l m z : List Int) (W : World) : Prop := Blk W g 82 (wl l) ∧ Blk W (g + 1) 82 (wl m) ∧ Blk W (g + 1 + 1) 94 (zl z) ∧ Below g w W
theorem RS.set {w W : World} {g : Nat} {l m z : List Int} (h : RS w g l m z W) (i : Nat) (x : Int) (hg : w.heap.size ≤ g) : RS w g (l.set i x) m z (W.setCell ⟨g, i, none⟩ (.int .u32 x)) := by
  obtain ⟨h1, h2, h3, h4⟩ := h
  refine ⟨?_, ?_, ?_, ?_⟩
  · have := h1.set_ i (.int .u32 x); rw [wl_set] at this; exact this
  · exact h2.far (by show g + 1 ≠ g; omega) _
  · exact h3.far (by show g + 1 + 1 ≠ g; omega) _
  · exact h4.setCell (Nat.le_refl _) _
/-- The block of the result is there. -/
def RT (g : Nat) (W : World) : Prop := ∃ cs, Blk W (g + 1 + 1 + 1) 82 cs ∧ cs.size = 16
theorem RT.set {g : Nat} {W : World} (h : RT g W) (i : Nat) (u : Value) : RT g (W.setCell ⟨g, i, none⟩ u) := by
  obtain ⟨cs, h1, h2⟩ := h
  exact ⟨cs, h1.far (by show g + 1 + 1 + 1 ≠ g; omega) _, h2⟩
set_option maxHeartbeats 8000000 in
set_option maxRecDepth 100000 in
theorem round_any (l m z : List Int) (hl : l.length = 16) (hm : m.length = 16) (hz : z.length = 16) (hz' : ∀ k, k < 16 → ∃ n : Nat, n < 16 ∧ z.getD k 0 = n) (w : World) :
    Calls Tryd.prog 81 #[.agg (wl l), .agg (wl m), .agg (zl z)] w fun e w' => e = .returned (.agg (wl (rnd l m z))) ∧ Below w.heap.size w w' := by
  obtain ⟨g, hg⟩ : ∃ g, w.heap.size = g := ⟨_, rfl⟩
  have HG := Lib.hid (show w.heap.size ≤ g from Nat.le_of_eq hg)
  go_enter Tryd.func81, Tryd.ntmps81
  go_wp2_with fail
  refine hide_world (X := fun W => Hid (RS w g l m z W) ∧ Hid (RT g W)) ?_ ?_
  · refine ⟨Lib.hid ⟨?_, ?_, ?_, ?_⟩, Lib.hid ?_⟩
    · rw [← hg]; exact (((Blk.new w _ _).alloc _).alloc _).alloc _
    · have := (((Blk.new (w.alloc (.cells (wl l) 82)) 82 (wl m)).alloc (.cells (zl z) 94)).alloc (.cells (wl (List.replicate 16 0)) 82))
      rw [show (w.alloc (.cells (wl l) 82)).heap.size = g + 1 by simp [hg]] at this
      exact this
    · have := (Blk.new ((w.alloc (.cells (wl l) 82)).alloc (.cells (wl m) 82)) 94 (zl z)).alloc (.cells (wl (List.replicate 16 0)) 82)
      rw [show ((w.alloc (.cells (wl l) 82)).alloc (.cells (wl m) 82)).heap.size = g + 1 + 1 by simp [hg]] at this
      exact this
    · have hb : Below g w w := hg ▸ below_self w
      exact (((hb.alloc (Nat.le_of_eq hg.symm) _).alloc (by simp; omega) _).alloc (by simp; omega) _).alloc (by simp; omega) _
    · have := Blk.new (((w.alloc (.cells (wl l) 82)).alloc (.cells (wl m) 82)).alloc (.cells (zl z) 94)) 82 (wl (List.replicate 16 0))
      rw [show (((w.alloc (.cells (wl l) 82)).alloc (.cells (wl m) 82)).alloc (.cells (zl z) 94)).heap.size = g + 1 + 1 + 1 by simp [hg]] at this
      exact ⟨_, this, by simp [wl]⟩
  intro W HSS
  have HS := HSS.1
  have HT := HSS.2
  clear HSS
  have hgw : w.heap.size = g := hg
  clear hg
  obtain ⟨n0, hi0', e0⟩ := hz' 0 (by decide)
  obtain ⟨n1, hi1', e1⟩ := hz' 1 (by decide)
  have hi0 : ((n0 : Nat) : Int) < 16 := by omega
  have hi1 : ((n1 : Nat) : Int) < 16 := by omega
  obtain ⟨a, ha⟩ : ∃ v, l.getD 0 0 = v := ⟨_, rfl⟩
  obtain ⟨b, hb⟩ : ∃ v, l.getD 4 0 = v := ⟨_, rfl⟩
  obtain ⟨c, hc⟩ : ∃ v, l.getD 8 0 = v := ⟨_, rfl⟩
  obtain ⟨d, hd⟩ : ∃ v, l.getD 12 0 = v := ⟨_, rfl⟩
  obtain ⟨x, hx⟩ : ∃ v, m.getD n0 0 = v := ⟨_, rfl⟩
  obtain ⟨y, hy⟩ : ∃ v, m.getD n1 0 = v := ⟨_, rfl⟩
  have hS : W.drew.cell? ⟨g, 0, none⟩ = some (.int .u32 a) ∧ W.drew.cell? ⟨g, 4, none⟩ = some (.int .u32 b) ∧ W.drew.cell? ⟨g, 8, none⟩ = some (.int .u32 c) ∧ W.drew.cell? ⟨g, 12, none⟩ = some (.int .u32 d)
      ∧ W.drew.cell? ⟨g + 1 + 1, 0, none⟩ = some (.int .u8 n0) ∧ W.drew.cell? ⟨g + 1 + 1, 1, none⟩ = some (.int .u8 n1) ∧ W.drew.cell? ⟨g + 1, n0, none⟩ = some (.int .u32 x) ∧ W.drew.cell? ⟨g + 1, n1, none⟩ = some (.int .u32 y) := by
    obtain ⟨h1, h2, h3, -⟩ := HS.out
    refine ⟨?_, ?_, ?_, ?_, ?_, ?_, ?_, ?_⟩
    · exact (h1.cell 0).trans (by rw [wl_at l 0 (by omega), ha])
    · exact (h1.cell 4).trans (by rw [wl_at l 4 (by omega), hb])
    · exact (h1.cell 8).trans (by rw [wl_at l 8 (by omega), hc])
    · exact (h1.cell 12).trans (by rw [wl_at l 12 (by omega), hd])
    · exact (h3.cell 0).trans (by rw [zl_at z 0 (by omega), e0])
    · exact (h3.cell 1).trans (by rw [zl_at z 1 (by omega), e1])
    · exact (h2.cell n0).trans (by rw [wl_at m n0 (by omega), hx])
    · exact (h2.cell n1).trans (by rw [wl_at m n1 (by omega), hy])
  obtain ⟨r, hr⟩ : ∃ r, qq a b c d x y = r := ⟨_, rfl⟩
  have HC := Lib.hid (fun W => mix_any a b c d x y W)
  rw [hr] at HC
  obtain ⟨r0, r1, r2, r3⟩ := r
  dsimp only at HC
  have HE0 : Hid (gg l 0 4 8 12 (ix m z 0) (ix m z 1) = (((l.set 0 r0).set 4 r1).set 8 r2).set 12 r3) := Lib.hid (by
    unfold gg ix
    rw [e0, e1, Int.toNat_natCast, Int.toNat_natCast, hx, hy, ha, hb, hc, hd, hr])
  clear hr ha hb hc hd hx hy e0 e1 hi0' hi1'
  refine wp_region_T 16 (fun W => W.cell? ⟨g, 0, none⟩ = some (.int .u32 a) ∧ W.cell? ⟨g, 4, none⟩ = some (.int .u32 b) ∧ W.cell? ⟨g, 8, none⟩ = some (.int .u32 c) ∧ W.cell? ⟨g, 12, none⟩ = some (.int .u32 d)
      ∧ W.cell? ⟨g + 1 + 1, 0, none⟩ = some (.int .u8 n0) ∧ W.cell? ⟨g + 1 + 1, 1, none⟩ = some (.int .u8 n1) ∧ W.cell? ⟨g + 1, n0, none⟩ = some (.int .u32 x) ∧ W.cell? ⟨g + 1, n1, none⟩ = some (.int .u32 y)) (by kernel_rfl) ?_
  refine wpAnyT_take (i := 0) (v := ?_) rfl (by kernel_rfl) (fun _ _ _ h => h) (Or.inl ⟨by rfl, ?_⟩) hS ?_
  rotate_left
  · intro w2 hw2
    try dsimp only at hw2
    go_simp
    first | done | with_reducible rfl
  try simp only [Act.put, List.getElem_toArray, List.getElem_cons_zero, List.setIfInBounds_toArray, List.set_cons_zero, List.set_cons_succ]
  refine wpAnyT_take (i := 1) (v := ?_) rfl (by kernel_rfl) (fun _ _ _ h => h) (Or.inl ⟨by rfl, ?_⟩) hS ?_
  rotate_left
  · intro w2 hw2
    try dsimp only at hw2
    go_simp
    first | done | with_reducible rfl
  try simp only [Act.put, List.getElem_toArray, List.getElem_cons_succ, List.getElem_cons_zero, List.setIfInBounds_toArray, List.set_cons_zero, List.set_cons_succ]
  refine wpAnyT_take (i := 2) (v := ?_) rfl (by kernel_rfl) (fun _ _ _ h => h) (Or.inl ⟨by rfl, ?_⟩) hS ?_
  rotate_left
  · intro w2 hw2
    try dsimp only at hw2
    go_simp
    first | done | with_reducible rfl
  try simp only [Act.put, List.getElem_toArray, List.getElem_cons_succ, List.getElem_cons_zero, List.setIfInBounds_toArray, List.set_cons_zero, List.set_cons_succ]
  refine wpAnyT_take (i := 3) (v := ?_) rfl (by kernel_rfl) (fun _ _ _ h => h) (Or.inl ⟨by rfl, ?_⟩) hS ?_
  rotate_left
  · intro w2 hw2
    try dsimp only at hw2
    go_simp
    first | done | with_reducible rfl
  try simp only [Act.put, List.getElem_toArray, List.getElem_cons_succ, List.getElem_cons_zero, List.setIfInBounds_toArray, List.set_cons_zero, List.set_cons_succ]
  refine wpAnyT_take (i := 4) (v := ?_) rfl (by kernel_rfl) (fun _ _ _ h => h) (Or.inl ⟨by rfl, ?_⟩) hS ?_
  rotate_left
  · intro w2 hw2
    try dsimp only at hw2
    go_simp
    first | done | with_reducible rfl
  try simp only [Act.put, List.getElem_toArray, List.getElem_cons_succ, List.getElem_cons_zero, List.setIfInBounds_toArray, List.set_cons_zero, List.set_cons_succ]
  refine wpAnyT_take (i := 5) (v := ?_) rfl (by kernel_rfl) (fun _ _ _ h => h) (Or.inl ⟨by rfl, ?_⟩) hS ?_
  rotate_left
  · intro w2 hw2
    try dsimp only at hw2
    go_simp
    first | done | with_reducible rfl
  try simp only [Act.put, List.getElem_toArray, List.getElem_cons_succ, List.getElem_cons_zero, List.setIfInBounds_toArray, List.set_cons_zero, List.set_cons_succ]
  refine wpAnyT_take (i := 6) (v := ?_) rfl (by kernel_rfl) (fun _ _ _ h => h) (Or.inl ⟨by rfl, ?_⟩) hS ?_
  rotate_left
  · intro w2 hw2
    try dsimp only at hw2
    go_simp
    first | done | with_reducible rfl
  try simp only [Act.put, List.getElem_toArray, List.getElem_cons_succ, List.getElem_cons_zero, List.setIfInBounds_toArray, List.set_cons_zero, List.set_cons_succ]
  refine wpAnyT_take (i := 7) (v := ?_) rfl (by kernel_rfl) (fun _ _ _ h => h) (Or.inl ⟨by rfl, ?_⟩) hS ?_
  rotate_left
  · intro w2 hw2
    try dsimp only at hw2
    go_simp
    first | done | with_reducible rfl
  try simp only [Act.put, List.getElem_toArray, List.getElem_cons_succ, List.getElem_cons_zero, List.setIfInBounds_toArray, List.set_cons_zero, List.set_cons_succ]
  refine wpAnyT_take (i := 8) (v := ?_) rfl (by kernel_rfl) (fun _ _ _ h => h) (Or.inl ⟨by rfl, ?_⟩) hS ?_
  rotate_left
  · intro w2 hw2
    try dsimp only at hw2
    go_simp
    first | done | with_reducible rfl
  try simp only [Act.put, List.getElem_toArray, List.getElem_cons_succ, List.getElem_cons_zero, List.setIfInBounds_toArray, List.set_cons_zero, List.set_cons_succ]
  refine wpAnyT_take (i := 9) (v := ?_) rfl (by kernel_rfl) (fun _ _ _ h => h) (Or.inl ⟨by rfl, ?_⟩) hS ?_
  rotate_left
  · intro w2 hw2
    try dsimp only at hw2
    go_simp
    first | done | with_reducible rfl
  try simp only [Act.put, List.getElem_toArray, List.getElem_cons_succ, List.getElem_cons_zero, List.setIfInBounds_toArray, List.set_cons_zero, List.set_cons_succ]
  refine wpAnyT_take (i := 10) (v := ?_) rfl (by kernel_rfl) (fun _ _ _ h => h) (Or.inl ⟨by rfl, ?_⟩) hS ?_
  rotate_left
  · intro w2 hw2
    try dsimp only at hw2
    go_simp
    first | done | with_reducible rfl
  try simp only [Act.put, List.getElem_toArray, List.getElem_cons_succ, List.getElem_cons_zero, List.setIfInBounds_toArray, List.set_cons_zero, List.set_cons_succ]
  refine wpAnyT_take (i := 11) (v := ?_) rfl (by kernel_rfl) (fun _ _ _ h => h) (Or.inl ⟨by rfl, ?_⟩) hS ?_
  rotate_left
  · intro w2 hw2
    try dsimp only at hw2
    go_simp
    first | done | with_reducible rfl
  try simp only [Act.put, List.getElem_toArray, List.getElem_cons_succ, List.getElem_cons_zero, List.setIfInBounds_toArray, List.set_cons_zero, List.set_cons_succ]
  refine wpAnyT_take (i := 12) (v := ?_) rfl (by kernel_rfl) (fun _ _ _ h => h) (Or.inl ⟨by rfl, ?_⟩) hS ?_
  rotate_left
  · intro w2 hw2
    try dsimp only at hw2
    go_simp
    first | done | with_reducible rfl
  try simp only [Act.put, List.getElem_toArray, List.getElem_cons_succ, List.getElem_cons_zero, List.setIfInBounds_toArray, List.set_cons_zero, List.set_cons_succ]
  refine wpAnyT_take (i := 13) (v := ?_) rfl (by kernel_rfl) (fun _ _ _ h => h) (Or.inl ⟨by rfl, ?_⟩) hS ?_
  rotate_left
  · intro w2 hw2
    try dsimp only at hw2
    go_simp
    first | done | with_reducible rfl
  try simp only [Act.put, List.getElem_toArray, List.getElem_cons_succ, List.getElem_cons_zero, List.setIfInBounds_toArray, List.set_cons_zero, List.set_cons_succ]
  refine wpAnyT_take (i := 14) (v := ?_) rfl (by kernel_rfl) (fun _ _ _ h => h) (Or.inl ⟨by rfl, ?_⟩) hS ?_
  rotate_left
  · intro w2 hw2
    try dsimp only at hw2
    go_simp
    first | done | with_reducible rfl
  try simp only [Act.put, List.getElem_toArray, List.getElem_cons_succ, List.getElem_cons_zero, List.setIfInBounds_toArray, List.set_cons_zero, List.set_cons_succ]
  refine wpAnyT_take (i := 15) (v := ?_) rfl (by kernel_rfl) (fun _ _ _ h => h) (Or.inl ⟨by rfl, ?_⟩) hS ?_
  rotate_left
  · intro w2 hw2
    try dsimp only at hw2
    go_simp
    first | done | with_reducible rfl
  try simp only [Act.put, List.getElem_toArray, List.getElem_cons_succ, List.getElem_cons_zero, List.setIfInBounds_toArray, List.set_cons_zero, List.set_cons_succ]
  clear hS
  refine wpAnyT_gate rfl (by kernel_rfl) (fun K hK => ?_)
  go_simp
  refine (HC.out _).mono ?_
  rintro e w' ⟨rfl, rfl⟩
  refine hK.out _ _ ?_
  clear hK K HC
  refine hide_any (X := fun W => Hid (RS w g l m z W) ∧ Hid (RT g W)) ⟨Lib.hid ⟨HS.out.1, HS.out.2.1, HS.out.2.2.1, below_drew HS.out.2.2.2 1⟩, Lib.hid HT.out⟩ ?_
  clear HS HT W
  rintro W ⟨HS, HT⟩
  refine wpAny_take (i := 17) (v := ?_) rfl (by kernel_rfl) (by kernel_rfl) (by kernel_rfl) (fun _ _ _ h => h) (Or.inl ⟨by rfl, ?_⟩) ?_
  rotate_left
  · intro w2
    go_simp
    first | done | with_reducible rfl
  try simp only [Act.put, List.getElem_toArray, List.getElem_cons_succ, List.getElem_cons_zero, List.setIfInBounds_toArray, List.set_cons_zero, List.set_cons_succ]
  refine wpAny_take (i := 18) (v := ?_) rfl (by kernel_rfl) (by kernel_rfl) (by kernel_rfl) (fun _ _ _ h => h) (Or.inl ⟨by rfl, ?_⟩) ?_
  rotate_left
  · intro w2
    go_simp
    first | done | with_reducible rfl
  try simp only [Act.put, List.getElem_toArray, List.getElem_cons_succ, List.getElem_cons_zero, List.setIfInBounds_toArray, List.set_cons_zero, List.set_cons_succ]
  refine wpAny_take (i := 19) (v := ?_) rfl (by kernel_rfl) (by kernel_rfl) (by kernel_rfl) (fun _ _ _ h => h) (Or.inl ⟨by rfl, ?_⟩) ?_
  rotate_left
  · intro w2
    go_simp
    first | done | with_reducible rfl
  try simp only [Act.put, List.getElem_toArray, List.getElem_cons_succ, List.getElem_cons_zero, List.setIfInBounds_toArray, List.set_cons_zero, List.set_cons_succ]
  refine wpAny_take (i := 20) (v := ?_) rfl (by kernel_rfl) (by kernel_rfl) (by kernel_rfl) (fun _ _ _ h => h) (Or.inl ⟨by rfl, ?_⟩) ?_
  rotate_left
  · intro w2
    go_simp
    first | done | with_reducible rfl
  try simp only [Act.put, List.getElem_toArray, List.getElem_cons_succ, List.getElem_cons_zero, List.setIfInBounds_toArray, List.set_cons_zero, List.set_cons_succ]
  refine wpAny_take (i := 21) (v := ?_) rfl (by kernel_rfl) (by kernel_rfl) (by kernel_rfl) (fun _ _ _ h => h) (Or.inl ⟨by rfl, ?_⟩) ?_
  rotate_left
  · intro w2
    go_simp
    first | done | with_reducible rfl
  try simp only [Act.put, List.getElem_toArray, List.getElem_cons_succ, List.getElem_cons_zero, List.setIfInBounds_toArray, List.set_cons_zero, List.set_cons_succ]
  refine wpAny_take (i := 22) (v := ?_) rfl (by kernel_rfl) (by kernel_rfl) (by kernel_rfl) (fun _ _ _ h => h) (Or.inl ⟨by rfl, ?_⟩) ?_
  rotate_left
  · intro w2
    go_simp
    first | done | with_reducible rfl
  try simp only [Act.put, List.getElem_toArray, List.getElem_cons_succ, List.getElem_cons_zero, List.setIfInBounds_toArray, List.set_cons_zero, List.set_cons_succ]
  have hcc := (HS.out.1.cell 0).trans (wl_at _ 0 (by first | omega | (simp; omega)))
  have hcf := HS.out.1.frozen 0
  refine wpAny_one (i := 23) rfl (by kernel_rfl) (fun K hK => ?_)
  go_simp
  refine hK.out _ _ ?_
  clear hK K hcc hcf
  try simp only [Act.put, List.getElem_toArray, List.getElem_cons_succ, List.getElem_cons_zero, List.setIfInBounds_toArray, List.set_cons_zero, List.set_cons_succ]
  refine hide_any (X := fun W => Hid (RS w g (l.set 0 r0) m z W) ∧ Hid (RT g W)) ⟨Lib.hid (HS.out.set 0 r0 HG.out), Lib.hid (HT.out.set 0 _)⟩ ?_
  clear HS HT W
  rintro W ⟨HS, HT⟩
  refine wpAny_take (i := 24) (v := ?_) rfl (by kernel_rfl) (by kernel_rfl) (by kernel_rfl) (fun _ _ _ h => h) (Or.inl ⟨by rfl, ?_⟩) ?_
  rotate_left
  · intro w2
    go_simp
    first | done | with_reducible rfl
  try simp only [Act.put, List.getElem_toArray, List.getElem_cons_succ, List.getElem_cons_zero, List.setIfInBounds_toArray, List.set_cons_zero, List.set_cons_succ]
  have hcc := (HS.out.1.cell 4).trans (wl_at _ 4 (by first | omega | (simp; omega)))
  have hcf := HS.out.1.frozen 4
  refine wpAny_one (i := 25) rfl (by kernel_rfl) (fun K hK => ?_)
  go_simp
  refine hK.out _ _ ?_
  clear hK K hcc hcf
  try simp only [Act.put, List.getElem_toArray, List.getElem_cons_succ, List.getElem_cons_zero, List.setIfInBounds_toArray, List.set_cons_zero, List.set_cons_succ]
  refine hide_any (X := fun W => Hid (RS w g ((l.set 0 r0).set 4 r1) m z W) ∧ Hid (RT g W)) ⟨Lib.hid (HS.out.set 4 r1 HG.out), Lib.hid (HT.out.set 4 _)⟩ ?_
  clear HS HT W
  rintro W ⟨HS, HT⟩
  refine wpAny_take (i := 26) (v := ?_) rfl (by kernel_rfl) (by kernel_rfl) (by kernel_rfl) (fun _ _ _ h => h) (Or.inl ⟨by rfl, ?_⟩) ?_
  rotate_left
  · intro w2
    go_simp
    first | done | with_reducible rfl
  try simp only [Act.put, List.getElem_toArray, List.getElem_cons_succ, List.getElem_cons_zero, List.setIfInBounds_toArray, List.set_cons_zero, List.set_cons_succ]
  have hcc := (HS.out.1.cell 8).trans (wl_at _ 8 (by first | omega | (simp; omega)))
  have hcf := HS.out.1.frozen 8
  refine wpAny_one (i := 27) rfl (by kernel_rfl) (fun K hK => ?_)
  go_simp
  refine hK.out _ _ ?_
  clear hK K hcc hcf
  try simp only [Act.put, List.getElem_toArray, List.getElem_cons_succ, List.getElem_cons_zero, List.setIfInBounds_toArray, List.set_cons_zero, List.set_cons_succ]
  refine hide_any (X := fun W => Hid (RS w g (((l.set 0 r0).set 4 r1).set 8 r2) m z W) ∧ Hid (RT g W)) ⟨Lib.hid (HS.out.set 8 r2 HG.out), Lib.hid (HT.out.set 8 _)⟩ ?_
  clear HS HT W
  rintro W ⟨HS, HT⟩
  refine wpAny_take (i := 28) (v := ?_) rfl (by kernel_rfl) (by kernel_rfl) (by kernel_rfl) (fun _ _ _ h => h) (Or.inl ⟨by rfl, ?_⟩) ?_
  rotate_left
  · intro w2
    go_simp
    first | done | with_reducible rfl
  try simp only [Act.put, List.getElem_toArray, List.getElem_cons_succ, List.getElem_cons_zero, List.setIfInBounds_toArray, List.set_cons_zero, List.set_cons_succ]
  have hcc := (HS.out.1.cell 12).trans (wl_at _ 12 (by first | omega | (simp; omega)))
  have hcf := HS.out.1.frozen 12
  refine wpAny_one (i := 29) rfl (by kernel_rfl) (fun K hK => ?_)
  go_simp
  refine hK.out _ _ ?_
  clear hK K hcc hcf
  try simp only [Act.put, List.getElem_toArray, List.getElem_cons_succ, List.getElem_cons_zero, List.setIfInBounds_toArray, List.set_cons_zero, List.set_cons_succ]
  refine hide_any (X := fun W => Hid (RS w g ((((l.set 0 r0).set 4 r1).set 8 r2).set 12 r3) m z W) ∧ Hid (RT g W)) ⟨Lib.hid (HS.out.set 12 r3 HG.out), Lib.hid (HT.out.set 12 _)⟩ ?_
  clear HS HT W
  rintro W ⟨HS, HT⟩
  refine wpAny_done (by kernel_rfl) ?_ _
  obtain ⟨l0, hl0⟩ : ∃ l', (((l.set 0 r0).set 4 r1).set 8 r2).set 12 r3 = l' := ⟨_, rfl⟩
  have hlen : l0.length = 16 := by rw [← hl0]; simpa using hl
  rw [hl0] at HS HE0
  clear hl0 hl
  have hl := hlen
  clear hlen hi0 hi1
  go_wp2_with fail
  obtain ⟨n0, hi0', e0⟩ := hz' 2 (by decide)
  obtain ⟨n1, hi1', e1⟩ := hz' 3 (by decide)
  have hi0 : ((n0 : Nat) : Int) < 16 := by omega
  have hi1 : ((n1 : Nat) : Int) < 16 := by omega
  obtain ⟨a, ha⟩ : ∃ v, l0.getD 1 0 = v := ⟨_, rfl⟩
  obtain ⟨b, hb⟩ : ∃ v, l0.getD 5 0 = v := ⟨_, rfl⟩
  obtain ⟨c, hc⟩ : ∃ v, l0.getD 9 0 = v := ⟨_, rfl⟩
  obtain ⟨d, hd⟩ : ∃ v, l0.getD 13 0 = v := ⟨_, rfl⟩
  obtain ⟨x, hx⟩ : ∃ v, m.getD n0 0 = v := ⟨_, rfl⟩
  obtain ⟨y, hy⟩ : ∃ v, m.getD n1 0 = v := ⟨_, rfl⟩
  have hS : W.drew.cell? ⟨g, 1, none⟩ = some (.int .u32 a) ∧ W.drew.cell? ⟨g, 5, none⟩ = some (.int .u32 b) ∧ W.drew.cell? ⟨g, 9, none⟩ = some (.int .u32 c) ∧ W.drew.cell? ⟨g, 13, none⟩ = some (.int .u32 d)
      ∧ W.drew.cell? ⟨g + 1 + 1, 2, none⟩ = some (.int .u8 n0) ∧ W.drew.cell? ⟨g + 1 + 1, 3, none⟩ = some (.int .u8 n1) ∧ W.drew.cell? ⟨g + 1, n0, none⟩ = some (.int .u32 x) ∧ W.drew.cell? ⟨g + 1, n1, none⟩ = some (.int .u32 y) := by
    obtain ⟨h1, h2, h3, -⟩ := HS.out
    refine ⟨?_, ?_, ?_, ?_, ?_, ?_, ?_, ?_⟩
    · exact (h1.cell 1).trans (by rw [wl_at l0 1 (by omega), ha])
    · exact (h1.cell 5).trans (by rw [wl_at l0 5 (by omega), hb])
    · exact (h1.cell 9).trans (by rw [wl_at l0 9 (by omega), hc])
    · exact (h1.cell 13).trans (by rw [wl_at l0 13 (by omega), hd])
    · exact (h3.cell 2).trans (by rw [zl_at z 2 (by omega), e0])
    · exact (h3.cell 3).trans (by rw [zl_at z 3 (by omega), e1])
    · exact (h2.cell n0).trans (by rw [wl_at m n0 (by omega), hx])
    · exact (h2.cell n1).trans (by rw [wl_at m n1 (by omega), hy])
  obtain ⟨r, hr⟩ : ∃ r, qq a b c d x y = r := ⟨_, rfl⟩
  have HC := Lib.hid (fun W => mix_any a b c d x y W)
  rw [hr] at HC
  obtain ⟨r0, r1, r2, r3⟩ := r
  dsimp only at HC
  have HE1 : Hid (gg l0 1 5 9 13 (ix m z 2) (ix m z 3) = (((l0.set 1 r0).set 5 r1).set 9 r2).set 13 r3) := Lib.hid (by
    unfold gg ix
    rw [e0, e1, Int.toNat_natCast, Int.toNat_natCast, hx, hy, ha, hb, hc, hd, hr])
  clear hr ha hb hc hd hx hy e0 e1 hi0' hi1'
  refine wp_region_T 16 (fun W => W.cell? ⟨g, 1, none⟩ = some (.int .u32 a) ∧ W.cell? ⟨g, 5, none⟩ = some (.int .u32 b) ∧ W.cell? ⟨g, 9, none⟩ = some (.int .u32 c) ∧ W.cell? ⟨g, 13, none⟩ = some (.int .u32 d)
      ∧ W.cell? ⟨g + 1 + 1, 2, none⟩ = some (.int .u8 n0) ∧ W.cell? ⟨g + 1 + 1, 3, none⟩ = some (.int .u8 n1) ∧ W.cell? ⟨g + 1, n0, none⟩ = some (.int .u32 x) ∧ W.cell? ⟨g + 1, n1, none⟩ = some (.int .u32 y)) (by kernel_rfl) ?_
  refine wpAnyT_take (i := 0) (v := ?_) rfl (by kernel_rfl) (fun _ _ _ h => h) (Or.inl ⟨by rfl, ?_⟩) hS ?_
  rotate_left
  · intro w2 hw2
    try dsimp only at hw2
    go_simp
    first | done | with_reducible rfl
  try simp only [Act.put, List.getElem_toArray, List.getElem_cons_zero, List.setIfInBounds_toArray, List.set_cons_zero, List.set_cons_succ]
  refine wpAnyT_take (i := 1) (v := ?_) rfl (by kernel_rfl) (fun _ _ _ h => h) (Or.inl ⟨by rfl, ?_⟩) hS ?_
  rotate_left
  · intro w2 hw2
    try dsimp only at hw2
    go_simp
    first | done | with_reducible rfl
  try simp only [Act.put, List.getElem_toArray, List.getElem_cons_succ, List.getElem_cons_zero, List.setIfInBounds_toArray, List.set_cons_zero, List.set_cons_succ]
  refine wpAnyT_take (i := 2) (v := ?_) rfl (by kernel_rfl) (fun _ _ _ h => h) (Or.inl ⟨by rfl, ?_⟩) hS ?_
  rotate_left
  · intro w2 hw2
    try dsimp only at hw2
    go_simp
    first | done | with_reducible rfl
  try simp only [Act.put, List.getElem_toArray, List.getElem_cons_succ, List.getElem_cons_zero, List.setIfInBounds_toArray, List.set_cons_zero, List.set_cons_succ]
  refine wpAnyT_take (i := 3) (v := ?_) rfl (by kernel_rfl) (fun _ _ _ h => h) (Or.inl ⟨by rfl, ?_⟩) hS ?_
  rotate_left
  · intro w2 hw2
    try dsimp only at hw2
    go_simp
    first | done | with_reducible rfl
  try simp only [Act.put, List.getElem_toArray, List.getElem_cons_succ, List.getElem_cons_zero, List.setIfInBounds_toArray, List.set_cons_zero, List.set_cons_succ]
  refine wpAnyT_take (i := 4) (v := ?_) rfl (by kernel_rfl) (fun _ _ _ h => h) (Or.inl ⟨by rfl, ?_⟩) hS ?_
  rotate_left
  · intro w2 hw2
    try dsimp only at hw2
    go_simp
    first | done | with_reducible rfl
  try simp only [Act.put, List.getElem_toArray, List.getElem_cons_succ, List.getElem_cons_zero, List.setIfInBounds_toArray, List.set_cons_zero, List.set_cons_succ]
  refine wpAnyT_take (i := 5) (v := ?_) rfl (by kernel_rfl) (fun _ _ _ h => h) (Or.inl ⟨by rfl, ?_⟩) hS ?_
  rotate_left
  · intro w2 hw2
    try dsimp only at hw2
    go_simp
    first | done | with_reducible rfl
  try simp only [Act.put, List.getElem_toArray, List.getElem_cons_succ, List.getElem_cons_zero, List.setIfInBounds_toArray, List.set_cons_zero, List.set_cons_succ]
  refine wpAnyT_take (i := 6) (v := ?_) rfl (by kernel_rfl) (fun _ _ _ h => h) (Or.inl ⟨by rfl, ?_⟩) hS ?_
  rotate_left
  · intro w2 hw2
    try dsimp only at hw2
    go_simp
    first | done | with_reducible rfl
  try simp only [Act.put, List.getElem_toArray, List.getElem_cons_succ, List.getElem_cons_zero, List.setIfInBounds_toArray, List.set_cons_zero, List.set_cons_succ]
  refine wpAnyT_take (i := 7) (v := ?_) rfl (by kernel_rfl) (fun _ _ _ h => h) (Or.inl ⟨by rfl, ?_⟩) hS ?_
  rotate_left
  · intro w2 hw2
    try dsimp only at hw2
    go_simp
    first | done | with_reducible rfl
  try simp only [Act.put, List.getElem_toArray, List.getElem_cons_succ, List.getElem_cons_zero, List.setIfInBounds_toArray, List.set_cons_zero, List.set_cons_succ]
  refine wpAnyT_take (i := 8) (v := ?_) rfl (by kernel_rfl) (fun _ _ _ h => h) (Or.inl ⟨by rfl, ?_⟩) hS ?_
  rotate_left
  · intro w2 hw2
    try dsimp only at hw2
    go_simp
    first | done | with_reducible rfl
  try simp only [Act.put, List.getElem_toArray, List.getElem_cons_succ, List.getElem_cons_zero, List.setIfInBounds_toArray, List.set_cons_zero, List.set_cons_succ]
  refine wpAnyT_take (i := 9) (v := ?_) rfl (by kernel_rfl) (fun _ _ _ h => h) (Or.inl ⟨by rfl, ?_⟩) hS ?_
  rotate_left
  · intro w2 hw2
    try dsimp only at hw2
    go_simp
    first | done | with_reducible rfl
  try simp only [Act.put, List.getElem_toArray, List.getElem_cons_succ, List.getElem_cons_zero, List.setIfInBounds_toArray, List.set_cons_zero, List.set_cons_succ]
  refine wpAnyT_take (i := 10) (v := ?_) rfl (by kernel_rfl) (fun _ _ _ h => h) (Or.inl ⟨by rfl, ?_⟩) hS ?_
  rotate_left
  · intro w2 hw2
    try dsimp only at hw2
    go_simp
    first | done | with_reducible rfl
  try simp only [Act.put, List.getElem_toArray, List.getElem_cons_succ, List.getElem_cons_zero, List.setIfInBounds_toArray, List.set_cons_zero, List.set_cons_succ]
  refine wpAnyT_take (i := 11) (v := ?_) rfl (by kernel_rfl) (fun _ _ _ h => h) (Or.inl ⟨by rfl, ?_⟩) hS ?_
  rotate_left
  · intro w2 hw2
    try dsimp only at hw2
    go_simp
    first | done | with_reducible rfl
  try simp only [Act.put, List.getElem_toArray, List.getElem_cons_succ, List.getElem_cons_zero, List.setIfInBounds_toArray, List.set_cons_zero, List.set_cons_succ]
  refine wpAnyT_take (i := 12) (v := ?_) rfl (by kernel_rfl) (fun _ _ _ h => h) (Or.inl ⟨by rfl, ?_⟩) hS ?_
  rotate_left
  · intro w2 hw2
    try dsimp only at hw2
    go_simp
    first | done | with_reducible rfl
  try simp only [Act.put, List.getElem_toArray, List.getElem_cons_succ, List.getElem_cons_zero, List.setIfInBounds_toArray, List.set_cons_zero, List.set_cons_succ]
  refine wpAnyT_take (i := 13) (v := ?_) rfl (by kernel_rfl) (fun _ _ _ h => h) (Or.inl ⟨by rfl, ?_⟩) hS ?_
  rotate_left
  · intro w2 hw2
    try dsimp only at hw2
    go_simp
    first | done | with_reducible rfl
  try simp only [Act.put, List.getElem_toArray, List.getElem_cons_succ, List.getElem_cons_zero, List.setIfInBounds_toArray, List.set_cons_zero, List.set_cons_succ]
  refine wpAnyT_take (i := 14) (v := ?_) rfl (by kernel_rfl) (fun _ _ _ h => h) (Or.inl ⟨by rfl, ?_⟩) hS ?_
  rotate_left
  · intro w2 hw2
    try dsimp only at hw2
    go_simp
    first | done | with_reducible rfl
  try simp only [Act.put, List.getElem_toArray, List.getElem_cons_succ, List.getElem_cons_zero, List.setIfInBounds_toArray, List.set_cons_zero, List.set_cons_succ]
  refine wpAnyT_take (i := 15) (v := ?_) rfl (by kernel_rfl) (fun _ _ _ h => h) (Or.inl ⟨by rfl, ?_⟩) hS ?_
  rotate_left
  · intro w2 hw2
    try dsimp only at hw2
    go_simp
    first | done | with_reducible rfl
  try simp only [Act.put, List.getElem_toArray, List.getElem_cons_succ, List.getElem_cons_zero, List.setIfInBounds_toArray, List.set_cons_zero, List.set_cons_succ]
  clear hS
  refine wpAnyT_gate rfl (by kernel_rfl) (fun K hK => ?_)
  go_simp
  refine (HC.out _).mono ?_
  rintro e w' ⟨rfl, rfl⟩
  refine hK.out _ _ ?_
  clear hK K HC
  refine hide_any (X := fun W => Hid (RS w g l0 m z W) ∧ Hid (RT g W)) ⟨Lib.hid ⟨HS.out.1, HS.out.2.1, HS.out.2.2.1, below_drew HS.out.2.2.2 1⟩, Lib.hid HT.out⟩ ?_
  clear HS HT W
  rintro W ⟨HS, HT⟩
  refine wpAny_take (i := 17) (v := ?_) rfl (by kernel_rfl) (by kernel_rfl) (by kernel_rfl) (fun _ _ _ h => h) (Or.inl ⟨by rfl, ?_⟩) ?_
  rotate_left
  · intro w2
    go_simp
    first | done | with_reducible rfl
  try simp only [Act.put, List.getElem_toArray, List.getElem_cons_succ, List.getElem_cons_zero, List.setIfInBounds_toArray, List.set_cons_zero, List.set_cons_succ]
  refine wpAny_take (i := 18) (v := ?_) rfl (by kernel_rfl) (by kernel_rfl) (by kernel_rfl) (fun _ _ _ h => h) (Or.inl ⟨by rfl, ?_⟩) ?_
  rotate_left
  · intro w2
    go_simp
    first | done | with_reducible rfl
  try simp only [Act.put, List.getElem_toArray, List.getElem_cons_succ, List.getElem_cons_zero, List.setIfInBounds_toArray, List.set_cons_zero, List.set_cons_succ]
  refine wpAny_take (i := 19) (v := ?_) rfl (by kernel_rfl) (by kernel_rfl) (by kernel_rfl) (fun _ _ _ h => h) (Or.inl ⟨by rfl, ?_⟩) ?_
  rotate_left
  · intro w2
    go_simp
    first | done | with_reducible rfl
  try simp only [Act.put, List.getElem_toArray, List.getElem_cons_succ, List.getElem_cons_zero, List.setIfInBounds_toArray, List.set_cons_zero, List.set_cons_succ]
  refine wpAny_take (i := 20) (v := ?_) rfl (by kernel_rfl) (by kernel_rfl) (by kernel_rfl) (fun _ _ _ h => h) (Or.inl ⟨by rfl, ?_⟩) ?_
  rotate_left
  · intro w2
    go_simp
    first | done | with_reducible rfl
  try simp only [Act.put, List.getElem_toArray, List.getElem_cons_succ, List.getElem_cons_zero, List.setIfInBounds_toArray, List.set_cons_zero, List.set_cons_succ]
  refine wpAny_take (i := 21) (v := ?_) rfl (by kernel_rfl) (by kernel_rfl) (by kernel_rfl) (fun _ _ _ h => h) (Or.inl ⟨by rfl, ?_⟩) ?_
  rotate_left
  · intro w2
    go_simp
    first | done | with_reducible rfl
  try simp only [Act.put, List.getElem_toArray, List.getElem_cons_succ, List.getElem_cons_zero, List.setIfInBounds_toArray, List.set_cons_zero, List.set_cons_succ]
  refine wpAny_take (i := 22) (v := ?_) rfl (by kernel_rfl) (by kernel_rfl) (by kernel_rfl) (fun _ _ _ h => h) (Or.inl ⟨by rfl, ?_⟩) ?_
  rotate_left
  · intro w2
    go_simp
    first | done | with_reducible rfl
  try simp only [Act.put, List.getElem_toArray, List.getElem_cons_succ, List.getElem_cons_zero, List.setIfInBounds_toArray, List.set_cons_zero, List.set_cons_succ]
  have hcc := (HS.out.1.cell 1).trans (wl_at _ 1 (by first | omega | (simp; omega)))
  have hcf := HS.out.1.frozen 1
  refine wpAny_one (i := 23) rfl (by kernel_rfl) (fun K hK => ?_)
  go_simp
  refine hK.out _ _ ?_
  clear hK K hcc hcf
  try simp only [Act.put, List.getElem_toArray, List.getElem_cons_succ, List.getElem_cons_zero, List.setIfInBounds_toArray, List.set_cons_zero, List.set_cons_succ]
  refine hide_any (X := fun W => Hid (RS w g (l0.set 1 r0) m z W) ∧ Hid (RT g W)) ⟨Lib.hid (HS.out.set 1 r0 HG.out), Lib.hid (HT.out.set 1 _)⟩ ?_
  clear HS HT W
  rintro W ⟨HS, HT⟩
  refine wpAny_take (i := 24) (v := ?_) rfl (by kernel_rfl) (by kernel_rfl) (by kernel_rfl) (fun _ _ _ h => h) (Or.inl ⟨by rfl, ?_⟩) ?_
  rotate_left
  · intro w2
    go_simp
    first | done | with_reducible rfl
  try simp only [Act.put, List.getElem_toArray, List.getElem_cons_succ, List.getElem_cons_zero, List.setIfInBounds_toArray, List.set_cons_zero, List.set_cons_succ]
  have hcc := (HS.out.1.cell 5).trans (wl_at _ 5 (by first | omega | (simp; omega)))
  have hcf := HS.out.1.frozen 5
  refine wpAny_one (i := 25) rfl (by kernel_rfl) (fun K hK => ?_)
  go_simp
  refine hK.out _ _ ?_
  clear hK K hcc hcf
  try simp only [Act.put, List.getElem_toArray, List.getElem_cons_succ, List.getElem_cons_zero, List.setIfInBounds_toArray, List.set_cons_zero, List.set_cons_succ]
  refine hide_any (X := fun W => Hid (RS w g ((l0.set 1 r0).set 5 r1) m z W) ∧ Hid (RT g W)) ⟨Lib.hid (HS.out.set 5 r1 HG.out), Lib.hid (HT.out.set 5 _)⟩ ?_
  clear HS HT W
  rintro W ⟨HS, HT⟩
  refine wpAny_take (i := 26) (v := ?_) rfl (by kernel_rfl) (by kernel_rfl) (by kernel_rfl) (fun _ _ _ h => h) (Or.inl ⟨by rfl, ?_⟩) ?_
  rotate_left
  · intro w2
    go_simp
    first | done | with_reducible rfl
  try simp only [Act.put, List.getElem_toArray, List.getElem_cons_succ, List.getElem_cons_zero, List.setIfInBounds_toArray, List.set_cons_zero, List.set_cons_succ]
  have hcc := (HS.out.1.cell 9).trans (wl_at _ 9 (by first | omega | (simp; omega)))
  have hcf := HS.out.1.frozen 9
  refine wpAny_one (i := 27) rfl (by kernel_rfl) (fun K hK => ?_)
  go_simp
  refine hK.out _ _ ?_
  clear hK K hcc hcf
  try simp only [Act.put, List.getElem_toArray, List.getElem_cons_succ, List.getElem_cons_zero, List.setIfInBounds_toArray, List.set_cons_zero, List.set_cons_succ]
  refine hide_any (X := fun W => Hid (RS w g (((l0.set 1 r0).set 5 r1).set 9 r2) m z W) ∧ Hid (RT g W)) ⟨Lib.hid (HS.out.set 9 r2 HG.out), Lib.hid (HT.out.set 9 _)⟩ ?_
  clear HS HT W
  rintro W ⟨HS, HT⟩
  refine wpAny_take (i := 28) (v := ?_) rfl (by kernel_rfl) (by kernel_rfl) (by kernel_rfl) (fun _ _ _ h => h) (Or.inl ⟨by rfl, ?_⟩) ?_
  rotate_left
  · intro w2
    go_simp
    first | done | with_reducible rfl
  try simp only [Act.put, List.getElem_toArray, List.getElem_cons_succ, List.getElem_cons_zero, List.setIfInBounds_toArray, List.set_cons_zero, List.set_cons_succ]
  have hcc := (HS.out.1.cell 13).trans (wl_at _ 13 (by first | omega | (simp; omega)))
  have hcf := HS.out.1.frozen 13
  refine wpAny_one (i := 29) rfl (by kernel_rfl) (fun K hK => ?_)
  go_simp
  refine hK.out _ _ ?_
  clear hK K hcc hcf
  try simp only [Act.put, List.getElem_toArray, List.getElem_cons_succ, List.getElem_cons_zero, List.setIfInBounds_toArray, List.set_cons_zero, List.set_cons_succ]
  refine hide_any (X := fun W => Hid (RS w g ((((l0.set 1 r0).set 5 r1).set 9 r2).set 13 r3) m z W) ∧ Hid (RT g W)) ⟨Lib.hid (HS.out.set 13 r3 HG.out), Lib.hid (HT.out.set 13 _)⟩ ?_
  clear HS HT W
  rintro W ⟨HS, HT⟩
  refine wpAny_done (by kernel_rfl) ?_ _
  obtain ⟨l1, hl1⟩ : ∃ l', (((l0.set 1 r0).set 5 r1).set 9 r2).set 13 r3 = l' := ⟨_, rfl⟩
  have hlen : l1.length = 16 := by rw [← hl1]; simpa using hl
  rw [hl1] at HS HE1
  clear hl1 hl
  have hl := hlen
  clear hlen hi0 hi1
  go_wp2_with fail
  obtain ⟨n0, hi0', e0⟩ := hz' 4 (by decide)
  obtain ⟨n1, hi1', e1⟩ := hz' 5 (by decide)
  have hi0 : ((n0 : Nat) : Int) < 16 := by omega
  have hi1 : ((n1 : Nat) : Int) < 16 := by omega
  obtain ⟨a, ha⟩ : ∃ v, l1.getD 2 0 = v := ⟨_, rfl⟩
  obtain ⟨b, hb⟩ : ∃ v, l1.getD 6 0 = v := ⟨_, rfl⟩
  obtain ⟨c, hc⟩ : ∃ v, l1.getD 10 0 = v := ⟨_, rfl⟩
  obtain ⟨d, hd⟩ : ∃ v, l1.getD 14 0 = v := ⟨_, rfl⟩
  obtain ⟨x, hx⟩ : ∃ v, m.getD n0 0 = v := ⟨_, rfl⟩
  obtain ⟨y, hy⟩ : ∃ v, m.getD n1 0 = v := ⟨_, rfl⟩
  have hS : W.drew.cell? ⟨g, 2, none⟩ = some (.int .u32 a) ∧ W.drew.cell? ⟨g, 6, none⟩ = some (.int .u32 b) ∧ W.drew.cell? ⟨g, 10, none⟩ = some (.int .u32 c) ∧ W.drew.cell? ⟨g, 14, none⟩ = some (.int .u32 d)
      ∧ W.drew.cell? ⟨g + 1 + 1, 4, none⟩ = some (.int .u8 n0) ∧ W.drew.cell? ⟨g + 1 + 1, 5, none⟩ = some (.int .u8 n1) ∧ W.drew.cell? ⟨g + 1, n0, none⟩ = some (.int .u32 x) ∧ W.drew.cell? ⟨g + 1, n1, none⟩ = some (.int .u32 y) := by
    obtain ⟨h1, h2, h3, -⟩ := HS.out
    refine ⟨?_, ?_, ?_, ?_, ?_, ?_, ?_, ?_⟩
    · exact (h1.cell 2).trans (by rw [wl_at l1 2 (by omega), ha])
    · exact (h1.cell 6).trans (by rw [wl_at l1 6 (by omega), hb])
    · exact (h1.cell 10).trans (by rw [wl_at l1 10 (by omega), hc])
    · exact (h1.cell 14).trans (by rw [wl_at l1 14 (by omega), hd])
    · exact (h3.cell 4).trans (by rw [zl_at z 4 (by omega), e0])
    · exact (h3.cell 5).trans (by rw [zl_at z 5 (by omega), e1])
    · exact (h2.cell n0).trans (by rw [wl_at m n0 (by omega), hx])
    · exact (h2.cell n1).trans (by rw [wl_at m n1 (by omega), hy])
  obtain ⟨r, hr⟩ : ∃ r, qq a b c d x y = r := ⟨_, rfl⟩
  have HC := Lib.hid (fun W => mix_any a b c d x y W)
  rw [hr] at HC
  obtain ⟨r0, r1, r2, r3⟩ := r
  dsimp only at HC
  have HE2 : Hid (gg l1 2 6 10 14 (ix m z 4) (ix m z 5) = (((l1.set 2 r0).set 6 r1).set 10 r2).set 14 r3) := Lib.hid (by
    unfold gg ix
    rw [e0, e1, Int.toNat_natCast, Int.toNat_natCast, hx, hy, ha, hb, hc, hd, hr])
  clear hr ha hb hc hd hx hy e0 e1 hi0' hi1'
  refine wp_region_T 16 (fun W => W.cell? ⟨g, 2, none⟩ = some (.int .u32 a) ∧ W.cell? ⟨g, 6, none⟩ = some (.int .u32 b) ∧ W.cell? ⟨g, 10, none⟩ = some (.int .u32 c) ∧ W.cell? ⟨g, 14, none⟩ = some (.int .u32 d)
      ∧ W.cell? ⟨g + 1 + 1, 4, none⟩ = some (.int .u8 n0) ∧ W.cell? ⟨g + 1 + 1, 5, none⟩ = some (.int .u8 n1) ∧ W.cell? ⟨g + 1, n0, none⟩ = some (.int .u32 x) ∧ W.cell? ⟨g + 1, n1, none⟩ = some (.int .u32 y)) (by kernel_rfl) ?_
  refine wpAnyT_take (i := 0) (v := ?_) rfl (by kernel_rfl) (fun _ _ _ h => h) (Or.inl ⟨by rfl, ?_⟩) hS ?_
  rotate_left
  · intro w2 hw2
    try dsimp only at hw2
    go_simp
    first | done | with_reducible rfl
  try simp only [Act.put, List.getElem_toArray, List.getElem_cons_zero, List.setIfInBounds_toArray, List.set_cons_zero, List.set_cons_succ]
  refine wpAnyT_take (i := 1) (v := ?_) rfl (by kernel_rfl) (fun _ _ _ h => h) (Or.inl ⟨by rfl, ?_⟩) hS ?_
  rotate_left
  · intro w2 hw2
    try dsimp only at hw2
    go_simp
    first | done | with_reducible rfl
  try simp only [Act.put, List.getElem_toArray, List.getElem_cons_succ, List.getElem_cons_zero, List.setIfInBounds_toArray, List.set_cons_zero, List.set_cons_succ]
  refine wpAnyT_take (i := 2) (v := ?_) rfl (by kernel_rfl) (fun _ _ _ h => h) (Or.inl ⟨by rfl, ?_⟩) hS ?_
  rotate_left
  · intro w2 hw2
    try dsimp only at hw2
    go_simp
    first | done | with_reducible rfl
  try simp only [Act.put, List.getElem_toArray, List.getElem_cons_succ, List.getElem_cons_zero, List.setIfInBounds_toArray, List.set_cons_zero, List.set_cons_succ]
  refine wpAnyT_take (i := 3) (v := ?_) rfl (by kernel_rfl) (fun _ _ _ h => h) (Or.inl ⟨by rfl, ?_⟩) hS ?_
  rotate_left
  · intro w2 hw2
    try dsimp only at hw2
    go_simp
    first | done | with_reducible rfl
  try simp only [Act.put, List.getElem_toArray, List.getElem_cons_succ, List.getElem_cons_zero, List.setIfInBounds_toArray, List.set_cons_zero, List.set_cons_succ]
  refine wpAnyT_take (i := 4) (v := ?_) rfl (by kernel_rfl) (fun _ _ _ h => h) (Or.inl ⟨by rfl, ?_⟩) hS ?_
  rotate_left
  · intro w2 hw2
    try dsimp only at hw2
    go_simp
    first | done | with_reducible rfl
  try simp only [Act.put, List.getElem_toArray, List.getElem_cons_succ, List.getElem_cons_zero, List.setIfInBounds_toArray, List.set_cons_zero, List.set_cons_succ]
  refine wpAnyT_take (i := 5) (v := ?_) rfl (by kernel_rfl) (fun _ _ _ h => h) (Or.inl ⟨by rfl, ?_⟩) hS ?_
  rotate_left
  · intro w2 hw2
    try dsimp only at hw2
    go_simp
    first | done | with_reducible rfl
  try simp only [Act.put, List.getElem_toArray, List.getElem_cons_succ, List.getElem_cons_zero, List.setIfInBounds_toArray, List.set_cons_zero, List.set_cons_succ]
  refine wpAnyT_take (i := 6) (v := ?_) rfl (by kernel_rfl) (fun _ _ _ h => h) (Or.inl ⟨by rfl, ?_⟩) hS ?_
  rotate_left
  · intro w2 hw2
    try dsimp only at hw2
    go_simp
    first | done | with_reducible rfl
  try simp only [Act.put, List.getElem_toArray, List.getElem_cons_succ, List.getElem_cons_zero, List.setIfInBounds_toArray, List.set_cons_zero, List.set_cons_succ]
  refine wpAnyT_take (i := 7) (v := ?_) rfl (by kernel_rfl) (fun _ _ _ h => h) (Or.inl ⟨by rfl, ?_⟩) hS ?_
  rotate_left
  · intro w2 hw2
    try dsimp only at hw2
    go_simp
    first | done | with_reducible rfl
  try simp only [Act.put, List.getElem_toArray, List.getElem_cons_succ, List.getElem_cons_zero, List.setIfInBounds_toArray, List.set_cons_zero, List.set_cons_succ]
  refine wpAnyT_take (i := 8) (v := ?_) rfl (by kernel_rfl) (fun _ _ _ h => h) (Or.inl ⟨by rfl, ?_⟩) hS ?_
  rotate_left
  · intro w2 hw2
    try dsimp only at hw2
    go_simp
    first | done | with_reducible rfl
  try simp only [Act.put, List.getElem_toArray, List.getElem_cons_succ, List.getElem_cons_zero, List.setIfInBounds_toArray, List.set_cons_zero, List.set_cons_succ]
  refine wpAnyT_take (i := 9) (v := ?_) rfl (by kernel_rfl) (fun _ _ _ h => h) (Or.inl ⟨by rfl, ?_⟩) hS ?_
  rotate_left
  · intro w2 hw2
    try dsimp only at hw2
    go_simp
    first | done | with_reducible rfl
  try simp only [Act.put, List.getElem_toArray, List.getElem_cons_succ, List.getElem_cons_zero, List.setIfInBounds_toArray, List.set_cons_zero, List.set_cons_succ]
  refine wpAnyT_take (i := 10) (v := ?_) rfl (by kernel_rfl) (fun _ _ _ h => h) (Or.inl ⟨by rfl, ?_⟩) hS ?_
  rotate_left
  · intro w2 hw2
    try dsimp only at hw2
    go_simp
    first | done | with_reducible rfl
  try simp only [Act.put, List.getElem_toArray, List.getElem_cons_succ, List.getElem_cons_zero, List.setIfInBounds_toArray, List.set_cons_zero, List.set_cons_succ]
  refine wpAnyT_take (i := 11) (v := ?_) rfl (by kernel_rfl) (fun _ _ _ h => h) (Or.inl ⟨by rfl, ?_⟩) hS ?_
  rotate_left
  · intro w2 hw2
    try dsimp only at hw2
    go_simp
    first | done | with_reducible rfl
  try simp only [Act.put, List.getElem_toArray, List.getElem_cons_succ, List.getElem_cons_zero, List.setIfInBounds_toArray, List.set_cons_zero, List.set_cons_succ]
  refine wpAnyT_take (i := 12) (v := ?_) rfl (by kernel_rfl) (fun _ _ _ h => h) (Or.inl ⟨by rfl, ?_⟩) hS ?_
  rotate_left
  · intro w2 hw2
    try dsimp only at hw2
    go_simp
    first | done | with_reducible rfl
  try simp only [Act.put, List.getElem_toArray, List.getElem_cons_succ, List.getElem_cons_zero, List.setIfInBounds_toArray, List.set_cons_zero, List.set_cons_succ]
  refine wpAnyT_take (i := 13) (v := ?_) rfl (by kernel_rfl) (fun _ _ _ h => h) (Or.inl ⟨by rfl, ?_⟩) hS ?_
  rotate_left
  · intro w2 hw2
    try dsimp only at hw2
    go_simp
    first | done | with_reducible rfl
  try simp only [Act.put, List.getElem_toArray, List.getElem_cons_succ, List.getElem_cons_zero, List.setIfInBounds_toArray, List.set_cons_zero, List.set_cons_succ]
  refine wpAnyT_take (i := 14) (v := ?_) rfl (by kernel_rfl) (fun _ _ _ h => h) (Or.inl ⟨by rfl, ?_⟩) hS ?_
  rotate_left
  · intro w2 hw2
    try dsimp only at hw2
    go_simp
    first | done | with_reducible rfl
  try simp only [Act.put, List.getElem_toArray, List.getElem_cons_succ, List.getElem_cons_zero, List.setIfInBounds_toArray, List.set_cons_zero, List.set_cons_succ]
  refine wpAnyT_take (i := 15) (v := ?_) rfl (by kernel_rfl) (fun _ _ _ h => h) (Or.inl ⟨by rfl, ?_⟩) hS ?_
  rotate_left
  · intro w2 hw2
    try dsimp only at hw2
    go_simp
    first | done | with_reducible rfl
  try simp only [Act.put, List.getElem_toArray, List.getElem_cons_succ, List.getElem_cons_zero, List.setIfInBounds_toArray, List.set_cons_zero, List.set_cons_succ]
  clear hS
  refine wpAnyT_gate rfl (by kernel_rfl) (fun K hK => ?_)
  go_simp
  refine (HC.out _).mono ?_
  rintro e w' ⟨rfl, rfl⟩
  refine hK.out _ _ ?_
  clear hK K HC
  refine hide_any (X := fun W => Hid (RS w g l1 m z W) ∧ Hid (RT g W)) ⟨Lib.hid ⟨HS.out.1, HS.out.2.1, HS.out.2.2.1, below_drew HS.out.2.2.2 1⟩, Lib.hid HT.out⟩ ?_
  clear HS HT W
  rintro W ⟨HS, HT⟩
  refine wpAny_take (i := 17) (v := ?_) rfl (by kernel_rfl) (by kernel_rfl) (by kernel_rfl) (fun _ _ _ h => h) (Or.inl ⟨by rfl, ?_⟩) ?_
  rotate_left
  · intro w2
    go_simp
    first | done | with_reducible rfl
  try simp only [Act.put, List.getElem_toArray, List.getElem_cons_succ, List.getElem_cons_zero, List.setIfInBounds_toArray, List.set_cons_zero, List.set_cons_succ]
  refine wpAny_take (i := 18) (v := ?_) rfl (by kernel_rfl) (by kernel_rfl) (by kernel_rfl) (fun _ _ _ h => h) (Or.inl ⟨by rfl, ?_⟩) ?_
  rotate_left
  · intro w2
    go_simp
    first | done | with_reducible rfl
  try simp only [Act.put, List.getElem_toArray, List.getElem_cons_succ, List.getElem_cons_zero, List.setIfInBounds_toArray, List.set_cons_zero, List.set_cons_succ]
  refine wpAny_take (i := 19) (v := ?_) rfl (by kernel_rfl) (by kernel_rfl) (by kernel_rfl) (fun _ _ _ h => h) (Or.inl ⟨by rfl, ?_⟩) ?_
  rotate_left
  · intro w2
    go_simp
    first | done | with_reducible rfl
  try simp only [Act.put, List.getElem_toArray, List.getElem_cons_succ, List.getElem_cons_zero, List.setIfInBounds_toArray, List.set_cons_zero, List.set_cons_succ]
  refine wpAny_take (i := 20) (v := ?_) rfl (by kernel_rfl) (by kernel_rfl) (by kernel_rfl) (fun _ _ _ h => h) (Or.inl ⟨by rfl, ?_⟩) ?_
  rotate_left
  · intro w2
    go_simp
    first | done | with_reducible rfl
  try simp only [Act.put, List.getElem_toArray, List.getElem_cons_succ, List.getElem_cons_zero, List.setIfInBounds_toArray, List.set_cons_zero, List.set_cons_succ]
  refine wpAny_take (i := 21) (v := ?_) rfl (by kernel_rfl) (by kernel_rfl) (by kernel_rfl) (fun _ _ _ h => h) (Or.inl ⟨by rfl, ?_⟩) ?_
  rotate_left
  · intro w2
    go_simp
    first | done | with_reducible rfl
  try simp only [Act.put, List.getElem_toArray, List.getElem_cons_succ, List.getElem_cons_zero, List.setIfInBounds_toArray, List.set_cons_zero, List.set_cons_succ]
  refine wpAny_take (i := 22) (v := ?_) rfl (by kernel_rfl) (by kernel_rfl) (by kernel_rfl) (fun _ _ _ h => h) (Or.inl ⟨by rfl, ?_⟩) ?_
  rotate_left
  · intro w2
    go_simp
    first | done | with_reducible rfl
  try simp only [Act.put, List.getElem_toArray, List.getElem_cons_succ, List.getElem_cons_zero, List.setIfInBounds_toArray, List.set_cons_zero, List.set_cons_succ]
  have hcc := (HS.out.1.cell 2).trans (wl_at _ 2 (by first | omega | (simp; omega)))
  have hcf := HS.out.1.frozen 2
  refine wpAny_one (i := 23) rfl (by kernel_rfl) (fun K hK => ?_)
  go_simp
  refine hK.out _ _ ?_
  clear hK K hcc hcf
  try simp only [Act.put, List.getElem_toArray, List.getElem_cons_succ, List.getElem_cons_zero, List.setIfInBounds_toArray, List.set_cons_zero, List.set_cons_succ]
  refine hide_any (X := fun W => Hid (RS w g (l1.set 2 r0) m z W) ∧ Hid (RT g W)) ⟨Lib.hid (HS.out.set 2 r0 HG.out), Lib.hid (HT.out.set 2 _)⟩ ?_
  clear HS HT W
  rintro W ⟨HS, HT⟩
  refine wpAny_take (i := 24) (v := ?_) rfl (by kernel_rfl) (by kernel_rfl) (by kernel_rfl) (fun _ _ _ h => h) (Or.inl ⟨by rfl, ?_⟩) ?_
  rotate_left
  · intro w2
    go_simp
    first | done | with_reducible rfl
  try simp only [Act.put, List.getElem_toArray, List.getElem_cons_succ, List.getElem_cons_zero, List.setIfInBounds_toArray, List.set_cons_zero, List.set_cons_succ]
  have hcc := (HS.out.1.cell 6).trans (wl_at _ 6 (by first | omega | (simp; omega)))
  have hcf := HS.out.1.frozen 6
  refine wpAny_one (i := 25) rfl (by kernel_rfl) (fun K hK => ?_)
  go_simp
  refine hK.out _ _ ?_
  clear hK K hcc hcf
  try simp only [Act.put, List.getElem_toArray, List.getElem_cons_succ, List.getElem_cons_zero, List.setIfInBounds_toArray, List.set_cons_zero, List.set_cons_succ]
  refine hide_any (X := fun W => Hid (RS w g ((l1.set 2 r0).set 6 r1) m z W) ∧ Hid (RT g W)) ⟨Lib.hid (HS.out.set 6 r1 HG.out), Lib.hid (HT.out.set 6 _)⟩ ?_
  clear HS HT W
  rintro W ⟨HS, HT⟩
  refine wpAny_take (i := 26) (v := ?_) rfl (by kernel_rfl) (by kernel_rfl) (by kernel_rfl) (fun _ _ _ h => h) (Or.inl ⟨by rfl, ?_⟩) ?_
  rotate_left
  · intro w2
    go_simp
    first | done | with_reducible rfl
  try simp only [Act.put, List.getElem_toArray, List.getElem_cons_succ, List.getElem_cons_zero, List.setIfInBounds_toArray, List.set_cons_zero, List.set_cons_succ]
  have hcc := (HS.out.1.cell 10).trans (wl_at _ 10 (by first | omega | (simp; omega)))
  have hcf := HS.out.1.frozen 10
  refine wpAny_one (i := 27) rfl (by kernel_rfl) (fun K hK => ?_)
  go_simp
  refine hK.out _ _ ?_
  clear hK K hcc hcf
  try simp only [Act.put, List.getElem_toArray, List.getElem_cons_succ, List.getElem_cons_zero, List.setIfInBounds_toArray, List.set_cons_zero, List.set_cons_succ]
  refine hide_any (X := fun W => Hid (RS w g (((l1.set 2 r0).set 6 r1).set 10 r2) m z W) ∧ Hid (RT g W)) ⟨Lib.hid (HS.out.set 10 r2 HG.out), Lib.hid (HT.out.set 10 _)⟩ ?_
  clear HS HT W
  rintro W ⟨HS, HT⟩
  refine wpAny_take (i := 28) (v := ?_) rfl (by kernel_rfl) (by kernel_rfl) (by kernel_rfl) (fun _ _ _ h => h) (Or.inl ⟨by rfl, ?_⟩) ?_
  rotate_left
  · intro w2
    go_simp
    first | done | with_reducible rfl
  try simp only [Act.put, List.getElem_toArray, List.getElem_cons_succ, List.getElem_cons_zero, List.setIfInBounds_toArray, List.set_cons_zero, List.set_cons_succ]
  have hcc := (HS.out.1.cell 14).trans (wl_at _ 14 (by first | omega | (simp; omega)))
  have hcf := HS.out.1.frozen 14
  refine wpAny_one (i := 29) rfl (by kernel_rfl) (fun K hK => ?_)
  go_simp
  refine hK.out _ _ ?_
  clear hK K hcc hcf
  try simp only [Act.put, List.getElem_toArray, List.getElem_cons_succ, List.getElem_cons_zero, List.setIfInBounds_toArray, List.set_cons_zero, List.set_cons_succ]
  refine hide_any (X := fun W => Hid (RS w g ((((l1.set 2 r0).set 6 r1).set 10 r2).set 14 r3) m z W) ∧ Hid (RT g W)) ⟨Lib.hid (HS.out.set 14 r3 HG.out), Lib.hid (HT.out.set 14 _)⟩ ?_
  clear HS HT W
  rintro W ⟨HS, HT⟩
  refine wpAny_done (by kernel_rfl) ?_ _
  obtain ⟨l2, hl2⟩ : ∃ l', (((l1.set 2 r0).set 6 r1).set 10 r2).set 14 r3 = l' := ⟨_, rfl⟩
  have hlen : l2.length = 16 := by rw [← hl2]; simpa using hl
  rw [hl2] at HS HE2
  clear hl2 hl
  have hl := hlen
  clear hlen hi0 hi1
  go_wp2_with fail
  obtain ⟨n0, hi0', e0⟩ := hz' 6 (by decide)
  obtain ⟨n1, hi1', e1⟩ := hz' 7 (by decide)
  have hi0 : ((n0 : Nat) : Int) < 16 := by omega
  have hi1 : ((n1 : Nat) : Int) < 16 := by omega
  obtain ⟨a, ha⟩ : ∃ v, l2.getD 3 0 = v := ⟨_, rfl⟩
  obtain ⟨b, hb⟩ : ∃ v, l2.getD 7 0 = v := ⟨_, rfl⟩
  obtain ⟨c, hc⟩ : ∃ v, l2.getD 11 0 = v := ⟨_, rfl⟩
  obtain ⟨d, hd⟩ : ∃ v, l2.getD 15 0 = v := ⟨_, rfl⟩
  obtain ⟨x, hx⟩ : ∃ v, m.getD n0 0 = v := ⟨_, rfl⟩
  obtain ⟨y, hy⟩ : ∃ v, m.getD n1 0 = v := ⟨_, rfl⟩
  have hS : W.drew.cell? ⟨g, 3, none⟩ = some (.int .u32 a) ∧ W.drew.cell? ⟨g, 7, none⟩ = some (.int .u32 b) ∧ W.drew.cell? ⟨g, 11, none⟩ = some (.int .u32 c) ∧ W.drew.cell? ⟨g, 15, none⟩ = some (.int .u32 d)
      ∧ W.drew.cell? ⟨g + 1 + 1, 6, none⟩ = some (.int .u8 n0) ∧ W.drew.cell? ⟨g + 1 + 1, 7, none⟩ = some (.int .u8 n1) ∧ W.drew.cell? ⟨g + 1, n0, none⟩ = some (.int .u32 x) ∧ W.drew.cell? ⟨g + 1, n1, none⟩ = some (.int .u32 y) := by
    obtain ⟨h1, h2, h3, -⟩ := HS.out
    refine ⟨?_, ?_, ?_, ?_, ?_, ?_, ?_, ?_⟩
    · exact (h1.cell 3).trans (by rw [wl_at l2 3 (by omega), ha])
    · exact (h1.cell 7).trans (by rw [wl_at l2 7 (by omega), hb])
    · exact (h1.cell 11).trans (by rw [wl_at l2 11 (by omega), hc])
    · exact (h1.cell 15).trans (by rw [wl_at l2 15 (by omega), hd])
    · exact (h3.cell 6).trans (by rw [zl_at z 6 (by omega), e0])
    · exact (h3.cell 7).trans (by rw [zl_at z 7 (by omega), e1])
    · exact (h2.cell n0).trans (by rw [wl_at m n0 (by omega), hx])
    · exact (h2.cell n1).trans (by rw [wl_at m n1 (by omega), hy])
  obtain ⟨r, hr⟩ : ∃ r, qq a b c d x y = r := ⟨_, rfl⟩
  have HC := Lib.hid (fun W => mix_any a b c d x y W)
  rw [hr] at HC
  obtain ⟨r0, r1, r2, r3⟩ := r
  dsimp only at HC
  have HE3 : Hid (gg l2 3 7 11 15 (ix m z 6) (ix m z 7) = (((l2.set 3 r0).set 7 r1).set 11 r2).set 15 r3) := Lib.hid (by
    unfold gg ix
    rw [e0, e1, Int.toNat_natCast, Int.toNat_natCast, hx, hy, ha, hb, hc, hd, hr])
  clear hr ha hb hc hd hx hy e0 e1 hi0' hi1'
  refine wp_region_T 16 (fun W => W.cell? ⟨g, 3, none⟩ = some (.int .u32 a) ∧ W.cell? ⟨g, 7, none⟩ = some (.int .u32 b) ∧ W.cell? ⟨g, 11, none⟩ = some (.int .u32 c) ∧ W.cell? ⟨g, 15, none⟩ = some (.int .u32 d)
      ∧ W.cell? ⟨g + 1 + 1, 6, none⟩ = some (.int .u8 n0) ∧ W.cell? ⟨g + 1 + 1, 7, none⟩ = some (.int .u8 n1) ∧ W.cell? ⟨g + 1, n0, none⟩ = some (.int .u32 x) ∧ W.cell? ⟨g + 1, n1, none⟩ = some (.int .u32 y)) (by kernel_rfl) ?_
  refine wpAnyT_take (i := 0) (v := ?_) rfl (by kernel_rfl) (fun _ _ _ h => h) (Or.inl ⟨by rfl, ?_⟩) hS ?_
  rotate_left
  · intro w2 hw2
    try dsimp only at hw2
    go_simp
    first | done | with_reducible rfl
  try simp only [Act.put, List.getElem_toArray, List.getElem_cons_zero, List.setIfInBounds_toArray, List.set_cons_zero, List.set_cons_succ]
  refine wpAnyT_take (i := 1) (v := ?_) rfl (by kernel_rfl) (fun _ _ _ h => h) (Or.inl ⟨by rfl, ?_⟩) hS ?_
  rotate_left
  · intro w2 hw2
    try dsimp only at hw2
    go_simp
    first | done | with_reducible rfl
  try simp only [Act.put, List.getElem_toArray, List.getElem_cons_succ, List.getElem_cons_zero, List.setIfInBounds_toArray, List.set_cons_zero, List.set_cons_succ]
  refine wpAnyT_take (i := 2) (v := ?_) rfl (by kernel_rfl) (fun _ _ _ h => h) (Or.inl ⟨by rfl, ?_⟩) hS ?_
  rotate_left
  · intro w2 hw2
    try dsimp only at hw2
    go_simp
    first | done | with_reducible rfl
  try simp only [Act.put, List.getElem_toArray, List.getElem_cons_succ, List.getElem_cons_zero, List.setIfInBounds_toArray, List.set_cons_zero, List.set_cons_succ]
  refine wpAnyT_take (i := 3) (v := ?_) rfl (by kernel_rfl) (fun _ _ _ h => h) (Or.inl ⟨by rfl, ?_⟩) hS ?_
  rotate_left
  · intro w2 hw2
    try dsimp only at hw2
    go_simp
    first | done | with_reducible rfl
  try simp only [Act.put, List.getElem_toArray, List.getElem_cons_succ, List.getElem_cons_zero, List.setIfInBounds_toArray, List.set_cons_zero, List.set_cons_succ]
  refine wpAnyT_take (i := 4) (v := ?_) rfl (by kernel_rfl) (fun _ _ _ h => h) (Or.inl ⟨by rfl, ?_⟩) hS ?_
  rotate_left
  · intro w2 hw2
    try dsimp only at hw2
    go_simp
    first | done | with_reducible rfl
  try simp only [Act.put, List.getElem_toArray, List.getElem_cons_succ, List.getElem_cons_zero, List.setIfInBounds_toArray, List.set_cons_zero, List.set_cons_succ]
  refine wpAnyT_take (i := 5) (v := ?_) rfl (by kernel_rfl) (fun _ _ _ h => h) (Or.inl ⟨by rfl, ?_⟩) hS ?_
  rotate_left
  · intro w2 hw2
    try dsimp only at hw2
    go_simp
    first | done | with_reducible rfl
  try simp only [Act.put, List.getElem_toArray, List.getElem_cons_succ, List.getElem_cons_zero, List.setIfInBounds_toArray, List.set_cons_zero, List.set_cons_succ]
  refine wpAnyT_take (i := 6) (v := ?_) rfl (by kernel_rfl) (fun _ _ _ h => h) (Or.inl ⟨by rfl, ?_⟩) hS ?_
  rotate_left
  · intro w2 hw2
    try dsimp only at hw2
    go_simp
    first | done | with_reducible rfl
  try simp only [Act.put, List.getElem_toArray, List.getElem_cons_succ, List.getElem_cons_zero, List.setIfInBounds_toArray, List.set_cons_zero, List.set_cons_succ]
  refine wpAnyT_take (i := 7) (v := ?_) rfl (by kernel_rfl) (fun _ _ _ h => h) (Or.inl ⟨by rfl, ?_⟩) hS ?_
  rotate_left
  · intro w2 hw2
    try dsimp only at hw2
    go_simp
    first | done | with_reducible rfl
  try simp only [Act.put, List.getElem_toArray, List.getElem_cons_succ, List.getElem_cons_zero, List.setIfInBounds_toArray, List.set_cons_zero, List.set_cons_succ]
  refine wpAnyT_take (i := 8) (v := ?_) rfl (by kernel_rfl) (fun _ _ _ h => h) (Or.inl ⟨by rfl, ?_⟩) hS ?_
  rotate_left
  · intro w2 hw2
    try dsimp only at hw2
    go_simp
    first | done | with_reducible rfl
  try simp only [Act.put, List.getElem_toArray, List.getElem_cons_succ, List.getElem_cons_zero, List.setIfInBounds_toArray, List.set_cons_zero, List.set_cons_succ]
  refine wpAnyT_take (i := 9) (v := ?_) rfl (by kernel_rfl) (fun _ _ _ h => h) (Or.inl ⟨by rfl, ?_⟩) hS ?_
  rotate_left
  · intro w2 hw2
    try dsimp only at hw2
    go_simp
    first | done | with_reducible rfl
  try simp only [Act.put, List.getElem_toArray, List.getElem_cons_succ, List.getElem_cons_zero, List.setIfInBounds_toArray, List.set_cons_zero, List.set_cons_succ]
  refine wpAnyT_take (i := 10) (v := ?_) rfl (by kernel_rfl) (fun _ _ _ h => h) (Or.inl ⟨by rfl, ?_⟩) hS ?_
  rotate_left
  · intro w2 hw2
    try dsimp only at hw2
    go_simp
    first | done | with_reducible rfl
  try simp only [Act.put, List.getElem_toArray, List.getElem_cons_succ, List.getElem_cons_zero, List.setIfInBounds_toArray, List.set_cons_zero, List.set_cons_succ]
  refine wpAnyT_take (i := 11) (v := ?_) rfl (by kernel_rfl) (fun _ _ _ h => h) (Or.inl ⟨by rfl, ?_⟩) hS ?_
  rotate_left
  · intro w2 hw2
    try dsimp only at hw2
    go_simp
    first | done | with_reducible rfl
  try simp only [Act.put, List.getElem_toArray, List.getElem_cons_succ, List.getElem_cons_zero, List.setIfInBounds_toArray, List.set_cons_zero, List.set_cons_succ]
  refine wpAnyT_take (i := 12) (v := ?_) rfl (by kernel_rfl) (fun _ _ _ h => h) (Or.inl ⟨by rfl, ?_⟩) hS ?_
  rotate_left
  · intro w2 hw2
    try dsimp only at hw2
    go_simp
    first | done | with_reducible rfl
  try simp only [Act.put, List.getElem_toArray, List.getElem_cons_succ, List.getElem_cons_zero, List.setIfInBounds_toArray, List.set_cons_zero, List.set_cons_succ]
  refine wpAnyT_take (i := 13) (v := ?_) rfl (by kernel_rfl) (fun _ _ _ h => h) (Or.inl ⟨by rfl, ?_⟩) hS ?_
  rotate_left
  · intro w2 hw2
    try dsimp only at hw2
    go_simp
    first | done | with_reducible rfl
  try simp only [Act.put, List.getElem_toArray, List.getElem_cons_succ, List.getElem_cons_zero, List.setIfInBounds_toArray, List.set_cons_zero, List.set_cons_succ]
  refine wpAnyT_take (i := 14) (v := ?_) rfl (by kernel_rfl) (fun _ _ _ h => h) (Or.inl ⟨by rfl, ?_⟩) hS ?_
  rotate_left
  · intro w2 hw2
    try dsimp only at hw2
    go_simp
    first | done | with_reducible rfl
  try simp only [Act.put, List.getElem_toArray, List.getElem_cons_succ, List.getElem_cons_zero, List.setIfInBounds_toArray, List.set_cons_zero, List.set_cons_succ]
  refine wpAnyT_take (i := 15) (v := ?_) rfl (by kernel_rfl) (fun _ _ _ h => h) (Or.inl ⟨by rfl, ?_⟩) hS ?_
  rotate_left
  · intro w2 hw2
    try dsimp only at hw2
    go_simp
    first | done | with_reducible rfl
  try simp only [Act.put, List.getElem_toArray, List.getElem_cons_succ, List.getElem_cons_zero, List.setIfInBounds_toArray, List.set_cons_zero, List.set_cons_succ]
  clear hS
  refine wpAnyT_gate rfl (by kernel_rfl) (fun K hK => ?_)
  go_simp
  refine (HC.out _).mono ?_
  rintro e w' ⟨rfl, rfl⟩
  refine hK.out _ _ ?_
  clear hK K HC
  refine hide_any (X := fun W => Hid (RS w g l2 m z W) ∧ Hid (RT g W)) ⟨Lib.hid ⟨HS.out.1, HS.out.2.1, HS.out.2.2.1, below_drew HS.out.2.2.2 1⟩, Lib.hid HT.out⟩ ?_
  clear HS HT W
  rintro W ⟨HS, HT⟩
  refine wpAny_take (i := 17) (v := ?_) rfl (by kernel_rfl) (by kernel_rfl) (by kernel_rfl) (fun _ _ _ h => h) (Or.inl ⟨by rfl, ?_⟩) ?_
  rotate_left
  · intro w2
    go_simp
    first | done | with_reducible rfl
  try simp only [Act.put, List.getElem_toArray, List.getElem_cons_succ, List.getElem_cons_zero, List.setIfInBounds_toArray, List.set_cons_zero, List.set_cons_succ]
  refine wpAny_take (i := 18) (v := ?_) rfl (by kernel_rfl) (by kernel_rfl) (by kernel_rfl) (fun _ _ _ h => h) (Or.inl ⟨by rfl, ?_⟩) ?_
  rotate_left
  · intro w2
    go_simp
    first | done | with_reducible rfl
  try simp only [Act.put, List.getElem_toArray, List.getElem_cons_succ, List.getElem_cons_zero, List.setIfInBounds_toArray, List.set_cons_zero, List.set_cons_succ]
  refine wpAny_take (i := 19) (v := ?_) rfl (by kernel_rfl) (by kernel_rfl) (by kernel_rfl) (fun _ _ _ h => h) (Or.inl ⟨by rfl, ?_⟩) ?_
  rotate_left
  · intro w2
    go_simp
    first | done | with_reducible rfl
  try simp only [Act.put, List.getElem_toArray, List.getElem_cons_succ, List.getElem_cons_zero, List.setIfInBounds_toArray, List.set_cons_zero, List.set_cons_succ]
  refine wpAny_take (i := 20) (v := ?_) rfl (by kernel_rfl) (by kernel_rfl) (by kernel_rfl) (fun _ _ _ h => h) (Or.inl ⟨by rfl, ?_⟩) ?_
  rotate_left
  · intro w2
    go_simp
    first | done | with_reducible rfl
  try simp only [Act.put, List.getElem_toArray, List.getElem_cons_succ, List.getElem_cons_zero, List.setIfInBounds_toArray, List.set_cons_zero, List.set_cons_succ]
  refine wpAny_take (i := 21) (v := ?_) rfl (by kernel_rfl) (by kernel_rfl) (by kernel_rfl) (fun _ _ _ h => h) (Or.inl ⟨by rfl, ?_⟩) ?_
  rotate_left
  · intro w2
    go_simp
    first | done | with_reducible rfl
  try simp only [Act.put, List.getElem_toArray, List.getElem_cons_succ, List.getElem_cons_zero, List.setIfInBounds_toArray, List.set_cons_zero, List.set_cons_succ]
  refine wpAny_take (i := 22) (v := ?_) rfl (by kernel_rfl) (by kernel_rfl) (by kernel_rfl) (fun _ _ _ h => h) (Or.inl ⟨by rfl, ?_⟩) ?_
  rotate_left
  · intro w2
    go_simp
    first | done | with_reducible rfl
  try simp only [Act.put, List.getElem_toArray, List.getElem_cons_succ, List.getElem_cons_zero, List.setIfInBounds_toArray, List.set_cons_zero, List.set_cons_succ]
  have hcc := (HS.out.1.cell 3).trans (wl_at _ 3 (by first | omega | (simp; omega)))
  have hcf := HS.out.1.frozen 3
  refine wpAny_one (i := 23) rfl (by kernel_rfl) (fun K hK => ?_)
  go_simp
  refine hK.out _ _ ?_
  clear hK K hcc hcf
  try simp only [Act.put, List.getElem_toArray, List.getElem_cons_succ, List.getElem_cons_zero, List.setIfInBounds_toArray, List.set_cons_zero, List.set_cons_succ]
  refine hide_any (X := fun W => Hid (RS w g (l2.set 3 r0) m z W) ∧ Hid (RT g W)) ⟨Lib.hid (HS.out.set 3 r0 HG.out), Lib.hid (HT.out.set 3 _)⟩ ?_
  clear HS HT W
  rintro W ⟨HS, HT⟩
  refine wpAny_take (i := 24) (v := ?_) rfl (by kernel_rfl) (by kernel_rfl) (by kernel_rfl) (fun _ _ _ h => h) (Or.inl ⟨by rfl, ?_⟩) ?_
  rotate_left
  · intro w2
    go_simp
    first | done | with_reducible rfl
  try simp only [Act.put, List.getElem_toArray, List.getElem_cons_succ, List.getElem_cons_zero, List.setIfInBounds_toArray, List.set_cons_zero, List.set_cons_succ]
  have hcc := (HS.out.1.cell 7).trans (wl_at _ 7 (by first | omega | (simp; omega)))
  have hcf := HS.out.1.frozen 7
  refine wpAny_one (i := 25) rfl (by kernel_rfl) (fun K hK => ?_)
  go_simp
  refine hK.out _ _ ?_
  clear hK K hcc hcf
  try simp only [Act.put, List.getElem_toArray, List.getElem_cons_succ, List.getElem_cons_zero, List.setIfInBounds_toArray, List.set_cons_zero, List.set_cons_succ]
  refine hide_any (X := fun W => Hid (RS w g ((l2.set 3 r0).set 7 r1) m z W) ∧ Hid (RT g W)) ⟨Lib.hid (HS.out.set 7 r1 HG.out), Lib.hid (HT.out.set 7 _)⟩ ?_
  clear HS HT W
  rintro W ⟨HS, HT⟩
  refine wpAny_take (i := 26) (v := ?_) rfl (by kernel_rfl) (by kernel_rfl) (by kernel_rfl) (fun _ _ _ h => h) (Or.inl ⟨by rfl, ?_⟩) ?_
  rotate_left
  · intro w2
    go_simp
    first | done | with_reducible rfl
  try simp only [Act.put, List.getElem_toArray, List.getElem_cons_succ, List.getElem_cons_zero, List.setIfInBounds_toArray, List.set_cons_zero, List.set_cons_succ]
  have hcc := (HS.out.1.cell 11).trans (wl_at _ 11 (by first | omega | (simp; omega)))
  have hcf := HS.out.1.frozen 11
  refine wpAny_one (i := 27) rfl (by kernel_rfl) (fun K hK => ?_)
  go_simp
  refine hK.out _ _ ?_
  clear hK K hcc hcf
  try simp only [Act.put, List.getElem_toArray, List.getElem_cons_succ, List.getElem_cons_zero, List.setIfInBounds_toArray, List.set_cons_zero, List.set_cons_succ]
  refine hide_any (X := fun W => Hid (RS w g (((l2.set 3 r0).set 7 r1).set 11 r2) m z W) ∧ Hid (RT g W)) ⟨Lib.hid (HS.out.set 11 r2 HG.out), Lib.hid (HT.out.set 11 _)⟩ ?_
  clear HS HT W
  rintro W ⟨HS, HT⟩
  refine wpAny_take (i := 28) (v := ?_) rfl (by kernel_rfl) (by kernel_rfl) (by kernel_rfl) (fun _ _ _ h => h) (Or.inl ⟨by rfl, ?_⟩) ?_
  rotate_left
  · intro w2
    go_simp
    first | done | with_reducible rfl
  try simp only [Act.put, List.getElem_toArray, List.getElem_cons_succ, List.getElem_cons_zero, List.setIfInBounds_toArray, List.set_cons_zero, List.set_cons_succ]
  have hcc := (HS.out.1.cell 15).trans (wl_at _ 15 (by first | omega | (simp; omega)))
  have hcf := HS.out.1.frozen 15
  refine wpAny_one (i := 29) rfl (by kernel_rfl) (fun K hK => ?_)
  go_simp
  refine hK.out _ _ ?_
  clear hK K hcc hcf
  try simp only [Act.put, List.getElem_toArray, List.getElem_cons_succ, List.getElem_cons_zero, List.setIfInBounds_toArray, List.set_cons_zero, List.set_cons_succ]
  refine hide_any (X := fun W => Hid (RS w g ((((l2.set 3 r0).set 7 r1).set 11 r2).set 15 r3) m z W) ∧ Hid (RT g W)) ⟨Lib.hid (HS.out.set 15 r3 HG.out), Lib.hid (HT.out.set 15 _)⟩ ?_
  clear HS HT W
  rintro W ⟨HS, HT⟩
  refine wpAny_done (by kernel_rfl) ?_ _
  obtain ⟨l3, hl3⟩ : ∃ l', (((l2.set 3 r0).set 7 r1).set 11 r2).set 15 r3 = l' := ⟨_, rfl⟩
  have hlen : l3.length = 16 := by rw [← hl3]; simpa using hl
  rw [hl3] at HS HE3
  clear hl3 hl
  have hl := hlen
  clear hlen hi0 hi1
  go_wp2_with fail
  obtain ⟨n0, hi0', e0⟩ := hz' 8 (by decide)
  obtain ⟨n1, hi1', e1⟩ := hz' 9 (by decide)
  have hi0 : ((n0 : Nat) : Int) < 16 := by omega
  have hi1 : ((n1 : Nat) : Int) < 16 := by omega
  obtain ⟨a, ha⟩ : ∃ v, l3.getD 0 0 = v := ⟨_, rfl⟩
  obtain ⟨b, hb⟩ : ∃ v, l3.getD 5 0 = v := ⟨_, rfl⟩
  obtain ⟨c, hc⟩ : ∃ v, l3.getD 10 0 = v := ⟨_, rfl⟩
  obtain ⟨d, hd⟩ : ∃ v, l3.getD 15 0 = v := ⟨_, rfl⟩
  obtain ⟨x, hx⟩ : ∃ v, m.getD n0 0 = v := ⟨_, rfl⟩
  obtain ⟨y, hy⟩ : ∃ v, m.getD n1 0 = v := ⟨_, rfl⟩
  have hS : W.drew.cell? ⟨g, 0, none⟩ = some (.int .u32 a) ∧ W.drew.cell? ⟨g, 5, none⟩ = some (.int .u32 b) ∧ W.drew.cell? ⟨g, 10, none⟩ = some (.int .u32 c) ∧ W.drew.cell? ⟨g, 15, none⟩ = some (.int .u32 d)
      ∧ W.drew.cell? ⟨g + 1 + 1, 8, none⟩ = some (.int .u8 n0) ∧ W.drew.cell? ⟨g + 1 + 1, 9, none⟩ = some (.int .u8 n1) ∧ W.drew.cell? ⟨g + 1, n0, none⟩ = some (.int .u32 x) ∧ W.drew.cell? ⟨g + 1, n1, none⟩ = some (.int .u32 y) := by
    obtain ⟨h1, h2, h3, -⟩ := HS.out
    refine ⟨?_, ?_, ?_, ?_, ?_, ?_, ?_, ?_⟩
    · exact (h1.cell 0).trans (by rw [wl_at l3 0 (by omega), ha])
    · exact (h1.cell 5).trans (by rw [wl_at l3 5 (by omega), hb])
    · exact (h1.cell 10).trans (by rw [wl_at l3 10 (by omega), hc])
    · exact (h1.cell 15).trans (by rw [wl_at l3 15 (by omega), hd])
    · exact (h3.cell 8).trans (by rw [zl_at z 8 (by omega), e0])
    · exact (h3.cell 9).trans (by rw [zl_at z 9 (by omega), e1])
    · exact (h2.cell n0).trans (by rw [wl_at m n0 (by omega), hx])
    · exact (h2.cell n1).trans (by rw [wl_at m n1 (by omega), hy])
  obtain ⟨r, hr⟩ : ∃ r, qq a b c d x y = r := ⟨_, rfl⟩
  have HC := Lib.hid (fun W => mix_any a b c d x y W)
  rw [hr] at HC
  obtain ⟨r0, r1, r2, r3⟩ := r
  dsimp only at HC
  have HE4 : Hid (gg l3 0 5 10 15 (ix m z 8) (ix m z 9) = (((l3.set 0 r0).set 5 r1).set 10 r2).set 15 r3) := Lib.hid (by
    unfold gg ix
    rw [e0, e1, Int.toNat_natCast, Int.toNat_natCast, hx, hy, ha, hb, hc, hd, hr])
  clear hr ha hb hc hd hx hy e0 e1 hi0' hi1'
  refine wp_region_T 16 (fun W => W.cell? ⟨g, 0, none⟩ = some (.int .u32 a) ∧ W.cell? ⟨g, 5, none⟩ = some (.int .u32 b) ∧ W.cell? ⟨g, 10, none⟩ = some (.int .u32 c) ∧ W.cell? ⟨g, 15, none⟩ = some (.int .u32 d)
      ∧ W.cell? ⟨g + 1 + 1, 8, none⟩ = some (.int .u8 n0) ∧ W.cell? ⟨g + 1 + 1, 9, none⟩ = some (.int .u8 n1) ∧ W.cell? ⟨g + 1, n0, none⟩ = some (.int .u32 x) ∧ W.cell? ⟨g + 1, n1, none⟩ = some (.int .u32 y)) (by kernel_rfl) ?_
  refine wpAnyT_take (i := 0) (v := ?_) rfl (by kernel_rfl) (fun _ _ _ h => h) (Or.inl ⟨by rfl, ?_⟩) hS ?_
  rotate_left
  · intro w2 hw2
    try dsimp only at hw2
    go_simp
    first | done | with_reducible rfl
  try simp only [Act.put, List.getElem_toArray, List.getElem_cons_zero, List.setIfInBounds_toArray, List.set_cons_zero, List.set_cons_succ]
  refine wpAnyT_take (i := 1) (v := ?_) rfl (by kernel_rfl) (fun _ _ _ h => h) (Or.inl ⟨by rfl, ?_⟩) hS ?_
  rotate_left
  · intro w2 hw2
    try dsimp only at hw2
    go_simp
    first | done | with_reducible rfl
  try simp only [Act.put, List.getElem_toArray, List.getElem_cons_succ, List.getElem_cons_zero, List.setIfInBounds_toArray, List.set_cons_zero, List.set_cons_succ]
  refine wpAnyT_take (i := 2) (v := ?_) rfl (by kernel_rfl) (fun _ _ _ h => h) (Or.inl ⟨by rfl, ?_⟩) hS ?_
  rotate_left
  · intro w2 hw2
    try dsimp only at hw2
    go_simp
    first | done | with_reducible rfl
  try simp only [Act.put, List.getElem_toArray, List.getElem_cons_succ, List.getElem_cons_zero, List.setIfInBounds_toArray, List.set_cons_zero, List.set_cons_succ]
  refine wpAnyT_take (i := 3) (v := ?_) rfl (by kernel_rfl) (fun _ _ _ h => h) (Or.inl ⟨by rfl, ?_⟩) hS ?_
  rotate_left
  · intro w2 hw2
    try dsimp only at hw2
    go_simp
    first | done | with_reducible rfl
  try simp only [Act.put, List.getElem_toArray, List.getElem_cons_succ, List.getElem_cons_zero, List.setIfInBounds_toArray, List.set_cons_zero, List.set_cons_succ]
  refine wpAnyT_take (i := 4) (v := ?_) rfl (by kernel_rfl) (fun _ _ _ h => h) (Or.inl ⟨by rfl, ?_⟩) hS ?_
  rotate_left
  · intro w2 hw2
    try dsimp only at hw2
    go_simp
    first | done | with_reducible rfl
  try simp only [Act.put, List.getElem_toArray, List.getElem_cons_succ, List.getElem_cons_zero, List.setIfInBounds_toArray, List.set_cons_zero, List.set_cons_succ]
  refine wpAnyT_take (i := 5) (v := ?_) rfl (by kernel_rfl) (fun _ _ _ h => h) (Or.inl ⟨by rfl, ?_⟩) hS ?_
  rotate_left
  · intro w2 hw2
    try dsimp only at hw2
    go_simp
    first | done | with_reducible rfl
  try simp only [Act.put, List.getElem_toArray, List.getElem_cons_succ, List.getElem_cons_zero, List.setIfInBounds_toArray, List.set_cons_zero, List.set_cons_succ]
  refine wpAnyT_take (i := 6) (v := ?_) rfl (by kernel_rfl) (fun _ _ _ h => h) (Or.inl ⟨by rfl, ?_⟩) hS ?_
  rotate_left
  · intro w2 hw2
    try dsimp only at hw2
    go_simp
    first | done | with_reducible rfl
  try simp only [Act.put, List.getElem_toArray, List.getElem_cons_succ, List.getElem_cons_zero, List.setIfInBounds_toArray, List.set_cons_zero, List.set_cons_succ]
  refine wpAnyT_take (i := 7) (v := ?_) rfl (by kernel_rfl) (fun _ _ _ h => h) (Or.inl ⟨by rfl, ?_⟩) hS ?_
  rotate_left
  · intro w2 hw2
    try dsimp only at hw2
    go_simp
    first | done | with_reducible rfl
  try simp only [Act.put, List.getElem_toArray, List.getElem_cons_succ, List.getElem_cons_zero, List.setIfInBounds_toArray, List.set_cons_zero, List.set_cons_succ]
  refine wpAnyT_take (i := 8) (v := ?_) rfl (by kernel_rfl) (fun _ _ _ h => h) (Or.inl ⟨by rfl, ?_⟩) hS ?_
  rotate_left
  · intro w2 hw2
    try dsimp only at hw2
    go_simp
    first | done | with_reducible rfl
  try simp only [Act.put, List.getElem_toArray, List.getElem_cons_succ, List.getElem_cons_zero, List.setIfInBounds_toArray, List.set_cons_zero, List.set_cons_succ]
  refine wpAnyT_take (i := 9) (v := ?_) rfl (by kernel_rfl) (fun _ _ _ h => h) (Or.inl ⟨by rfl, ?_⟩) hS ?_
  rotate_left
  · intro w2 hw2
    try dsimp only at hw2
    go_simp
    first | done | with_reducible rfl
  try simp only [Act.put, List.getElem_toArray, List.getElem_cons_succ, List.getElem_cons_zero, List.setIfInBounds_toArray, List.set_cons_zero, List.set_cons_succ]
  refine wpAnyT_take (i := 10) (v := ?_) rfl (by kernel_rfl) (fun _ _ _ h => h) (Or.inl ⟨by rfl, ?_⟩) hS ?_
  rotate_left
  · intro w2 hw2
    try dsimp only at hw2
    go_simp
    first | done | with_reducible rfl
  try simp only [Act.put, List.getElem_toArray, List.getElem_cons_succ, List.getElem_cons_zero, List.setIfInBounds_toArray, List.set_cons_zero, List.set_cons_succ]
  refine wpAnyT_take (i := 11) (v := ?_) rfl (by kernel_rfl) (fun _ _ _ h => h) (Or.inl ⟨by rfl, ?_⟩) hS ?_
  rotate_left
  · intro w2 hw2
    try dsimp only at hw2
    go_simp
    first | done | with_reducible rfl
  try simp only [Act.put, List.getElem_toArray, List.getElem_cons_succ, List.getElem_cons_zero, List.setIfInBounds_toArray, List.set_cons_zero, List.set_cons_succ]
  refine wpAnyT_take (i := 12) (v := ?_) rfl (by kernel_rfl) (fun _ _ _ h => h) (Or.inl ⟨by rfl, ?_⟩) hS ?_
  rotate_left
  · intro w2 hw2
    try dsimp only at hw2
    go_simp
    first | done | with_reducible rfl
  try simp only [Act.put, List.getElem_toArray, List.getElem_cons_succ, List.getElem_cons_zero, List.setIfInBounds_toArray, List.set_cons_zero, List.set_cons_succ]
  refine wpAnyT_take (i := 13) (v := ?_) rfl (by kernel_rfl) (fun _ _ _ h => h) (Or.inl ⟨by rfl, ?_⟩) hS ?_
  rotate_left
  · intro w2 hw2
    try dsimp only at hw2
    go_simp
    first | done | with_reducible rfl
  try simp only [Act.put, List.getElem_toArray, List.getElem_cons_succ, List.getElem_cons_zero, List.setIfInBounds_toArray, List.set_cons_zero, List.set_cons_succ]
  refine wpAnyT_take (i := 14) (v := ?_) rfl (by kernel_rfl) (fun _ _ _ h => h) (Or.inl ⟨by rfl, ?_⟩) hS ?_
  rotate_left
  · intro w2 hw2
    try dsimp only at hw2
    go_simp
    first | done | with_reducible rfl
  try simp only [Act.put, List.getElem_toArray, List.getElem_cons_succ, List.getElem_cons_zero, List.setIfInBounds_toArray, List.set_cons_zero, List.set_cons_succ]
  refine wpAnyT_take (i := 15) (v := ?_) rfl (by kernel_rfl) (fun _ _ _ h => h) (Or.inl ⟨by rfl, ?_⟩) hS ?_
  rotate_left
  · intro w2 hw2
    try dsimp only at hw2
    go_simp
    first | done | with_reducible rfl
  try simp only [Act.put, List.getElem_toArray, List.getElem_cons_succ, List.getElem_cons_zero, List.setIfInBounds_toArray, List.set_cons_zero, List.set_cons_succ]
  clear hS
  refine wpAnyT_gate rfl (by kernel_rfl) (fun K hK => ?_)
  go_simp
  refine (HC.out _).mono ?_
  rintro e w' ⟨rfl, rfl⟩
  refine hK.out _ _ ?_
  clear hK K HC
  refine hide_any (X := fun W => Hid (RS w g l3 m z W) ∧ Hid (RT g W)) ⟨Lib.hid ⟨HS.out.1, HS.out.2.1, HS.out.2.2.1, below_drew HS.out.2.2.2 1⟩, Lib.hid HT.out⟩ ?_
  clear HS HT W
  rintro W ⟨HS, HT⟩
  refine wpAny_take (i := 17) (v := ?_) rfl (by kernel_rfl) (by kernel_rfl) (by kernel_rfl) (fun _ _ _ h => h) (Or.inl ⟨by rfl, ?_⟩) ?_
  rotate_left
  · intro w2
    go_simp
    first | done | with_reducible rfl
  try simp only [Act.put, List.getElem_toArray, List.getElem_cons_succ, List.getElem_cons_zero, List.setIfInBounds_toArray, List.set_cons_zero, List.set_cons_succ]
  refine wpAny_take (i := 18) (v := ?_) rfl (by kernel_rfl) (by kernel_rfl) (by kernel_rfl) (fun _ _ _ h => h) (Or.inl ⟨by rfl, ?_⟩) ?_
  rotate_left
  · intro w2
    go_simp
    first | done | with_reducible rfl
  try simp only [Act.put, List.getElem_toArray, List.getElem_cons_succ, List.getElem_cons_zero, List.setIfInBounds_toArray, List.set_cons_zero, List.set_cons_succ]
  refine wpAny_take (i := 19) (v := ?_) rfl (by kernel_rfl) (by kernel_rfl) (by kernel_rfl) (fun _ _ _ h => h) (Or.inl ⟨by rfl, ?_⟩) ?_
  rotate_left
  · intro w2
    go_simp
    first | done | with_reducible rfl
  try simp only [Act.put, List.getElem_toArray, List.getElem_cons_succ, List.getElem_cons_zero, List.setIfInBounds_toArray, List.set_cons_zero, List.set_cons_succ]
  refine wpAny_take (i := 20) (v := ?_) rfl (by kernel_rfl) (by kernel_rfl) (by kernel_rfl) (fun _ _ _ h => h) (Or.inl ⟨by rfl, ?_⟩) ?_
  rotate_left
  · intro w2
    go_simp
    first | done | with_reducible rfl
  try simp only [Act.put, List.getElem_toArray, List.getElem_cons_succ, List.getElem_cons_zero, List.setIfInBounds_toArray, List.set_cons_zero, List.set_cons_succ]
  refine wpAny_take (i := 21) (v := ?_) rfl (by kernel_rfl) (by kernel_rfl) (by kernel_rfl) (fun _ _ _ h => h) (Or.inl ⟨by rfl, ?_⟩) ?_
  rotate_left
  · intro w2
    go_simp
    first | done | with_reducible rfl
  try simp only [Act.put, List.getElem_toArray, List.getElem_cons_succ, List.getElem_cons_zero, List.setIfInBounds_toArray, List.set_cons_zero, List.set_cons_succ]
  refine wpAny_take (i := 22) (v := ?_) rfl (by kernel_rfl) (by kernel_rfl) (by kernel_rfl) (fun _ _ _ h => h) (Or.inl ⟨by rfl, ?_⟩) ?_
  rotate_left
  · intro w2
    go_simp
    first | done | with_reducible rfl
  try simp only [Act.put, List.getElem_toArray, List.getElem_cons_succ, List.getElem_cons_zero, List.setIfInBounds_toArray, List.set_cons_zero, List.set_cons_succ]
  have hcc := (HS.out.1.cell 0).trans (wl_at _ 0 (by first | omega | (simp; omega)))
  have hcf := HS.out.1.frozen 0
  refine wpAny_one (i := 23) rfl (by kernel_rfl) (fun K hK => ?_)
  go_simp
  refine hK.out _ _ ?_
  clear hK K hcc hcf
  try simp only [Act.put, List.getElem_toArray, List.getElem_cons_succ, List.getElem_cons_zero, List.setIfInBounds_toArray, List.set_cons_zero, List.set_cons_succ]
  refine hide_any (X := fun W => Hid (RS w g (l3.set 0 r0) m z W) ∧ Hid (RT g W)) ⟨Lib.hid (HS.out.set 0 r0 HG.out), Lib.hid (HT.out.set 0 _)⟩ ?_
  clear HS HT W
  rintro W ⟨HS, HT⟩
  refine wpAny_take (i := 24) (v := ?_) rfl (by kernel_rfl) (by kernel_rfl) (by kernel_rfl) (fun _ _ _ h => h) (Or.inl ⟨by rfl, ?_⟩) ?_
  rotate_left
  · intro w2
    go_simp
    first | done | with_reducible rfl
  try simp only [Act.put, List.getElem_toArray, List.getElem_cons_succ, List.getElem_cons_zero, List.setIfInBounds_toArray, List.set_cons_zero, List.set_cons_succ]
  have hcc := (HS.out.1.cell 5).trans (wl_at _ 5 (by first | omega | (simp; omega)))
  have hcf := HS.out.1.frozen 5
  refine wpAny_one (i := 25) rfl (by kernel_rfl) (fun K hK => ?_)
  go_simp
  refine hK.out _ _ ?_
  clear hK K hcc hcf
  try simp only [Act.put, List.getElem_toArray, List.getElem_cons_succ, List.getElem_cons_zero, List.setIfInBounds_toArray, List.set_cons_zero, List.set_cons_succ]
  refine hide_any (X := fun W => Hid (RS w g ((l3.set 0 r0).set 5 r1) m z W) ∧ Hid (RT g W)) ⟨Lib.hid (HS.out.set 5 r1 HG.out), Lib.hid (HT.out.set 5 _)⟩ ?_
  clear HS HT W
  rintro W ⟨HS, HT⟩
  refine wpAny_take (i := 26) (v := ?_) rfl (by kernel_rfl) (by kernel_rfl) (by kernel_rfl) (fun _ _ _ h => h) (Or.inl ⟨by rfl, ?_⟩) ?_
  rotate_left
  · intro w2
    go_simp
    first | done | with_reducible rfl
  try simp only [Act.put, List.getElem_toArray, List.getElem_cons_succ, List.getElem_cons_zero, List.setIfInBounds_toArray, List.set_cons_zero, List.set_cons_succ]
  have hcc := (HS.out.1.cell 10).trans (wl_at _ 10 (by first | omega | (simp; omega)))
  have hcf := HS.out.1.frozen 10
  refine wpAny_one (i := 27) rfl (by kernel_rfl) (fun K hK => ?_)
  go_simp
  refine hK.out _ _ ?_
  clear hK K hcc hcf
  try simp only [Act.put, List.getElem_toArray, List.getElem_cons_succ, List.getElem_cons_zero, List.setIfInBounds_toArray, List.set_cons_zero, List.set_cons_succ]
  refine hide_any (X := fun W => Hid (RS w g (((l3.set 0 r0).set 5 r1).set 10 r2) m z W) ∧ Hid (RT g W)) ⟨Lib.hid (HS.out.set 10 r2 HG.out), Lib.hid (HT.out.set 10 _)⟩ ?_
  clear HS HT W
  rintro W ⟨HS, HT⟩
  refine wpAny_take (i := 28) (v := ?_) rfl (by kernel_rfl) (by kernel_rfl) (by kernel_rfl) (fun _ _ _ h => h) (Or.inl ⟨by rfl, ?_⟩) ?_
  rotate_left
  · intro w2
    go_simp
    first | done | with_reducible rfl
  try simp only [Act.put, List.getElem_toArray, List.getElem_cons_succ, List.getElem_cons_zero, List.setIfInBounds_toArray, List.set_cons_zero, List.set_cons_succ]
  have hcc := (HS.out.1.cell 15).trans (wl_at _ 15 (by first | omega | (simp; omega)))
  have hcf := HS.out.1.frozen 15
  refine wpAny_one (i := 29) rfl (by kernel_rfl) (fun K hK => ?_)
  go_simp
  refine hK.out _ _ ?_
  clear hK K hcc hcf
  try simp only [Act.put, List.getElem_toArray, List.getElem_cons_succ, List.getElem_cons_zero, List.setIfInBounds_toArray, List.set_cons_zero, List.set_cons_succ]
  refine hide_any (X := fun W => Hid (RS w g ((((l3.set 0 r0).set 5 r1).set 10 r2).set 15 r3) m z W) ∧ Hid (RT g W)) ⟨Lib.hid (HS.out.set 15 r3 HG.out), Lib.hid (HT.out.set 15 _)⟩ ?_
  clear HS HT W
  rintro W ⟨HS, HT⟩
  refine wpAny_done (by kernel_rfl) ?_ _
  obtain ⟨l4, hl4⟩ : ∃ l', (((l3.set 0 r0).set 5 r1).set 10 r2).set 15 r3 = l' := ⟨_, rfl⟩
  have hlen : l4.length = 16 := by rw [← hl4]; simpa using hl
  rw [hl4] at HS HE4
  clear hl4 hl
  have hl := hlen
  clear hlen hi0 hi1
  go_wp2_with fail
  obtain ⟨n0, hi0', e0⟩ := hz' 10 (by decide)
  obtain ⟨n1, hi1', e1⟩ := hz' 11 (by decide)
  have hi0 : ((n0 : Nat) : Int) < 16 := by omega
  have hi1 : ((n1 : Nat) : Int) < 16 := by omega
  obtain ⟨a, ha⟩ : ∃ v, l4.getD 1 0 = v := ⟨_, rfl⟩
  obtain ⟨b, hb⟩ : ∃ v, l4.getD 6 0 = v := ⟨_, rfl⟩
  obtain ⟨c, hc⟩ : ∃ v, l4.getD 11 0 = v := ⟨_, rfl⟩
  obtain ⟨d, hd⟩ : ∃ v, l4.getD 12 0 = v := ⟨_, rfl⟩
  obtain ⟨x, hx⟩ : ∃ v, m.getD n0 0 = v := ⟨_, rfl⟩
  obtain ⟨y, hy⟩ : ∃ v, m.getD n1 0 = v := ⟨_, rfl⟩
  have hS : W.drew.cell? ⟨g, 1, none⟩ = some (.int .u32 a) ∧ W.drew.cell? ⟨g, 6, none⟩ = some (.int .u32 b) ∧ W.drew.cell? ⟨g, 11, none⟩ = some (.int .u32 c) ∧ W.drew.cell? ⟨g, 12, none⟩ = some (.int .u32 d)
      ∧ W.drew.cell? ⟨g + 1 + 1, 10, none⟩ = some (.int .u8 n0) ∧ W.drew.cell? ⟨g + 1 + 1, 11, none⟩ = some (.int .u8 n1) ∧ W.drew.cell? ⟨g + 1, n0, none⟩ = some (.int .u32 x) ∧ W.drew.cell? ⟨g + 1, n1, none⟩ = some (.int .u32 y) := by
    obtain ⟨h1, h2, h3, -⟩ := HS.out
    refine ⟨?_, ?_, ?_, ?_, ?_, ?_, ?_, ?_⟩
    · exact (h1.cell 1).trans (by rw [wl_at l4 1 (by omega), ha])
    · exact (h1.cell 6).trans (by rw [wl_at l4 6 (by omega), hb])
    · exact (h1.cell 11).trans (by rw [wl_at l4 11 (by omega), hc])
    · exact (h1.cell 12).trans (by rw [wl_at l4 12 (by omega), hd])
    · exact (h3.cell 10).trans (by rw [zl_at z 10 (by omega), e0])
    · exact (h3.cell 11).trans (by rw [zl_at z 11 (by omega), e1])
    · exact (h2.cell n0).trans (by rw [wl_at m n0 (by omega), hx])
    · exact (h2.cell n1).trans (by rw [wl_at m n1 (by omega), hy])
  obtain ⟨r, hr⟩ : ∃ r, qq a b c d x y = r := ⟨_, rfl⟩
  have HC := Lib.hid (fun W => mix_any a b c d x y W)
  rw [hr] at HC
  obtain ⟨r0, r1, r2, r3⟩ := r
  dsimp only at HC
  have HE5 : Hid (gg l4 1 6 11 12 (ix m z 10) (ix m z 11) = (((l4.set 1 r0).set 6 r1).set 11 r2).set 12 r3) := Lib.hid (by
    unfold gg ix
    rw [e0, e1, Int.toNat_natCast, Int.toNat_natCast, hx, hy, ha, hb, hc, hd, hr])
  clear hr ha hb hc hd hx hy e0 e1 hi0' hi1'
  refine wp_region_T 16 (fun W => W.cell? ⟨g, 1, none⟩ = some (.int .u32 a) ∧ W.cell? ⟨g, 6, none⟩ = some (.int .u32 b) ∧ W.cell? ⟨g, 11, none⟩ = some (.int .u32 c) ∧ W.cell? ⟨g, 12, none⟩ = some (.int .u32 d)
      ∧ W.cell? ⟨g + 1 + 1, 10, none⟩ = some (.int .u8 n0) ∧ W.cell? ⟨g + 1 + 1, 11, none⟩ = some (.int .u8 n1) ∧ W.cell? ⟨g + 1, n0, none⟩ = some (.int .u32 x) ∧ W.cell? ⟨g + 1, n1, none⟩ = some (.int .u32 y)) (by kernel_rfl) ?_
  refine wpAnyT_take (i := 0) (v := ?_) rfl (by kernel_rfl) (fun _ _ _ h => h) (Or.inl ⟨by rfl, ?_⟩) hS ?_
  rotate_left
  · intro w2 hw2
    try dsimp only at hw2
    go_simp
    first | done | with_reducible rfl
  try simp only [Act.put, List.getElem_toArray, List.getElem_cons_zero, List.setIfInBounds_toArray, List.set_cons_zero, List.set_cons_succ]
  refine wpAnyT_take (i := 1) (v := ?_) rfl (by kernel_rfl) (fun _ _ _ h => h) (Or.inl ⟨by rfl, ?_⟩) hS ?_
  rotate_left
  · intro w2 hw2
    try dsimp only at hw2
    go_simp
    first | done | with_reducible rfl
  try simp only [Act.put, List.getElem_toArray, List.getElem_cons_succ, List.getElem_cons_zero, List.setIfInBounds_toArray, List.set_cons_zero, List.set_cons_succ]
  refine wpAnyT_take (i := 2) (v := ?_) rfl (by kernel_rfl) (fun _ _ _ h => h) (Or.inl ⟨by rfl, ?_⟩) hS ?_
  rotate_left
  · intro w2 hw2
    try dsimp only at hw2
    go_simp
    first | done | with_reducible rfl
  try simp only [Act.put, List.getElem_toArray, List.getElem_cons_succ, List.getElem_cons_zero, List.setIfInBounds_toArray, List.set_cons_zero, List.set_cons_succ]
  refine wpAnyT_take (i := 3) (v := ?_) rfl (by kernel_rfl) (fun _ _ _ h => h) (Or.inl ⟨by rfl, ?_⟩) hS ?_
  rotate_left
  · intro w2 hw2
    try dsimp only at hw2
    go_simp
    first | done | with_reducible rfl
  try simp only [Act.put, List.getElem_toArray, List.getElem_cons_succ, List.getElem_cons_zero, List.setIfInBounds_toArray, List.set_cons_zero, List.set_cons_succ]
  refine wpAnyT_take (i := 4) (v := ?_) rfl (by kernel_rfl) (fun _ _ _ h => h) (Or.inl ⟨by rfl, ?_⟩) hS ?_
  rotate_left
  · intro w2 hw2
    try dsimp only at hw2
    go_simp
    first | done | with_reducible rfl
  try simp only [Act.put, List.getElem_toArray, List.getElem_cons_succ, List.getElem_cons_zero, List.setIfInBounds_toArray, List.set_cons_zero, List.set_cons_succ]
  refine wpAnyT_take (i := 5) (v := ?_) rfl (by kernel_rfl) (fun _ _ _ h => h) (Or.inl ⟨by rfl, ?_⟩) hS ?_
  rotate_left
  · intro w2 hw2
    try dsimp only at hw2
    go_simp
    first | done | with_reducible rfl
  try simp only [Act.put, List.getElem_toArray, List.getElem_cons_succ, List.getElem_cons_zero, List.setIfInBounds_toArray, List.set_cons_zero, List.set_cons_succ]
  refine wpAnyT_take (i := 6) (v := ?_) rfl (by kernel_rfl) (fun _ _ _ h => h) (Or.inl ⟨by rfl, ?_⟩) hS ?_
  rotate_left
  · intro w2 hw2
    try dsimp only at hw2
    go_simp
    first | done | with_reducible rfl
  try simp only [Act.put, List.getElem_toArray, List.getElem_cons_succ, List.getElem_cons_zero, List.setIfInBounds_toArray, List.set_cons_zero, List.set_cons_succ]
  refine wpAnyT_take (i := 7) (v := ?_) rfl (by kernel_rfl) (fun _ _ _ h => h) (Or.inl ⟨by rfl, ?_⟩) hS ?_
  rotate_left
  · intro w2 hw2
    try dsimp only at hw2
    go_simp
    first | done | with_reducible rfl
  try simp only [Act.put, List.getElem_toArray, List.getElem_cons_succ, List.getElem_cons_zero, List.setIfInBounds_toArray, List.set_cons_zero, List.set_cons_succ]
  refine wpAnyT_take (i := 8) (v := ?_) rfl (by kernel_rfl) (fun _ _ _ h => h) (Or.inl ⟨by rfl, ?_⟩) hS ?_
  rotate_left
  · intro w2 hw2
    try dsimp only at hw2
    go_simp
    first | done | with_reducible rfl
  try simp only [Act.put, List.getElem_toArray, List.getElem_cons_succ, List.getElem_cons_zero, List.setIfInBounds_toArray, List.set_cons_zero, List.set_cons_succ]
  refine wpAnyT_take (i := 9) (v := ?_) rfl (by kernel_rfl) (fun _ _ _ h => h) (Or.inl ⟨by rfl, ?_⟩) hS ?_
  rotate_left
  · intro w2 hw2
    try dsimp only at hw2
    go_simp
    first | done | with_reducible rfl
  try simp only [Act.put, List.getElem_toArray, List.getElem_cons_succ, List.getElem_cons_zero, List.setIfInBounds_toArray, List.set_cons_zero, List.set_cons_succ]
  refine wpAnyT_take (i := 10) (v := ?_) rfl (by kernel_rfl) (fun _ _ _ h => h) (Or.inl ⟨by rfl, ?_⟩) hS ?_
  rotate_left
  · intro w2 hw2
    try dsimp only at hw2
    go_simp
    first | done | with_reducible rfl
  try simp only [Act.put, List.getElem_toArray, List.getElem_cons_succ, List.getElem_cons_zero, List.setIfInBounds_toArray, List.set_cons_zero, List.set_cons_succ]
  refine wpAnyT_take (i := 11) (v := ?_) rfl (by kernel_rfl) (fun _ _ _ h => h) (Or.inl ⟨by rfl, ?_⟩) hS ?_
  rotate_left
  · intro w2 hw2
    try dsimp only at hw2
    go_simp
    first | done | with_reducible rfl
  try simp only [Act.put, List.getElem_toArray, List.getElem_cons_succ, List.getElem_cons_zero, List.setIfInBounds_toArray, List.set_cons_zero, List.set_cons_succ]
  refine wpAnyT_take (i := 12) (v := ?_) rfl (by kernel_rfl) (fun _ _ _ h => h) (Or.inl ⟨by rfl, ?_⟩) hS ?_
  rotate_left
  · intro w2 hw2
    try dsimp only at hw2
    go_simp
    first | done | with_reducible rfl
  try simp only [Act.put, List.getElem_toArray, List.getElem_cons_succ, List.getElem_cons_zero, List.setIfInBounds_toArray, List.set_cons_zero, List.set_cons_succ]
  refine wpAnyT_take (i := 13) (v := ?_) rfl (by kernel_rfl) (fun _ _ _ h => h) (Or.inl ⟨by rfl, ?_⟩) hS ?_
  rotate_left
  · intro w2 hw2
    try dsimp only at hw2
    go_simp
    first | done | with_reducible rfl
  try simp only [Act.put, List.getElem_toArray, List.getElem_cons_succ, List.getElem_cons_zero, List.setIfInBounds_toArray, List.set_cons_zero, List.set_cons_succ]
  refine wpAnyT_take (i := 14) (v := ?_) rfl (by kernel_rfl) (fun _ _ _ h => h) (Or.inl ⟨by rfl, ?_⟩) hS ?_
  rotate_left
  · intro w2 hw2
    try dsimp only at hw2
    go_simp
    first | done | with_reducible rfl
  try simp only [Act.put, List.getElem_toArray, List.getElem_cons_succ, List.getElem_cons_zero, List.setIfInBounds_toArray, List.set_cons_zero, List.set_cons_succ]
  refine wpAnyT_take (i := 15) (v := ?_) rfl (by kernel_rfl) (fun _ _ _ h => h) (Or.inl ⟨by rfl, ?_⟩) hS ?_
  rotate_left
  · intro w2 hw2
    try dsimp only at hw2
    go_simp
    first | done | with_reducible rfl
  try simp only [Act.put, List.getElem_toArray, List.getElem_cons_succ, List.getElem_cons_zero, List.setIfInBounds_toArray, List.set_cons_zero, List.set_cons_succ]
  clear hS
  refine wpAnyT_gate rfl (by kernel_rfl) (fun K hK => ?_)
  go_simp
  refine (HC.out _).mono ?_
  rintro e w' ⟨rfl, rfl⟩
  refine hK.out _ _ ?_
  clear hK K HC
  refine hide_any (X := fun W => Hid (RS w g l4 m z W) ∧ Hid (RT g W)) ⟨Lib.hid ⟨HS.out.1, HS.out.2.1, HS.out.2.2.1, below_drew HS.out.2.2.2 1⟩, Lib.hid HT.out⟩ ?_
  clear HS HT W
  rintro W ⟨HS, HT⟩
  refine wpAny_take (i := 17) (v := ?_) rfl (by kernel_rfl) (by kernel_rfl) (by kernel_rfl) (fun _ _ _ h => h) (Or.inl ⟨by rfl, ?_⟩) ?_
  rotate_left
  · intro w2
    go_simp
    first | done | with_reducible rfl
  try simp only [Act.put, List.getElem_toArray, List.getElem_cons_succ, List.getElem_cons_zero, List.setIfInBounds_toArray, List.set_cons_zero, List.set_cons_succ]
  refine wpAny_take (i := 18) (v := ?_) rfl (by kernel_rfl) (by kernel_rfl) (by kernel_rfl) (fun _ _ _ h => h) (Or.inl ⟨by rfl, ?_⟩) ?_
  rotate_left
  · intro w2
    go_simp
    first | done | with_reducible rfl
  try simp only [Act.put, List.getElem_toArray, List.getElem_cons_succ, List.getElem_cons_zero, List.setIfInBounds_toArray, List.set_cons_zero, List.set_cons_succ]
  refine wpAny_take (i := 19) (v := ?_) rfl (by kernel_rfl) (by kernel_rfl) (by kernel_rfl) (fun _ _ _ h => h) (Or.inl ⟨by rfl, ?_⟩) ?_
  rotate_left
  · intro w2
    go_simp
    first | done | with_reducible rfl
  try simp only [Act.put, List.getElem_toArray, List.getElem_cons_succ, List.getElem_cons_zero, List.setIfInBounds_toArray, List.set_cons_zero, List.set_cons_succ]
  refine wpAny_take (i := 20) (v := ?_) rfl (by kernel_rfl) (by kernel_rfl) (by kernel_rfl) (fun _ _ _ h => h) (Or.inl ⟨by rfl, ?_⟩) ?_
  rotate_left
  · intro w2
    go_simp
    first | done | with_reducible rfl
  try simp only [Act.put, List.getElem_toArray, List.getElem_cons_succ, List.getElem_cons_zero, List.setIfInBounds_toArray, List.set_cons_zero, List.set_cons_succ]
  refine wpAny_take (i := 21) (v := ?_) rfl (by kernel_rfl) (by kernel_rfl) (by kernel_rfl) (fun _ _ _ h => h) (Or.inl ⟨by rfl, ?_⟩) ?_
  rotate_left
  · intro w2
    go_simp
    first | done | with_reducible rfl
  try simp only [Act.put, List.getElem_toArray, List.getElem_cons_succ, List.getElem_cons_zero, List.setIfInBounds_toArray, List.set_cons_zero, List.set_cons_succ]
  refine wpAny_take (i := 22) (v := ?_) rfl (by kernel_rfl) (by kernel_rfl) (by kernel_rfl) (fun _ _ _ h => h) (Or.inl ⟨by rfl, ?_⟩) ?_
  rotate_left
  · intro w2
    go_simp
    first | done | with_reducible rfl
  try simp only [Act.put, List.getElem_toArray, List.getElem_cons_succ, List.getElem_cons_zero, List.setIfInBounds_toArray, List.set_cons_zero, List.set_cons_succ]
  have hcc := (HS.out.1.cell 1).trans (wl_at _ 1 (by first | omega | (simp; omega)))
  have hcf := HS.out.1.frozen 1
  refine wpAny_one (i := 23) rfl (by kernel_rfl) (fun K hK => ?_)
  go_simp
  refine hK.out _ _ ?_
  clear hK K hcc hcf
  try simp only [Act.put, List.getElem_toArray, List.getElem_cons_succ, List.getElem_cons_zero, List.setIfInBounds_toArray, List.set_cons_zero, List.set_cons_succ]
  refine hide_any (X := fun W => Hid (RS w g (l4.set 1 r0) m z W) ∧ Hid (RT g W)) ⟨Lib.hid (HS.out.set 1 r0 HG.out), Lib.hid (HT.out.set 1 _)⟩ ?_
  clear HS HT W
  rintro W ⟨HS, HT⟩
  refine wpAny_take (i := 24) (v := ?_) rfl (by kernel_rfl) (by kernel_rfl) (by kernel_rfl) (fun _ _ _ h => h) (Or.inl ⟨by rfl, ?_⟩) ?_
  rotate_left
  · intro w2
    go_simp
    first | done | with_reducible rfl
  try simp only [Act.put, List.getElem_toArray, List.getElem_cons_succ, List.getElem_cons_zero, List.setIfInBounds_toArray, List.set_cons_zero, List.set_cons_succ]
  have hcc := (HS.out.1.cell 6).trans (wl_at _ 6 (by first | omega | (simp; omega)))
  have hcf := HS.out.1.frozen 6
  refine wpAny_one (i := 25) rfl (by kernel_rfl) (fun K hK => ?_)
  go_simp
  refine hK.out _ _ ?_
  clear hK K hcc hcf
  try simp only [Act.put, List.getElem_toArray, List.getElem_cons_succ, List.getElem_cons_zero, List.setIfInBounds_toArray, List.set_cons_zero, List.set_cons_succ]
  refine hide_any (X := fun W => Hid (RS w g ((l4.set 1 r0).set 6 r1) m z W) ∧ Hid (RT g W)) ⟨Lib.hid (HS.out.set 6 r1 HG.out), Lib.hid (HT.out.set 6 _)⟩ ?_
  clear HS HT W
  rintro W ⟨HS, HT⟩
  refine wpAny_take (i := 26) (v := ?_) rfl (by kernel_rfl) (by kernel_rfl) (by kernel_rfl) (fun _ _ _ h => h) (Or.inl ⟨by rfl, ?_⟩) ?_
  rotate_left
  · intro w2
    go_simp
    first | done | with_reducible rfl
  try simp only [Act.put, List.getElem_toArray, List.getElem_cons_succ, List.getElem_cons_zero, List.setIfInBounds_toArray, List.set_cons_zero, List.set_cons_succ]
  have hcc := (HS.out.1.cell 11).trans (wl_at _ 11 (by first | omega | (simp; omega)))
  have hcf := HS.out.1.frozen 11
  refine wpAny_one (i := 27) rfl (by kernel_rfl) (fun K hK => ?_)
  go_simp
  refine hK.out _ _ ?_
  clear hK K hcc hcf
  try simp only [Act.put, List.getElem_toArray, List.getElem_cons_succ, List.getElem_cons_zero, List.setIfInBounds_toArray, List.set_cons_zero, List.set_cons_succ]
  refine hide_any (X := fun W => Hid (RS w g (((l4.set 1 r0).set 6 r1).set 11 r2) m z W) ∧ Hid (RT g W)) ⟨Lib.hid (HS.out.set 11 r2 HG.out), Lib.hid (HT.out.set 11 _)⟩ ?_
  clear HS HT W
  rintro W ⟨HS, HT⟩
  refine wpAny_take (i := 28) (v := ?_) rfl (by kernel_rfl) (by kernel_rfl) (by kernel_rfl) (fun _ _ _ h => h) (Or.inl ⟨by rfl, ?_⟩) ?_
  rotate_left
  · intro w2
    go_simp
    first | done | with_reducible rfl
  try simp only [Act.put, List.getElem_toArray, List.getElem_cons_succ, List.getElem_cons_zero, List.setIfInBounds_toArray, List.set_cons_zero, List.set_cons_succ]
  have hcc := (HS.out.1.cell 12).trans (wl_at _ 12 (by first | omega | (simp; omega)))
  have hcf := HS.out.1.frozen 12
  refine wpAny_one (i := 29) rfl (by kernel_rfl) (fun K hK => ?_)
  go_simp
  refine hK.out _ _ ?_
  clear hK K hcc hcf
  try simp only [Act.put, List.getElem_toArray, List.getElem_cons_succ, List.getElem_cons_zero, List.setIfInBounds_toArray, List.set_cons_zero, List.set_cons_succ]
  refine hide_any (X := fun W => Hid (RS w g ((((l4.set 1 r0).set 6 r1).set 11 r2).set 12 r3) m z W) ∧ Hid (RT g W)) ⟨Lib.hid (HS.out.set 12 r3 HG.out), Lib.hid (HT.out.set 12 _)⟩ ?_
  clear HS HT W
  rintro W ⟨HS, HT⟩
  refine wpAny_done (by kernel_rfl) ?_ _
  obtain ⟨l5, hl5⟩ : ∃ l', (((l4.set 1 r0).set 6 r1).set 11 r2).set 12 r3 = l' := ⟨_, rfl⟩
  have hlen : l5.length = 16 := by rw [← hl5]; simpa using hl
  rw [hl5] at HS HE5
  clear hl5 hl
  have hl := hlen
  clear hlen hi0 hi1
  go_wp2_with fail
  obtain ⟨n0, hi0', e0⟩ := hz' 12 (by decide)
  obtain ⟨n1, hi1', e1⟩ := hz' 13 (by decide)
  have hi0 : ((n0 : Nat) : Int) < 16 := by omega
  have hi1 : ((n1 : Nat) : Int) < 16 := by omega
  obtain ⟨a, ha⟩ : ∃ v, l5.getD 2 0 = v := ⟨_, rfl⟩
  obtain ⟨b, hb⟩ : ∃ v, l5.getD 7 0 = v := ⟨_, rfl⟩
  obtain ⟨c, hc⟩ : ∃ v, l5.getD 8 0 = v := ⟨_, rfl⟩
  obtain ⟨d, hd⟩ : ∃ v, l5.getD 13 0 = v := ⟨_, rfl⟩
  obtain ⟨x, hx⟩ : ∃ v, m.getD n0 0 = v := ⟨_, rfl⟩
  obtain ⟨y, hy⟩ : ∃ v, m.getD n1 0 = v := ⟨_, rfl⟩
  have hS : W.drew.cell? ⟨g, 2, none⟩ = some (.int .u32 a) ∧ W.drew.cell? ⟨g, 7, none⟩ = some (.int .u32 b) ∧ W.drew.cell? ⟨g, 8, none⟩ = some (.int .u32 c) ∧ W.drew.cell? ⟨g, 13, none⟩ = some (.int .u32 d)
      ∧ W.drew.cell? ⟨g + 1 + 1, 12, none⟩ = some (.int .u8 n0) ∧ W.drew.cell? ⟨g + 1 + 1, 13, none⟩ = some (.int .u8 n1) ∧ W.drew.cell? ⟨g + 1, n0, none⟩ = some (.int .u32 x) ∧ W.drew.cell? ⟨g + 1, n1, none⟩ = some (.int .u32 y) := by
    obtain ⟨h1, h2, h3, -⟩ := HS.out
    refine ⟨?_, ?_, ?_, ?_, ?_, ?_, ?_, ?_⟩
    · exact (h1.cell 2).trans (by rw [wl_at l5 2 (by omega), ha])
    · exact (h1.cell 7).trans (by rw [wl_at l5 7 (by omega), hb])
    · exact (h1.cell 8).trans (by rw [wl_at l5 8 (by omega), hc])
    · exact (h1.cell 13).trans (by rw [wl_at l5 13 (by omega), hd])
    · exact (h3.cell 12).trans (by rw [zl_at z 12 (by omega), e0])
    · exact (h3.cell 13).trans (by rw [zl_at z 13 (by omega), e1])
    · exact (h2.cell n0).trans (by rw [wl_at m n0 (by omega), hx])
    · exact (h2.cell n1).trans (by rw [wl_at m n1 (by omega), hy])
  obtain ⟨r, hr⟩ : ∃ r, qq a b c d x y = r := ⟨_, rfl⟩
  have HC := Lib.hid (fun W => mix_any a b c d x y W)
  rw [hr] at HC
  obtain ⟨r0, r1, r2, r3⟩ := r
  dsimp only at HC
  have HE6 : Hid (gg l5 2 7 8 13 (ix m z 12) (ix m z 13) = (((l5.set 2 r0).set 7 r1).set 8 r2).set 13 r3) := Lib.hid (by
    unfold gg ix
    rw [e0, e1, Int.toNat_natCast, Int.toNat_natCast, hx, hy, ha, hb, hc, hd, hr])
  clear hr ha hb hc hd hx hy e0 e1 hi0' hi1'
  refine wp_region_T 16 (fun W => W.cell? ⟨g, 2, none⟩ = some (.int .u32 a) ∧ W.cell? ⟨g, 7, none⟩ = some (.int .u32 b) ∧ W.cell? ⟨g, 8, none⟩ = some (.int .u32 c) ∧ W.cell? ⟨g, 13, none⟩ = some (.int .u32 d)
      ∧ W.cell? ⟨g + 1 + 1, 12, none⟩ = some (.int .u8 n0) ∧ W.cell? ⟨g + 1 + 1, 13, none⟩ = some (.int .u8 n1) ∧ W.cell? ⟨g + 1, n0, none⟩ = some (.int .u32 x) ∧ W.cell? ⟨g + 1, n1, none⟩ = some (.int .u32 y)) (by kernel_rfl) ?_
  refine wpAnyT_take (i := 0) (v := ?_) rfl (by kernel_rfl) (fun _ _ _ h => h) (Or.inl ⟨by rfl, ?_⟩) hS ?_
  rotate_left
  · intro w2 hw2
    try dsimp only at hw2
    go_simp
    first | done | with_reducible rfl
  try simp only [Act.put, List.getElem_toArray, List.getElem_cons_zero, List.setIfInBounds_toArray, List.set_cons_zero, List.set_cons_succ]
  refine wpAnyT_take (i := 1) (v := ?_) rfl (by kernel_rfl) (fun _ _ _ h => h) (Or.inl ⟨by rfl, ?_⟩) hS ?_
  rotate_left
  · intro w2 hw2
    try dsimp only at hw2
    go_simp
    first | done | with_reducible rfl
  try simp only [Act.put, List.getElem_toArray, List.getElem_cons_succ, List.getElem_cons_zero, List.setIfInBounds_toArray, List.set_cons_zero, List.set_cons_succ]
  refine wpAnyT_take (i := 2) (v := ?_) rfl (by kernel_rfl) (fun _ _ _ h => h) (Or.inl ⟨by rfl, ?_⟩) hS ?_
  rotate_left
  · intro w2 hw2
    try dsimp only at hw2
    go_simp
    first | done | with_reducible rfl
  try simp only [Act.put, List.getElem_toArray, List.getElem_cons_succ, List.getElem_cons_zero, List.setIfInBounds_toArray, List.set_cons_zero, List.set_cons_succ]
  refine wpAnyT_take (i := 3) (v := ?_) rfl (by kernel_rfl) (fun _ _ _ h => h) (Or.inl ⟨by rfl, ?_⟩) hS ?_
  rotate_left
  · intro w2 hw2
    try dsimp only at hw2
    go_simp
    first | done | with_reducible rfl
  try simp only [Act.put, List.getElem_toArray, List.getElem_cons_succ, List.getElem_cons_zero, List.setIfInBounds_toArray, List.set_cons_zero, List.set_cons_succ]
  refine wpAnyT_take (i := 4) (v := ?_) rfl (by kernel_rfl) (fun _ _ _ h => h) (Or.inl ⟨by rfl, ?_⟩) hS ?_
  rotate_left
  · intro w2 hw2
    try dsimp only at hw2
    go_simp
    first | done | with_reducible rfl
  try simp only [Act.put, List.getElem_toArray, List.getElem_cons_succ, List.getElem_cons_zero, List.setIfInBounds_toArray, List.set_cons_zero, List.set_cons_succ]
  refine wpAnyT_take (i := 5) (v := ?_) rfl (by kernel_rfl) (fun _ _ _ h => h) (Or.inl ⟨by rfl, ?_⟩) hS ?_
  rotate_left
  · intro w2 hw2
    try dsimp only at hw2
    go_simp
    first | done | with_reducible rfl
  try simp only [Act.put, List.getElem_toArray, List.getElem_cons_succ, List.getElem_cons_zero, List.setIfInBounds_toArray, List.set_cons_zero, List.set_cons_succ]
  refine wpAnyT_take (i := 6) (v := ?_) rfl (by kernel_rfl) (fun _ _ _ h => h) (Or.inl ⟨by rfl, ?_⟩) hS ?_
  rotate_left
  · intro w2 hw2
    try dsimp only at hw2
    go_simp
    first | done | with_reducible rfl
  try simp only [Act.put, List.getElem_toArray, List.getElem_cons_succ, List.getElem_cons_zero, List.setIfInBounds_toArray, List.set_cons_zero, List.set_cons_succ]
  refine wpAnyT_take (i := 7) (v := ?_) rfl (by kernel_rfl) (fun _ _ _ h => h) (Or.inl ⟨by rfl, ?_⟩) hS ?_
  rotate_left
  · intro w2 hw2
    try dsimp only at hw2
    go_simp
    first | done | with_reducible rfl
  try simp only [Act.put, List.getElem_toArray, List.getElem_cons_succ, List.getElem_cons_zero, List.setIfInBounds_toArray, List.set_cons_zero, List.set_cons_succ]
  refine wpAnyT_take (i := 8) (v := ?_) rfl (by kernel_rfl) (fun _ _ _ h => h) (Or.inl ⟨by rfl, ?_⟩) hS ?_
  rotate_left
  · intro w2 hw2
    try dsimp only at hw2
    go_simp
    first | done | with_reducible rfl
  try simp only [Act.put, List.getElem_toArray, List.getElem_cons_succ, List.getElem_cons_zero, List.setIfInBounds_toArray, List.set_cons_zero, List.set_cons_succ]
  refine wpAnyT_take (i := 9) (v := ?_) rfl (by kernel_rfl) (fun _ _ _ h => h) (Or.inl ⟨by rfl, ?_⟩) hS ?_
  rotate_left
  · intro w2 hw2
    try dsimp only at hw2
    go_simp
    first | done | with_reducible rfl
  try simp only [Act.put, List.getElem_toArray, List.getElem_cons_succ, List.getElem_cons_zero, List.setIfInBounds_toArray, List.set_cons_zero, List.set_cons_succ]
  refine wpAnyT_take (i := 10) (v := ?_) rfl (by kernel_rfl) (fun _ _ _ h => h) (Or.inl ⟨by rfl, ?_⟩) hS ?_
  rotate_left
  · intro w2 hw2
    try dsimp only at hw2
    go_simp
    first | done | with_reducible rfl
  try simp only [Act.put, List.getElem_toArray, List.getElem_cons_succ, List.getElem_cons_zero, List.setIfInBounds_toArray, List.set_cons_zero, List.set_cons_succ]
  refine wpAnyT_take (i := 11) (v := ?_) rfl (by kernel_rfl) (fun _ _ _ h => h) (Or.inl ⟨by rfl, ?_⟩) hS ?_
  rotate_left
  · intro w2 hw2
    try dsimp only at hw2
    go_simp
    first | done | with_reducible rfl
  try simp only [Act.put, List.getElem_toArray, List.getElem_cons_succ, List.getElem_cons_zero, List.setIfInBounds_toArray, List.set_cons_zero, List.set_cons_succ]
  refine wpAnyT_take (i := 12) (v := ?_) rfl (by kernel_rfl) (fun _ _ _ h => h) (Or.inl ⟨by rfl, ?_⟩) hS ?_
  rotate_left
  · intro w2 hw2
    try dsimp only at hw2
    go_simp
    first | done | with_reducible rfl
  try simp only [Act.put, List.getElem_toArray, List.getElem_cons_succ, List.getElem_cons_zero, List.setIfInBounds_toArray, List.set_cons_zero, List.set_cons_succ]
  refine wpAnyT_take (i := 13) (v := ?_) rfl (by kernel_rfl) (fun _ _ _ h => h) (Or.inl ⟨by rfl, ?_⟩) hS ?_
  rotate_left
  · intro w2 hw2
    try dsimp only at hw2
    go_simp
    first | done | with_reducible rfl
  try simp only [Act.put, List.getElem_toArray, List.getElem_cons_succ, List.getElem_cons_zero, List.setIfInBounds_toArray, List.set_cons_zero, List.set_cons_succ]
  refine wpAnyT_take (i := 14) (v := ?_) rfl (by kernel_rfl) (fun _ _ _ h => h) (Or.inl ⟨by rfl, ?_⟩) hS ?_
  rotate_left
  · intro w2 hw2
    try dsimp only at hw2
    go_simp
    first | done | with_reducible rfl
  try simp only [Act.put, List.getElem_toArray, List.getElem_cons_succ, List.getElem_cons_zero, List.setIfInBounds_toArray, List.set_cons_zero, List.set_cons_succ]
  refine wpAnyT_take (i := 15) (v := ?_) rfl (by kernel_rfl) (fun _ _ _ h => h) (Or.inl ⟨by rfl, ?_⟩) hS ?_
  rotate_left
  · intro w2 hw2
    try dsimp only at hw2
    go_simp
    first | done | with_reducible rfl
  try simp only [Act.put, List.getElem_toArray, List.getElem_cons_succ, List.getElem_cons_zero, List.setIfInBounds_toArray, List.set_cons_zero, List.set_cons_succ]
  clear hS
  refine wpAnyT_gate rfl (by kernel_rfl) (fun K hK => ?_)
  go_simp
  refine (HC.out _).mono ?_
  rintro e w' ⟨rfl, rfl⟩
  refine hK.out _ _ ?_
  clear hK K HC
  refine hide_any (X := fun W => Hid (RS w g l5 m z W) ∧ Hid (RT g W)) ⟨Lib.hid ⟨HS.out.1, HS.out.2.1, HS.out.2.2.1, below_drew HS.out.2.2.2 1⟩, Lib.hid HT.out⟩ ?_
  clear HS HT W
  rintro W ⟨HS, HT⟩
  refine wpAny_take (i := 17) (v := ?_) rfl (by kernel_rfl) (by kernel_rfl) (by kernel_rfl) (fun _ _ _ h => h) (Or.inl ⟨by rfl, ?_⟩) ?_
  rotate_left
  · intro w2
    go_simp
    first | done | with_reducible rfl
  try simp only [Act.put, List.getElem_toArray, List.getElem_cons_succ, List.getElem_cons_zero, List.setIfInBounds_toArray, List.set_cons_zero, List.set_cons_succ]
  refine wpAny_take (i := 18) (v := ?_) rfl (by kernel_rfl) (by kernel_rfl) (by kernel_rfl) (fun _ _ _ h => h) (Or.inl ⟨by rfl, ?_⟩) ?_
  rotate_left
  · intro w2
    go_simp
    first | done | with_reducible rfl
  try simp only [Act.put, List.getElem_toArray, List.getElem_cons_succ, List.getElem_cons_zero, List.setIfInBounds_toArray, List.set_cons_zero, List.set_cons_succ]
  refine wpAny_take (i := 19) (v := ?_) rfl (by kernel_rfl) (by kernel_rfl) (by kernel_rfl) (fun _ _ _ h => h) (Or.inl ⟨by rfl, ?_⟩) ?_
  rotate_left
  · intro w2
    go_simp
    first | done | with_reducible rfl
  try simp only [Act.put, List.getElem_toArray, List.getElem_cons_succ, List.getElem_cons_zero, List.setIfInBounds_toArray, List.set_cons_zero, List.set_cons_succ]
  refine wpAny_take (i := 20) (v := ?_) rfl (by kernel_rfl) (by kernel_rfl) (by kernel_rfl) (fun _ _ _ h => h) (Or.inl ⟨by rfl, ?_⟩) ?_
  rotate_left
  · intro w2
    go_simp
    first | done | with_reducible rfl
  try simp only [Act.put, List.getElem_toArray, List.getElem_cons_succ, List.getElem_cons_zero, List.setIfInBounds_toArray, List.set_cons_zero, List.set_cons_succ]
  refine wpAny_take (i := 21) (v := ?_) rfl (by kernel_rfl) (by kernel_rfl) (by kernel_rfl) (fun _ _ _ h => h) (Or.inl ⟨by rfl, ?_⟩) ?_
  rotate_left
  · intro w2
    go_simp
    first | done | with_reducible rfl
  try simp only [Act.put, List.getElem_toArray, List.getElem_cons_succ, List.getElem_cons_zero, List.setIfInBounds_toArray, List.set_cons_zero, List.set_cons_succ]
  refine wpAny_take (i := 22) (v := ?_) rfl (by kernel_rfl) (by kernel_rfl) (by kernel_rfl) (fun _ _ _ h => h) (Or.inl ⟨by rfl, ?_⟩) ?_
  rotate_left
  · intro w2
    go_simp
    first | done | with_reducible rfl
  try simp only [Act.put, List.getElem_toArray, List.getElem_cons_succ, List.getElem_cons_zero, List.setIfInBounds_toArray, List.set_cons_zero, List.set_cons_succ]
  have hcc := (HS.out.1.cell 2).trans (wl_at _ 2 (by first | omega | (simp; omega)))
  have hcf := HS.out.1.frozen 2
  refine wpAny_one (i := 23) rfl (by kernel_rfl) (fun K hK => ?_)
  go_simp
  refine hK.out _ _ ?_
  clear hK K hcc hcf
  try simp only [Act.put, List.getElem_toArray, List.getElem_cons_succ, List.getElem_cons_zero, List.setIfInBounds_toArray, List.set_cons_zero, List.set_cons_succ]
  refine hide_any (X := fun W => Hid (RS w g (l5.set 2 r0) m z W) ∧ Hid (RT g W)) ⟨Lib.hid (HS.out.set 2 r0 HG.out), Lib.hid (HT.out.set 2 _)⟩ ?_
  clear HS HT W
  rintro W ⟨HS, HT⟩
  refine wpAny_take (i := 24) (v := ?_) rfl (by kernel_rfl) (by kernel_rfl) (by kernel_rfl) (fun _ _ _ h => h) (Or.inl ⟨by rfl, ?_⟩) ?_
  rotate_left
  · intro w2
    go_simp
    first | done | with_reducible rfl
  try simp only [Act.put, List.getElem_toArray, List.getElem_cons_succ, List.getElem_cons_zero, List.setIfInBounds_toArray, List.set_cons_zero, List.set_cons_succ]
  have hcc := (HS.out.1.cell 7).trans (wl_at _ 7 (by first | omega | (simp; omega)))
  have hcf := HS.out.1.frozen 7
  refine wpAny_one (i := 25) rfl (by kernel_rfl) (fun K hK => ?_)
  go_simp
  refine hK.out _ _ ?_
  clear hK K hcc hcf
  try simp only [Act.put, List.getElem_toArray, List.getElem_cons_succ, List.getElem_cons_zero, List.setIfInBounds_toArray, List.set_cons_zero, List.set_cons_succ]
  refine hide_any (X := fun W => Hid (RS w g ((l5.set 2 r0).set 7 r1) m z W) ∧ Hid (RT g W)) ⟨Lib.hid (HS.out.set 7 r1 HG.out), Lib.hid (HT.out.set 7 _)⟩ ?_
  clear HS HT W
  rintro W ⟨HS, HT⟩
  refine wpAny_take (i := 26) (v := ?_) rfl (by kernel_rfl) (by kernel_rfl) (by kernel_rfl) (fun _ _ _ h => h) (Or.inl ⟨by rfl, ?_⟩) ?_
  rotate_left
  · intro w2
    go_simp
    first | done | with_reducible rfl
  try simp only [Act.put, List.getElem_toArray, List.getElem_cons_succ, List.getElem_cons_zero, List.setIfInBounds_toArray, List.set_cons_zero, List.set_cons_succ]
  have hcc := (HS.out.1.cell 8).trans (wl_at _ 8 (by first | omega | (simp; omega)))
  have hcf := HS.out.1.frozen 8
  refine wpAny_one (i := 27) rfl (by kernel_rfl) (fun K hK => ?_)
  go_simp
  refine hK.out _ _ ?_
  clear hK K hcc hcf
  try simp only [Act.put, List.getElem_toArray, List.getElem_cons_succ, List.getElem_cons_zero, List.setIfInBounds_toArray, List.set_cons_zero, List.set_cons_succ]
  refine hide_any (X := fun W => Hid (RS w g (((l5.set 2 r0).set 7 r1).set 8 r2) m z W) ∧ Hid (RT g W)) ⟨Lib.hid (HS.out.set 8 r2 HG.out), Lib.hid (HT.out.set 8 _)⟩ ?_
  clear HS HT W
  rintro W ⟨HS, HT⟩
  refine wpAny_take (i := 28) (v := ?_) rfl (by kernel_rfl) (by kernel_rfl) (by kernel_rfl) (fun _ _ _ h => h) (Or.inl ⟨by rfl, ?_⟩) ?_
  rotate_left
  · intro w2
    go_simp
    first | done | with_reducible rfl
  try simp only [Act.put, List.getElem_toArray, List.getElem_cons_succ, List.getElem_cons_zero, List.setIfInBounds_toArray, List.set_cons_zero, List.set_cons_succ]
  have hcc := (HS.out.1.cell 13).trans (wl_at _ 13 (by first | omega | (simp; omega)))
  have hcf := HS.out.1.frozen 13
  refine wpAny_one (i := 29) rfl (by kernel_rfl) (fun K hK => ?_)
  go_simp
  refine hK.out _ _ ?_
  clear hK K hcc hcf
  try simp only [Act.put, List.getElem_toArray, List.getElem_cons_succ, List.getElem_cons_zero, List.setIfInBounds_toArray, List.set_cons_zero, List.set_cons_succ]
  refine hide_any (X := fun W => Hid (RS w g ((((l5.set 2 r0).set 7 r1).set 8 r2).set 13 r3) m z W) ∧ Hid (RT g W)) ⟨Lib.hid (HS.out.set 13 r3 HG.out), Lib.hid (HT.out.set 13 _)⟩ ?_
  clear HS HT W
  rintro W ⟨HS, HT⟩
  refine wpAny_done (by kernel_rfl) ?_ _
  obtain ⟨l6, hl6⟩ : ∃ l', (((l5.set 2 r0).set 7 r1).set 8 r2).set 13 r3 = l' := ⟨_, rfl⟩
  have hlen : l6.length = 16 := by rw [← hl6]; simpa using hl
  rw [hl6] at HS HE6
  clear hl6 hl
  have hl := hlen
  clear hlen hi0 hi1
  go_wp2_with fail
  obtain ⟨n0, hi0', e0⟩ := hz' 14 (by decide)
  obtain ⟨n1, hi1', e1⟩ := hz' 15 (by decide)
  have hi0 : ((n0 : Nat) : Int) < 16 := by omega
  have hi1 : ((n1 : Nat) : Int) < 16 := by omega
  obtain ⟨a, ha⟩ : ∃ v, l6.getD 3 0 = v := ⟨_, rfl⟩
  obtain ⟨b, hb⟩ : ∃ v, l6.getD 4 0 = v := ⟨_, rfl⟩
  obtain ⟨c, hc⟩ : ∃ v, l6.getD 9 0 = v := ⟨_, rfl⟩
  obtain ⟨d, hd⟩ : ∃ v, l6.getD 14 0 = v := ⟨_, rfl⟩
  obtain ⟨x, hx⟩ : ∃ v, m.getD n0 0 = v := ⟨_, rfl⟩
  obtain ⟨y, hy⟩ : ∃ v, m.getD n1 0 = v := ⟨_, rfl⟩
  have hS : W.drew.cell? ⟨g, 3, none⟩ = some (.int .u32 a) ∧ W.drew.cell? ⟨g, 4, none⟩ = some (.int .u32 b) ∧ W.drew.cell? ⟨g, 9, none⟩ = some (.int .u32 c) ∧ W.drew.cell? ⟨g, 14, none⟩ = some (.int .u32 d)
      ∧ W.drew.cell? ⟨g + 1 + 1, 14, none⟩ = some (.int .u8 n0) ∧ W.drew.cell? ⟨g + 1 + 1, 15, none⟩ = some (.int .u8 n1) ∧ W.drew.cell? ⟨g + 1, n0, none⟩ = some (.int .u32 x) ∧ W.drew.cell? ⟨g + 1, n1, none⟩ = some (.int .u32 y) := by
    obtain ⟨h1, h2, h3, -⟩ := HS.out
    refine ⟨?_, ?_, ?_, ?_, ?_, ?_, ?_, ?_⟩
    · exact (h1.cell 3).trans (by rw [wl_at l6 3 (by omega), ha])
    · exact (h1.cell 4).trans (by rw [wl_at l6 4 (by omega), hb])
    · exact (h1.cell 9).trans (by rw [wl_at l6 9 (by omega), hc])
    · exact (h1.cell 14).trans (by rw [wl_at l6 14 (by omega), hd])
    · exact (h3.cell 14).trans (by rw [zl_at z 14 (by omega), e0])
    · exact (h3.cell 15).trans (by rw [zl_at z 15 (by omega), e1])
    · exact (h2.cell n0).trans (by rw [wl_at m n0 (by omega), hx])
    · exact (h2.cell n1).trans (by rw [wl_at m n1 (by omega), hy])
  obtain ⟨r, hr⟩ : ∃ r, qq a b c d x y = r := ⟨_, rfl⟩
  have HC := Lib.hid (fun W => mix_any a b c d x y W)
  rw [hr] at HC
  obtain ⟨r0, r1, r2, r3⟩ := r
  dsimp only at HC
  have HE7 : Hid (gg l6 3 4 9 14 (ix m z 14) (ix m z 15) = (((l6.set 3 r0).set 4 r1).set 9 r2).set 14 r3) := Lib.hid (by
    unfold gg ix
    rw [e0, e1, Int.toNat_natCast, Int.toNat_natCast, hx, hy, ha, hb, hc, hd, hr])
  clear hr ha hb hc hd hx hy e0 e1 hi0' hi1'
  refine wp_region_T 16 (fun W => W.cell? ⟨g, 3, none⟩ = some (.int .u32 a) ∧ W.cell? ⟨g, 4, none⟩ = some (.int .u32 b) ∧ W.cell? ⟨g, 9, none⟩ = some (.int .u32 c) ∧ W.cell? ⟨g, 14, none⟩ = some (.int .u32 d)
      ∧ W.cell? ⟨g + 1 + 1, 14, none⟩ = some (.int .u8 n0) ∧ W.cell? ⟨g + 1 + 1, 15, none⟩ = some (.int .u8 n1) ∧ W.cell? ⟨g + 1, n0, none⟩ = some (.int .u32 x) ∧ W.cell? ⟨g + 1, n1, none⟩ = some (.int .u32 y)) (by kernel_rfl) ?_
  refine wpAnyT_take (i := 0) (v := ?_) rfl (by kernel_rfl) (fun _ _ _ h => h) (Or.inl ⟨by rfl, ?_⟩) hS ?_
  rotate_left
  · intro w2 hw2
    try dsimp only at hw2
    go_simp
    first | done | with_reducible rfl
  try simp only [Act.put, List.getElem_toArray, List.getElem_cons_zero, List.setIfInBounds_toArray, List.set_cons_zero, List.set_cons_succ]
  refine wpAnyT_take (i := 1) (v := ?_) rfl (by kernel_rfl) (fun _ _ _ h => h) (Or.inl ⟨by rfl, ?_⟩) hS ?_
  rotate_left
  · intro w2 hw2
    try dsimp only at hw2
    go_simp
    first | done | with_reducible rfl
  try simp only [Act.put, List.getElem_toArray, List.getElem_cons_succ, List.getElem_cons_zero, List.setIfInBounds_toArray, List.set_cons_zero, List.set_cons_succ]
  refine wpAnyT_take (i := 2) (v := ?_) rfl (by kernel_rfl) (fun _ _ _ h => h) (Or.inl ⟨by rfl, ?_⟩) hS ?_
  rotate_left
  · intro w2 hw2
    try dsimp only at hw2
    go_simp
    first | done | with_reducible rfl
  try simp only [Act.put, List.getElem_toArray, List.getElem_cons_succ, List.getElem_cons_zero, List.setIfInBounds_toArray, List.set_cons_zero, List.set_cons_succ]
  refine wpAnyT_take (i := 3) (v := ?_) rfl (by kernel_rfl) (fun _ _ _ h => h) (Or.inl ⟨by rfl, ?_⟩) hS ?_
  rotate_left
  · intro w2 hw2
    try dsimp only at hw2
    go_simp
    first | done | with_reducible rfl
  try simp only [Act.put, List.getElem_toArray, List.getElem_cons_succ, List.getElem_cons_zero, List.setIfInBounds_toArray, List.set_cons_zero, List.set_cons_succ]
  refine wpAnyT_take (i := 4) (v := ?_) rfl (by kernel_rfl) (fun _ _ _ h => h) (Or.inl ⟨by rfl, ?_⟩) hS ?_
  rotate_left
  · intro w2 hw2
    try dsimp only at hw2
    go_simp
    first | done | with_reducible rfl
  try simp only [Act.put, List.getElem_toArray, List.getElem_cons_succ, List.getElem_cons_zero, List.setIfInBounds_toArray, List.set_cons_zero, List.set_cons_succ]
  refine wpAnyT_take (i := 5) (v := ?_) rfl (by kernel_rfl) (fun _ _ _ h => h) (Or.inl ⟨by rfl, ?_⟩) hS ?_
  rotate_left
  · intro w2 hw2
    try dsimp only at hw2
    go_simp
    first | done | with_reducible rfl
  try simp only [Act.put, List.getElem_toArray, List.getElem_cons_succ, List.getElem_cons_zero, List.setIfInBounds_toArray, List.set_cons_zero, List.set_cons_succ]
  refine wpAnyT_take (i := 6) (v := ?_) rfl (by kernel_rfl) (fun _ _ _ h => h) (Or.inl ⟨by rfl, ?_⟩) hS ?_
  rotate_left
  · intro w2 hw2
    try dsimp only at hw2
    go_simp
    first | done | with_reducible rfl
  try simp only [Act.put, List.getElem_toArray, List.getElem_cons_succ, List.getElem_cons_zero, List.setIfInBounds_toArray, List.set_cons_zero, List.set_cons_succ]
  refine wpAnyT_take (i := 7) (v := ?_) rfl (by kernel_rfl) (fun _ _ _ h => h) (Or.inl ⟨by rfl, ?_⟩) hS ?_
  rotate_left
  · intro w2 hw2
    try dsimp only at hw2
    go_simp
    first | done | with_reducible rfl
  try simp only [Act.put, List.getElem_toArray, List.getElem_cons_succ, List.getElem_cons_zero, List.setIfInBounds_toArray, List.set_cons_zero, List.set_cons_succ]
  refine wpAnyT_take (i := 8) (v := ?_) rfl (by kernel_rfl) (fun _ _ _ h => h) (Or.inl ⟨by rfl, ?_⟩) hS ?_
  rotate_left
  · intro w2 hw2
    try dsimp only at hw2
    go_simp
    first | done | with_reducible rfl
  try simp only [Act.put, List.getElem_toArray, List.getElem_cons_succ, List.getElem_cons_zero, List.setIfInBounds_toArray, List.set_cons_zero, List.set_cons_succ]
  refine wpAnyT_take (i := 9) (v := ?_) rfl (by kernel_rfl) (fun _ _ _ h => h) (Or.inl ⟨by rfl, ?_⟩) hS ?_
  rotate_left
  · intro w2 hw2
    try dsimp only at hw2
    go_simp
    first | done | with_reducible rfl
  try simp only [Act.put, List.getElem_toArray, List.getElem_cons_succ, List.getElem_cons_zero, List.setIfInBounds_toArray, List.set_cons_zero, List.set_cons_succ]
  refine wpAnyT_take (i := 10) (v := ?_) rfl (by kernel_rfl) (fun _ _ _ h => h) (Or.inl ⟨by rfl, ?_⟩) hS ?_
  rotate_left
  · intro w2 hw2
    try dsimp only at hw2
    go_simp
    first | done | with_reducible rfl
  try simp only [Act.put, List.getElem_toArray, List.getElem_cons_succ, List.getElem_cons_zero, List.setIfInBounds_toArray, List.set_cons_zero, List.set_cons_succ]
  refine wpAnyT_take (i := 11) (v := ?_) rfl (by kernel_rfl) (fun _ _ _ h => h) (Or.inl ⟨by rfl, ?_⟩) hS ?_
  rotate_left
  · intro w2 hw2
    try dsimp only at hw2
    go_simp
    first | done | with_reducible rfl
  try simp only [Act.put, List.getElem_toArray, List.getElem_cons_succ, List.getElem_cons_zero, List.setIfInBounds_toArray, List.set_cons_zero, List.set_cons_succ]
  refine wpAnyT_take (i := 12) (v := ?_) rfl (by kernel_rfl) (fun _ _ _ h => h) (Or.inl ⟨by rfl, ?_⟩) hS ?_
  rotate_left
  · intro w2 hw2
    try dsimp only at hw2
    go_simp
    first | done | with_reducible rfl
  try simp only [Act.put, List.getElem_toArray, List.getElem_cons_succ, List.getElem_cons_zero, List.setIfInBounds_toArray, List.set_cons_zero, List.set_cons_succ]
  refine wpAnyT_take (i := 13) (v := ?_) rfl (by kernel_rfl) (fun _ _ _ h => h) (Or.inl ⟨by rfl, ?_⟩) hS ?_
  rotate_left
  · intro w2 hw2
    try dsimp only at hw2
    go_simp
    first | done | with_reducible rfl
  try simp only [Act.put, List.getElem_toArray, List.getElem_cons_succ, List.getElem_cons_zero, List.setIfInBounds_toArray, List.set_cons_zero, List.set_cons_succ]
  refine wpAnyT_take (i := 14) (v := ?_) rfl (by kernel_rfl) (fun _ _ _ h => h) (Or.inl ⟨by rfl, ?_⟩) hS ?_
  rotate_left
  · intro w2 hw2
    try dsimp only at hw2
    go_simp
    first | done | with_reducible rfl
  try simp only [Act.put, List.getElem_toArray, List.getElem_cons_succ, List.getElem_cons_zero, List.setIfInBounds_toArray, List.set_cons_zero, List.set_cons_succ]
  refine wpAnyT_take (i := 15) (v := ?_) rfl (by kernel_rfl) (fun _ _ _ h => h) (Or.inl ⟨by rfl, ?_⟩) hS ?_
  rotate_left
  · intro w2 hw2
    try dsimp only at hw2
    go_simp
    first | done | with_reducible rfl
  try simp only [Act.put, List.getElem_toArray, List.getElem_cons_succ, List.getElem_cons_zero, List.setIfInBounds_toArray, List.set_cons_zero, List.set_cons_succ]
  clear hS
  refine wpAnyT_gate rfl (by kernel_rfl) (fun K hK => ?_)
  go_simp
  refine (HC.out _).mono ?_
  rintro e w' ⟨rfl, rfl⟩
  refine hK.out _ _ ?_
  clear hK K HC
  refine hide_any (X := fun W => Hid (RS w g l6 m z W) ∧ Hid (RT g W)) ⟨Lib.hid ⟨HS.out.1, HS.out.2.1, HS.out.2.2.1, below_drew HS.out.2.2.2 1⟩, Lib.hid HT.out⟩ ?_
  clear HS HT W
  rintro W ⟨HS, HT⟩
  refine wpAny_take (i := 17) (v := ?_) rfl (by kernel_rfl) (by kernel_rfl) (by kernel_rfl) (fun _ _ _ h => h) (Or.inl ⟨by rfl, ?_⟩) ?_
  rotate_left
  · intro w2
    go_simp
    first | done | with_reducible rfl
  try simp only [Act.put, List.getElem_toArray, List.getElem_cons_succ, List.getElem_cons_zero, List.setIfInBounds_toArray, List.set_cons_zero, List.set_cons_succ]
  refine wpAny_take (i := 18) (v := ?_) rfl (by kernel_rfl) (by kernel_rfl) (by kernel_rfl) (fun _ _ _ h => h) (Or.inl ⟨by rfl, ?_⟩) ?_
  rotate_left
  · intro w2
    go_simp
    first | done | with_reducible rfl
  try simp only [Act.put, List.getElem_toArray, List.getElem_cons_succ, List.getElem_cons_zero, List.setIfInBounds_toArray, List.set_cons_zero, List.set_cons_succ]
  refine wpAny_take (i := 19) (v := ?_) rfl (by kernel_rfl) (by kernel_rfl) (by kernel_rfl) (fun _ _ _ h => h) (Or.inl ⟨by rfl, ?_⟩) ?_
  rotate_left
  · intro w2
    go_simp
    first | done | with_reducible rfl
  try simp only [Act.put, List.getElem_toArray, List.getElem_cons_succ, List.getElem_cons_zero, List.setIfInBounds_toArray, List.set_cons_zero, List.set_cons_succ]
  refine wpAny_take (i := 20) (v := ?_) rfl (by kernel_rfl) (by kernel_rfl) (by kernel_rfl) (fun _ _ _ h => h) (Or.inl ⟨by rfl, ?_⟩) ?_
  rotate_left
  · intro w2
    go_simp
    first | done | with_reducible rfl
  try simp only [Act.put, List.getElem_toArray, List.getElem_cons_succ, List.getElem_cons_zero, List.setIfInBounds_toArray, List.set_cons_zero, List.set_cons_succ]
  refine wpAny_take (i := 21) (v := ?_) rfl (by kernel_rfl) (by kernel_rfl) (by kernel_rfl) (fun _ _ _ h => h) (Or.inl ⟨by rfl, ?_⟩) ?_
  rotate_left
  · intro w2
    go_simp
    first | done | with_reducible rfl
  try simp only [Act.put, List.getElem_toArray, List.getElem_cons_succ, List.getElem_cons_zero, List.setIfInBounds_toArray, List.set_cons_zero, List.set_cons_succ]
  refine wpAny_take (i := 22) (v := ?_) rfl (by kernel_rfl) (by kernel_rfl) (by kernel_rfl) (fun _ _ _ h => h) (Or.inl ⟨by rfl, ?_⟩) ?_
  rotate_left
  · intro w2
    go_simp
    first | done | with_reducible rfl
  try simp only [Act.put, List.getElem_toArray, List.getElem_cons_succ, List.getElem_cons_zero, List.setIfInBounds_toArray, List.set_cons_zero, List.set_cons_succ]
  have hcc := (HS.out.1.cell 3).trans (wl_at _ 3 (by first | omega | (simp; omega)))
  have hcf := HS.out.1.frozen 3
  refine wpAny_one (i := 23) rfl (by kernel_rfl) (fun K hK => ?_)
  go_simp
  refine hK.out _ _ ?_
  clear hK K hcc hcf
  try simp only [Act.put, List.getElem_toArray, List.getElem_cons_succ, List.getElem_cons_zero, List.setIfInBounds_toArray, List.set_cons_zero, List.set_cons_succ]
  refine hide_any (X := fun W => Hid (RS w g (l6.set 3 r0) m z W) ∧ Hid (RT g W)) ⟨Lib.hid (HS.out.set 3 r0 HG.out), Lib.hid (HT.out.set 3 _)⟩ ?_
  clear HS HT W
  rintro W ⟨HS, HT⟩
  refine wpAny_take (i := 24) (v := ?_) rfl (by kernel_rfl) (by kernel_rfl) (by kernel_rfl) (fun _ _ _ h => h) (Or.inl ⟨by rfl, ?_⟩) ?_
  rotate_left
  · intro w2
    go_simp
    first | done | with_reducible rfl
  try simp only [Act.put, List.getElem_toArray, List.getElem_cons_succ, List.getElem_cons_zero, List.setIfInBounds_toArray, List.set_cons_zero, List.set_cons_succ]
  have hcc := (HS.out.1.cell 4).trans (wl_at _ 4 (by first | omega | (simp; omega)))
  have hcf := HS.out.1.frozen 4
  refine wpAny_one (i := 25) rfl (by kernel_rfl) (fun K hK => ?_)
  go_simp
  refine hK.out _ _ ?_
  clear hK K hcc hcf
  try simp only [Act.put, List.getElem_toArray, List.getElem_cons_succ, List.getElem_cons_zero, List.setIfInBounds_toArray, List.set_cons_zero, List.set_cons_succ]
  refine hide_any (X := fun W => Hid (RS w g ((l6.set 3 r0).set 4 r1) m z W) ∧ Hid (RT g W)) ⟨Lib.hid (HS.out.set 4 r1 HG.out), Lib.hid (HT.out.set 4 _)⟩ ?_
  clear HS HT W
  rintro W ⟨HS, HT⟩
  refine wpAny_take (i := 26) (v := ?_) rfl (by kernel_rfl) (by kernel_rfl) (by kernel_rfl) (fun _ _ _ h => h) (Or.inl ⟨by rfl, ?_⟩) ?_
  rotate_left
  · intro w2
    go_simp
    first | done | with_reducible rfl
  try simp only [Act.put, List.getElem_toArray, List.getElem_cons_succ, List.getElem_cons_zero, List.setIfInBounds_toArray, List.set_cons_zero, List.set_cons_succ]
  have hcc := (HS.out.1.cell 9).trans (wl_at _ 9 (by first | omega | (simp; omega)))
  have hcf := HS.out.1.frozen 9
  refine wpAny_one (i := 27) rfl (by kernel_rfl) (fun K hK => ?_)
  go_simp
  refine hK.out _ _ ?_
  clear hK K hcc hcf
  try simp only [Act.put, List.getElem_toArray, List.getElem_cons_succ, List.getElem_cons_zero, List.setIfInBounds_toArray, List.set_cons_zero, List.set_cons_succ]
  refine hide_any (X := fun W => Hid (RS w g (((l6.set 3 r0).set 4 r1).set 9 r2) m z W) ∧ Hid (RT g W)) ⟨Lib.hid (HS.out.set 9 r2 HG.out), Lib.hid (HT.out.set 9 _)⟩ ?_
  clear HS HT W
  rintro W ⟨HS, HT⟩
  refine wpAny_take (i := 28) (v := ?_) rfl (by kernel_rfl) (by kernel_rfl) (by kernel_rfl) (fun _ _ _ h => h) (Or.inl ⟨by rfl, ?_⟩) ?_
  rotate_left
  · intro w2
    go_simp
    first | done | with_reducible rfl
  try simp only [Act.put, List.getElem_toArray, List.getElem_cons_succ, List.getElem_cons_zero, List.setIfInBounds_toArray, List.set_cons_zero, List.set_cons_succ]
  have hcc := (HS.out.1.cell 14).trans (wl_at _ 14 (by first | omega | (simp; omega)))
  have hcf := HS.out.1.frozen 14
  refine wpAny_one (i := 29) rfl (by kernel_rfl) (fun K hK => ?_)
  go_simp
  refine hK.out _ _ ?_
  clear hK K hcc hcf
  try simp only [Act.put, List.getElem_toArray, List.getElem_cons_succ, List.getElem_cons_zero, List.setIfInBounds_toArray, List.set_cons_zero, List.set_cons_succ]
  refine hide_any (X := fun W => Hid (RS w g ((((l6.set 3 r0).set 4 r1).set 9 r2).set 14 r3) m z W) ∧ Hid (RT g W)) ⟨Lib.hid (HS.out.set 14 r3 HG.out), Lib.hid (HT.out.set 14 _)⟩ ?_
  clear HS HT W
  rintro W ⟨HS, HT⟩
  refine wpAny_done (by kernel_rfl) ?_ _
  obtain ⟨l7, hl7⟩ : ∃ l', (((l6.set 3 r0).set 4 r1).set 9 r2).set 14 r3 = l' := ⟨_, rfl⟩
  have hlen : l7.length = 16 := by rw [← hl7]; simpa using hl
  rw [hl7] at HS HE7
  clear hl7 hl
  have hl := hlen
  clear hlen hi0 hi1
  go_upto_region 9 with fail
  obtain ⟨cs, hT1, hT2⟩ := HT.out
  refine wp_region_lit ?_
  refine wpList_load_row rfl 82 (.tmp 3) rfl g rfl _ _ (0, 0) _ HS.out.1 Tryd.underlying82 rfl (by rw [blockInfo, wl_size, hl]) ?_
  simp only [Act.put, List.setIfInBounds_toArray, List.set_cons_zero, List.set_cons_succ]
  refine wpList_store_row rfl 82 (.tmp 6) (.tmp 215) rfl (g + 1 + 1 + 1) (wl l7) rfl rfl _ _ hT1 (by rw [blockInfo, wl_size, hl]) (by rw [wl_size, hl, hT2]) (wl_one _) ?_
  have HE := Lib.hid (Blk.row hT1 (wl l7))
  have HB := Lib.hid (below_row HS.out.2.2.2 (show g ≤ g + 1 + 1 + 1 by omega) (wl l7))
  clear HS HT hT1
  generalize W.setRow (g + 1 + 1 + 1) (wl l7) = we at *
  simp only [Act.put]
  refine wpList_nil ?_
  go_wp2_with fail
  refine bodyPost_ret (results_cell_row rfl _ _ (g + 1 + 1 + 1) _ _ (0, 0) _ rfl HE.out Tryd.underlying82 rfl (by rw [blockInfo, wl_size, hl])) rfl ⟨?_, ?_⟩
  · have hr : rnd l m z = gg (gg (gg (gg (gg (gg (gg (gg l 0 4 8 12 (ix m z 0) (ix m z 1)) 1 5 9 13 (ix m z 2) (ix m z 3)) 2 6 10 14 (ix m z 4) (ix m z 5)) 3 7 11 15 (ix m z 6) (ix m z 7)) 0 5 10 15 (ix m z 8) (ix m z 9)) 1 6 11 12 (ix m z 10) (ix m z 11)) 2 7 8 13 (ix m z 12) (ix m z 13)) 3 4 9 14 (ix m z 14) (ix m z 15) := rfl
    rw [hr, HE0.out, HE1.out, HE2.out, HE3.out, HE4.out, HE5.out, HE6.out, HE7.out]
  · rw [hgw]; exact HB.out
end Go.Proofs.YtfmjankmfddefaaDoor.Dg
