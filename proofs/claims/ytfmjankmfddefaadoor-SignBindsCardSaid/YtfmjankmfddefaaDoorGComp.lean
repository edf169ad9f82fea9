/- digest.compress: the state that follows. Conditions: the state has 8 words and the block 16; the length is within the model's reach; the listed variables hold what they are laid with. -/
import Derived.Test.YtfmjankmfddefaaDoorGRound
namespace Go.Proofs.YtfmjankmfddefaaDoor.Dg
open Go.RowKit Gm
set_option linter.unusedVariables false

/-- What the two listed variables hold. -/
def Tb (W : World) : Prop := W.rangeAt 0 0 (startL.map (Value.int .u32)) ∧ W.rangeAt 3 0 (ordersL.flatten.map (Value.int .u8))

theorem Tb.below {w w' : World} {B : Nat} (h : Tb w) (hb : Below B w w') (hB : w.heap.size ≤ B) : Tb w' := by
  refine ⟨fun j v hv => ?_, fun j v hv => ?_⟩
  · have hc := h.1 j v hv
    have hl := World.block_lt_of_cell? w _ hc
    exact (hb.cell (p := ⟨0, 0 + j, none⟩) (Nat.lt_of_lt_of_le hl hB)).trans hc
  · have hc := h.2 j v hv
    have hl := World.block_lt_of_cell? w _ hc
    exact (hb.cell (p := ⟨3, 0 + j, none⟩) (Nat.lt_of_lt_of_le hl hB)).trans hc
theorem ordersInfo : (Tryd.prog.info? 95).map (·.size) = some ((ordersL.flatten.map (Value.int .u8)).length) := by kernel_rfl
theorem idx_o0 (W : World) : (Instr.index 95 (.agg (ordersL.flatten.map (Value.int .u8)).toArray) (.int .i64 ((0 : Nat) : Int))).run Tryd.prog W = .ok (.agg (zl (ordersL.getD 0 []))) W := by kernel_rfl
theorem idx_o1 (W : World) : (Instr.index 95 (.agg (ordersL.flatten.map (Value.int .u8)).toArray) (.int .i64 ((1 : Nat) : Int))).run Tryd.prog W = .ok (.agg (zl (ordersL.getD 1 []))) W := by kernel_rfl
theorem idx_o2 (W : World) : (Instr.index 95 (.agg (ordersL.flatten.map (Value.int .u8)).toArray) (.int .i64 ((2 : Nat) : Int))).run Tryd.prog W = .ok (.agg (zl (ordersL.getD 2 []))) W := by kernel_rfl
theorem idx_o3 (W : World) : (Instr.index 95 (.agg (ordersL.flatten.map (Value.int .u8)).toArray) (.int .i64 ((3 : Nat) : Int))).run Tryd.prog W = .ok (.agg (zl (ordersL.getD 3 []))) W := by kernel_rfl
theorem idx_o4 (W : World) : (Instr.index 95 (.agg (ordersL.flatten.map (Value.int .u8)).toArray) (.int .i64 ((4 : Nat) : Int))).run Tryd.prog W = .ok (.agg (zl (ordersL.getD 4 []))) W := by kernel_rfl
theorem idx_o5 (W : World) : (Instr.index 95 (.agg (ordersL.flatten.map (Value.int .u8)).toArray) (.int .i64 ((5 : Nat) : Int))).run Tryd.prog W = .ok (.agg (zl (ordersL.getD 5 []))) W := by kernel_rfl
theorem idx_o6 (W : World) : (Instr.index 95 (.agg (ordersL.flatten.map (Value.int .u8)).toArray) (.int .i64 ((6 : Nat) : Int))).run Tryd.prog W = .ok (.agg (zl (ordersL.getD 6 []))) W := by kernel_rfl
theorem idx_o7 (W : World) : (Instr.index 95 (.agg (ordersL.flatten.map (Value.int .u8)).toArray) (.int .i64 ((7 : Nat) : Int))).run Tryd.prog W = .ok (.agg (zl (ordersL.getD 7 []))) W := by kernel_rfl
theorem idx_o8 (W : World) : (Instr.index 95 (.agg (ordersL.flatten.map (Value.int .u8)).toArray) (.int .i64 ((8 : Nat) : Int))).run Tryd.prog W = .ok (.agg (zl (ordersL.getD 8 []))) W := by kernel_rfl
theorem idx_o9 (W : World) : (Instr.index 95 (.agg (ordersL.flatten.map (Value.int .u8)).toArray) (.int .i64 ((9 : Nat) : Int))).run Tryd.prog W = .ok (.agg (zl (ordersL.getD 9 []))) W := by kernel_rfl
theorem idx_orders (k : Nat) (hk : k < 10) (W : World) : (Instr.index 95 (.agg (ordersL.flatten.map (Value.int .u8)).toArray) (.int .i64 k)).run Tryd.prog W = .ok (.agg (zl (ordersL.getD k []))) W := by
  have hc : k = 0 ∨ k = 1 ∨ k = 2 ∨ k = 3 ∨ k = 4 ∨ k = 5 ∨ k = 6 ∨ k = 7 ∨ k = 8 ∨ k = 9 := by omega
  rcases hc with rfl | rfl | rfl | rfl | rfl | rfl | rfl | rfl | rfl | rfl
  · exact idx_o0 W
  · exact idx_o1 W
  · exact idx_o2 W
  · exact idx_o3 W
  · exact idx_o4 W
  · exact idx_o5 W
  · exact idx_o6 W
  · exact idx_o7 W
  · exact idx_o8 W
  · exact idx_o9 W
theorem order_ok (k : Nat) (hk : k < 10) : (ordersL.getD k []).length = 16 ∧ ∀ i, i < 16 → ∃ n : Nat, n < 16 ∧ (ordersL.getD k []).getD i 0 = n := by
  have h : ∀ k : Fin 10, (ordersL.getD k.val []).length = 16 ∧ ∀ i : Fin 16, 0 ≤ (ordersL.getD k.val []).getD i.val 0 ∧ (ordersL.getD k.val []).getD i.val 0 < 16 := by decide +kernel
  obtain ⟨h1, h2⟩ := h ⟨k, hk⟩
  refine ⟨h1, fun i hi => ?_⟩
  obtain ⟨h3, h4⟩ := h2 ⟨i, hi⟩
  dsimp only at h3 h4
  exact ⟨((ordersL.getD k []).getD i 0).toNat, by omega, by omega⟩
/-- The state, of which the first k words are the new ones. -/
def finK (h v : List Int) (k : Nat) : List Int := (List.range 8).map fun i => if i < k then fin h v i else h.getD i 0
theorem finK_length (h v : List Int) (k : Nat) : (finK h v k).length = 8 := by simp [finK]
theorem finK_zero (h v : List Int) (hh : h.length = 8) : finK h v 0 = h := by
  apply List.ext_getElem
  · simp [finK, hh]
  · intro i h1 h2
    simp only [finK, List.getElem_map, List.getElem_range]
    rw [if_neg (by omega), List.getD_eq_getElem?_getD, List.getElem?_eq_getElem h2]; rfl
theorem finK_all (h v : List Int) : finK h v 8 = (List.range 8).map (fin h v) := by
  apply List.map_congr_left
  intro i hi
  rw [if_pos (List.mem_range.1 hi)]
theorem finK_at (h v : List Int) (k : Nat) (hk : k < 8) : (finK h v k).getD k 0 = h.getD k 0 := by
  rw [List.getD_eq_getElem?_getD, List.getElem?_eq_getElem (by rw [finK_length]; exact hk)]
  simp only [finK, List.getElem_map, List.getElem_range, Option.getD_some]
  rw [if_neg (by omega)]
theorem finK_succ (h v : List Int) (k : Nat) : finK h v (k + 1) = (finK h v k).set k (fin h v k) := by
  apply List.ext_getElem
  · simp [finK]
  · intro i h1 h2
    rw [List.getElem_set]
    simp only [finK, List.getElem_map, List.getElem_range]
    by_cases e : k = i
    · subst e; rw [if_pos rfl, if_pos (by omega)]
    · rw [if_neg e]
      by_cases h : i < k
      · rw [if_pos h, if_pos (by omega)]
      · rw [if_neg h, if_neg (by omega)]
/-- What the walk of compress knows of the world. -/
def CW (h m : List Int) (w : World) (g : Nat) (W : World) (v : List Int) : Prop :=
  Blk W g 80 (wl h) ∧ Blk W (g + 1) 82 (wl m) ∧ (∃ cs, Blk W (g + 1 + 1) 80 cs ∧ cs.size = 8) ∧ Below g w W ∧ Tb W ∧ Blk W (g + 1 + 1 + 1) 82 (wl v)
theorem cw_new {h m : List Int} {w W : World} {g : Nat} (hs : Blk W g 80 (wl h) ∧ Blk W (g + 1) 82 (wl m) ∧ (∃ cs, Blk W (g + 1 + 1) 80 cs ∧ cs.size = 8) ∧ Below g w W ∧ Tb W) (hz : W.heap.size = g + 1 + 1 + 1) (v : List Int) :
    CW h m w g (W.alloc (.cells (wl v) 82)) v := by
  obtain ⟨h1, h2, ⟨cs, h3, h4⟩, h5, h6⟩ := hs
  refine ⟨h1.alloc _, h2.alloc _, ⟨cs, h3.alloc _, h4⟩, h5.alloc (by omega) _, h6.below (below_alloc W _) (Nat.le_refl _), ?_⟩
  rw [← hz]
  exact Blk.new W _ _
theorem zl_size (l : List Int) : (zl l).size = l.length := by simp [zl]
theorem zl_one (l : List Int) : (zl l).all (·.oneCell') = true := by
  simp [zl, Value.oneCell']
theorem Tb.lt {w : World} (h : Tb w) : 0 < w.heap.size ∧ 3 < w.heap.size :=
  ⟨World.block_lt_of_cell? w _ (h.1 0 _ rfl), World.block_lt_of_cell? w _ (h.2 0 _ rfl)⟩
theorem Tb.row {w : World} (h : Tb w) {g : Nat} (hg : 0 < g ∧ 3 < g) (cs : Array Value) : Tb (w.setRow g cs) := by
  refine ⟨fun j v hv => ?_, fun j v hv => ?_⟩
  · rw [cell_setRow_other w g cs _ (by show 0 ≠ g; omega)]; exact h.1 j v hv
  · rw [cell_setRow_other w g cs _ (by show 3 ≠ g; omega)]; exact h.2 j v hv
theorem Tb.cellSet {w : World} (h : Tb w) {g : Nat} (hg : 0 < g ∧ 3 < g) (k : Nat) (u : Value) : Tb (w.setCell ⟨g, k, none⟩ u) := by
  refine ⟨fun j v hv => ?_, fun j v hv => ?_⟩
  · rw [World.cell?_setCell_far _ _ _ _ (by show g ≠ 0; omega)]; exact h.1 j v hv
  · rw [World.cell?_setCell_far _ _ _ _ (by show g ≠ 3; omega)]; exact h.2 j v hv
set_option maxHeartbeats 2000000 in
set_option maxRecDepth 100000 in
theorem comp_any (h m : List Int) (t : Nat) (last : Bool) (hh : h.length = 8) (hm : m.length = 16) (ht : t ≤ 1099511627776) (w : World) (hT : Tb w) :
    Calls Tryd.prog 69 #[.agg (wl h), .agg (wl m), .int .i64 t, .bool last] w fun e w' => e = .returned (.agg (wl (comp h m t last))) ∧ Below w.heap.size w w' := by
  obtain ⟨g, hg⟩ : ∃ g, w.heap.size = g := ⟨_, rfl⟩
  have HGS := Lib.hid hg
  have HG0 : Hid (0 < g ∧ 3 < g) := Lib.hid (by rw [← hg]; exact hT.lt)
  obtain ⟨cc, hcc⟩ : ∃ c, comp h m t last = c := ⟨_, rfl⟩
  have HCC := Lib.hid hcc
  rw [hcc]
  clear hcc
  go_enter Tryd.func69, Tryd.ntmps69
  go_upto_region 1 with fail
  refine hide_world (X := fun W => Hid (Blk W g 80 (wl h) ∧ Blk W (g + 1) 82 (wl m) ∧ (∃ cs, Blk W (g + 1 + 1) 80 cs ∧ cs.size = 8) ∧ Below g w W ∧ Tb W) ∧ W.heap.size = g + 1 + 1 + 1) ?_ ?_
  · refine ⟨Lib.hid ?_, by simp [hg]⟩
    have hb0 : Below g w w := hg ▸ below_self w
    have hb : Below g w (((w.alloc (.cells (wl h) 80)).alloc (.cells (wl m) 82)).alloc (.cells (wl (List.replicate 8 0)) 80)) :=
      ((hb0.alloc (Nat.le_of_eq hg.symm) _).alloc (by simp; omega) _).alloc (by simp; omega) _
    refine ⟨?_, ?_, ⟨wl (List.replicate 8 0), ?_, rfl⟩, hb, hT.below hb (Nat.le_of_eq hg)⟩
    · rw [← hg]; exact ((Blk.new w _ _).alloc _).alloc _
    · have := (Blk.new (w.alloc (.cells (wl h) 80)) 82 (wl m)).alloc (.cells (wl (List.replicate 8 0)) 80)
      rw [show (w.alloc (.cells (wl h) 80)).heap.size = g + 1 by simp [hg]] at this
      exact this
    · have := Blk.new ((w.alloc (.cells (wl h) 80)).alloc (.cells (wl m) 82)) 80 (wl (List.replicate 8 0))
      rw [show ((w.alloc (.cells (wl h) 80)).alloc (.cells (wl m) 82)).heap.size = g + 1 + 1 by simp [hg]] at this
      exact this
  rintro W ⟨HS, hsz⟩
  clear hg hT
  obtain ⟨h0, q0⟩ : ∃ v, h.getD 0 0 = v := ⟨_, rfl⟩
  obtain ⟨h1, q1⟩ : ∃ v, h.getD 1 0 = v := ⟨_, rfl⟩
  obtain ⟨h2, q2⟩ : ∃ v, h.getD 2 0 = v := ⟨_, rfl⟩
  obtain ⟨h3, q3⟩ : ∃ v, h.getD 3 0 = v := ⟨_, rfl⟩
  obtain ⟨h4, q4⟩ : ∃ v, h.getD 4 0 = v := ⟨_, rfl⟩
  obtain ⟨h5, q5⟩ : ∃ v, h.getD 5 0 = v := ⟨_, rfl⟩
  obtain ⟨h6, q6⟩ : ∃ v, h.getD 6 0 = v := ⟨_, rfl⟩
  obtain ⟨h7, q7⟩ : ∃ v, h.getD 7 0 = v := ⟨_, rfl⟩
  have c0 : W.cell? ⟨g, 0, none⟩ = some (.int .u32 h0) := (HS.out.1.cell 0).trans (by rw [wl_at h 0 (by omega), q0])
  have c1 : W.cell? ⟨g, 1, none⟩ = some (.int .u32 h1) := (HS.out.1.cell 1).trans (by rw [wl_at h 1 (by omega), q1])
  have c2 : W.cell? ⟨g, 2, none⟩ = some (.int .u32 h2) := (HS.out.1.cell 2).trans (by rw [wl_at h 2 (by omega), q2])
  have c3 : W.cell? ⟨g, 3, none⟩ = some (.int .u32 h3) := (HS.out.1.cell 3).trans (by rw [wl_at h 3 (by omega), q3])
  have c4 : W.cell? ⟨g, 4, none⟩ = some (.int .u32 h4) := (HS.out.1.cell 4).trans (by rw [wl_at h 4 (by omega), q4])
  have c5 : W.cell? ⟨g, 5, none⟩ = some (.int .u32 h5) := (HS.out.1.cell 5).trans (by rw [wl_at h 5 (by omega), q5])
  have c6 : W.cell? ⟨g, 6, none⟩ = some (.int .u32 h6) := (HS.out.1.cell 6).trans (by rw [wl_at h 6 (by omega), q6])
  have c7 : W.cell? ⟨g, 7, none⟩ = some (.int .u32 h7) := (HS.out.1.cell 7).trans (by rw [wl_at h 7 (by omega), q7])
  have s0 : W.cell? ⟨0, 0, none⟩ = some (.int .u32 1779033703) := by have := HS.out.2.2.2.2.1 0 (.int .u32 1779033703) rfl; rw [Nat.zero_add] at this; exact this
  have s1 : W.cell? ⟨0, 1, none⟩ = some (.int .u32 3144134277) := by have := HS.out.2.2.2.2.1 1 (.int .u32 3144134277) rfl; rw [Nat.zero_add] at this; exact this
  have s2 : W.cell? ⟨0, 2, none⟩ = some (.int .u32 1013904242) := by have := HS.out.2.2.2.2.1 2 (.int .u32 1013904242) rfl; rw [Nat.zero_add] at this; exact this
  have s3 : W.cell? ⟨0, 3, none⟩ = some (.int .u32 2773480762) := by have := HS.out.2.2.2.2.1 3 (.int .u32 2773480762) rfl; rw [Nat.zero_add] at this; exact this
  have s4 : W.cell? ⟨0, 4, none⟩ = some (.int .u32 1359893119) := by have := HS.out.2.2.2.2.1 4 (.int .u32 1359893119) rfl; rw [Nat.zero_add] at this; exact this
  have s5 : W.cell? ⟨0, 5, none⟩ = some (.int .u32 2600822924) := by have := HS.out.2.2.2.2.1 5 (.int .u32 2600822924) rfl; rw [Nat.zero_add] at this; exact this
  have s6 : W.cell? ⟨0, 6, none⟩ = some (.int .u32 528734635) := by have := HS.out.2.2.2.2.1 6 (.int .u32 528734635) rfl; rw [Nat.zero_add] at this; exact this
  have s7 : W.cell? ⟨0, 7, none⟩ = some (.int .u32 1541459225) := by have := HS.out.2.2.2.2.1 7 (.int .u32 1541459225) rfl; rw [Nat.zero_add] at this; exact this
  obtain ⟨T0, hT0⟩ : ∃ v : Nat, t % 4294967296 = v := ⟨_, rfl⟩
  obtain ⟨T1, hT1⟩ : ∃ v : Nat, t / 4294967296 % 4294967296 = v := ⟨_, rfl⟩
  obtain ⟨D1, hD1⟩ : ∃ v : Nat, t / 4294967296 = v := ⟨_, rfl⟩
  have hw0 : (t : Int) % 4294967296 = (T0 : Int) := by omega
  have hw2 : (t : Int) / 4294967296 = (D1 : Int) := by omega
  have hTD : T1 = D1 := by omega
  obtain ⟨X0, hX0⟩ : ∃ v : Int, bits .xor .u32 1359893119 (T0 : Int) = v := ⟨_, rfl⟩
  obtain ⟨X1, hX1⟩ : ∃ v : Int, bits .xor .u32 2600822924 (D1 : Int) = v := ⟨_, rfl⟩
  have HQ := Lib.hid (And.intro q0 (And.intro q1 (And.intro q2 (And.intro q3 (And.intro q4 (And.intro q5 (And.intro q6 q7)))))))
  have hWK : ∀ b, work h t b = [h0, h1, h2, h3, h4, h5, h6, h7, 1779033703, 3144134277, 1013904242, 2773480762, X0, X1, (if b then 4294967295 - 528734635 else 528734635), 1541459225] := fun b => by
    unfold work xr
    rw [hT0, hT1, hTD, hX0, hX1, q0, q1, q2, q3, q4, q5, q6, q7]
  have HWK := Lib.hid hWK
  clear hWK hT0 hT1 hD1 hTD q0 q1 q2 q3 q4 q5 q6 q7
  go_upto_if 53 with fail
  go_cut [54, 55, 56, 57] (fun _ _ _ _ wc => Hid (CW h m w g wc (work h t last)))
  case first =>
    cases last with
    | false =>
      go_wp2_with fail
      go_meet
      rw [HWK.out]
      exact Lib.hid (cw_new HS.out hsz [h0, h1, h2, h3, h4, h5, h6, h7, 1779033703, 3144134277, 1013904242, 2773480762, X0, X1, 528734635, 1541459225])
    | true =>
      have hnot : bits BinOp.xor IntKind.u32 IntKind.u32.max 528734635 = 4294967295 - 528734635 := by decide
      go_wp2_with fail
      go_meet
      rw [HWK.out]
      exact Lib.hid (cw_new HS.out hsz [h0, h1, h2, h3, h4, h5, h6, h7, 1779033703, 3144134277, 1013904242, 2773480762, X0, X1, 3766232660, 1541459225])
  case rest =>
    clear HS hsz c0 c1 c2 c3 c4 c5 c6 c7 s0 s1 s2 s3 s4 s5 s6 s7 hw0 hw2 hX0 hX1 HWK HQ
    clear h0 h1 h2 h3 h4 h5 h6 h7 X0 X1 T0 D1 T1
    have HM := Lib.hid hm
    have HH := Lib.hid hh
    clear hm hh ht
    obtain ⟨v0, hv0⟩ : ∃ v, work h t last = v := ⟨_, rfl⟩
    have hv16 : v0.length = 16 := by rw [← hv0]; rfl
    have HV16 := Lib.hid hv16
    rw [hv0] at hcut
    have HC : Hid (comp h m t last = (List.range 8).map (fin h (rnds m 10 v0))) := Lib.hid (by rw [← hv0]; rfl)
    clear hv0 hv16
    rw [HCC.out] at HC
    clear HCC
    go_upto_region 4 with fail
    refine wp_region_lit ?_
    refine wpList_load_mid rfl 95 (.global 3) rfl 3 0 rfl (ordersL.flatten.map (Value.int .u8)) _ (hcut.out).2.2.2.2.1.2 Tryd.underlying95 rfl ordersInfo ?_
    simp only [Act.put, List.setIfInBounds_toArray, List.set_cons_zero, List.set_cons_succ]
    obtain ⟨O, hO⟩ : ∃ O, (ordersL.flatten.map (Value.int .u8)).toArray = O := ⟨_, rfl⟩
    have HIX : Hid (∀ (k : Nat), k < 10 → ∀ W, (Instr.index 95 (.agg O) (.int .i64 k)).run Tryd.prog W = .ok (.agg (zl (ordersL.getD k []))) W) := Lib.hid (by rw [← hO]; exact idx_orders)
    rw [hO]
    clear hO
    go_wp2_with fail
    go_loopw [11, 59] (fun _ i wr => ∃ k : Nat, k ≤ 10 ∧ i = .int .i64 k ∧ Hid (CW h m w g wr (rnds m k v0))) (fun _ i _ => 10 - (intOf i).toNat)
    case atStart => exact ⟨0, Nat.zero_le _, rfl, hcut⟩
    case round =>
      obtain ⟨k, hk, rfl, HK⟩ := hrel
      by_cases hlt : k < 10
      · have dl : decide ((k : Int) < 10) = true := decide_eq_true (by omega)
        have HR := Lib.hid (show rnds m (k + 1) v0 = rnd (rnds m k v0) m (ordersL.getD k []) from rfl)
        have HOK := Lib.hid (order_ok k hlt)
        have hidx := HIX.out k hlt
        obtain ⟨z, hz⟩ : ∃ z, ordersL.getD k [] = z := ⟨_, rfl⟩
        rw [hz] at hidx HR HOK
        clear hz
        have HL : Hid ((rnds m k v0).length = 16) := Lib.hid (by rw [rnds_length]; exact HV16.out)
        obtain ⟨v, hv⟩ : ∃ v, rnds m k v0 = v := ⟨_, rfl⟩
        rw [hv] at HK HR HL
        clear hv
        go_upto_region 6 with fail
        refine wp_region_lit ?_
        go_step
        go_step
        go_step
        go_step
        go_step
        go_step
        refine hide_list (X := fun W => Hid (CW h m w g W v ∧ Blk W wr.heap.size 94 (zl (List.replicate 16 0)) ∧ g + 1 + 1 + 1 < wr.heap.size)) ?_ ?_
        · refine Lib.hid ⟨?_, Blk.new wr 94 (zl (List.replicate 16 0)), HK.out.2.2.2.2.2.lt⟩
          obtain ⟨h1, h2, ⟨cs, h3, h4⟩, h5, h6, h7⟩ := HK.out
          exact ⟨h1.alloc _, h2.alloc _, ⟨cs, h3.alloc _, h4⟩, h5.alloc (Nat.le_of_lt (Nat.lt_of_le_of_lt (by omega : g ≤ g + 1 + 1 + 1) h7.lt)) _, h6.below (below_alloc wr _) (Nat.le_refl _), h7.alloc _⟩
        obtain ⟨y, hy⟩ : ∃ y, wr.heap.size = y := ⟨_, rfl⟩
        rw [hy]
        clear hy HK hidx wr
        intro wr HK
        refine wpList_store_row rfl 94 (.tmp 11) (.tmp 61) rfl y (zl z) rfl rfl _ _ HK.out.2.1 (by rw [orderInfo, zl_size, HOK.out.1]) (by rw [zl_size, zl_size, HOK.out.1]; rfl) (zl_one _) ?_
        have HGT : Hid (0 < y ∧ 3 < y) := Lib.hid (by have := HK.out.2.2; have := HG0.out; omega)
        have HK2 : Hid (CW h m w g (wr.setRow y (zl z)) v ∧ Blk (wr.setRow y (zl z)) y 94 (zl z)) := Lib.hid (by
          obtain ⟨⟨h1, h2, ⟨cs, h3, h4⟩, h5, h6, h7⟩, h8, h9⟩ := HK.out
          exact ⟨⟨h1.rowFar (by omega) _, h2.rowFar (by omega) _, ⟨cs, h3.rowFar (by omega) _, h4⟩, below_row h5 (by omega) _, h6.row HGT.out _, h7.rowFar (by omega) _⟩, h8.row _⟩)
        clear HK
        generalize wr.setRow y (zl z) = wr at *
        simp only [Act.put]
        refine wpList_nil ?_
        go_upto_region 7 with fail
        refine wp_region_lit ?_
        refine wpList_load_row rfl 82 (.tmp 9) rfl (g + 1 + 1 + 1) rfl _ _ (0, 0) _ HK2.out.1.2.2.2.2.2 Tryd.underlying82 rfl (by rw [blockInfo, wl_size, HL.out]) ?_
        simp only [Act.put, List.setIfInBounds_toArray, List.set_cons_zero, List.set_cons_succ]
        refine wpList_load_row rfl 82 (.tmp 5) rfl (g + 1) rfl _ _ (0, 0) _ HK2.out.1.2.1 Tryd.underlying82 rfl (by rw [blockInfo, wl_size, HM.out]) ?_
        simp only [Act.put, List.setIfInBounds_toArray, List.set_cons_zero, List.set_cons_succ]
        refine wpList_load_row rfl 94 (.tmp 11) rfl y rfl _ _ (0, 0) _ HK2.out.2 Tryd.underlying94 rfl (by rw [orderInfo, zl_size, HOK.out.1]) ?_
        simp only [Act.put, List.setIfInBounds_toArray, List.set_cons_zero, List.set_cons_succ]
        go_wp2_with fail
        refine (round_any v m z HL.out HM.out HOK.out.1 HOK.out.2 wr).mono ?_
        rintro e wq ⟨rfl, hbq⟩
        have HQ : Hid (CW h m w g wq v) := Lib.hid (by
          obtain ⟨⟨h1, h2, ⟨cs, h3, h4⟩, h5, h6, h7⟩, -⟩ := HK2.out
          exact ⟨h1.below hbq h1.lt, h2.below hbq h2.lt, ⟨cs, h3.below hbq h3.lt, h4⟩, h5.trans (hbq.mono (Nat.le_of_lt h1.lt)), h6.below hbq (Nat.le_refl _), h7.below hbq h7.lt⟩)
        clear HK2 hbq
        dsimp only
        go_step
        refine wpList_store_row rfl 82 (.tmp 9) (.tmp 65) rfl (g + 1 + 1 + 1) (wl (rnd v m z)) rfl rfl _ _ HQ.out.2.2.2.2.2 (by rw [blockInfo, wl_size, rnd_length, HL.out]) (by rw [wl_size, wl_size, rnd_length]) (wl_one _) ?_
        have HN : Hid (CW h m w g (wq.setRow (g + 1 + 1 + 1) (wl (rnd v m z))) (rnds m (k + 1) v0)) := Lib.hid (by
          rw [HR.out]
          obtain ⟨h1, h2, ⟨cs, h3, h4⟩, h5, h6, h7⟩ := HQ.out
          exact ⟨h1.rowFar (by omega) _, h2.rowFar (by omega) _, ⟨cs, h3.rowFar (by omega) _, h4⟩, below_row h5 (by omega) _, h6.row (by have := HG0.out; omega) _, h7.row _⟩)
        clear HQ
        generalize wq.setRow (g + 1 + 1 + 1) (wl (rnd v m z)) = wr at *
        simp only [Act.put]
        refine wpList_nil ?_
        go_wp2_with fail
        go_roundw
        case rel => exact ⟨k + 1, by omega, by go_num, HN⟩
        case measure => simp [intOf]; omega
      · have hk10 : k = 10 := by omega
        have dl : decide ((k : Int) < 10) = false := decide_eq_false (by omega)
        rw [hk10] at HK
        obtain ⟨c10, hc10⟩ : ∃ c : Int, (k : Int) = c := ⟨_, rfl⟩
        rw [hc10] at dl ⊢
        clear hk10 hc10 hk hlt
        clear k
        have HL : Hid ((rnds m 10 v0).length = 16) := Lib.hid (by rw [rnds_length]; exact HV16.out)
        obtain ⟨v, hv⟩ : ∃ v, rnds m 10 v0 = v := ⟨_, rfl⟩
        rw [hv] at HK HC HL
        clear hv HV16 HIX
        go_upto_region 9 with fail
        have HK0 : Hid (CW (finK h v 0) m w g wr v) := Lib.hid (by rw [finK_zero h v HH.out]; exact HK.out)
        clear HK
        go_wp2_with fail
        go_loopw [12, 67] (fun _ i wr => ∃ k : Nat, k ≤ 8 ∧ i = .int .i64 k ∧ Hid (CW (finK h v k) m w g wr v)) (fun _ i _ => 8 - (intOf i).toNat)
        case atStart => exact ⟨0, Nat.zero_le _, rfl, HK0⟩
        case round =>
          obtain ⟨k, hk, rfl, HK⟩ := hrel
          by_cases hlt : k < 8
          · have dl : decide ((k : Int) < 8) = true := decide_eq_true (by omega)
            obtain ⟨a, ha⟩ : ∃ a, h.getD k 0 = a := ⟨_, rfl⟩
            obtain ⟨b, hb⟩ : ∃ b, v.getD k 0 = b := ⟨_, rfl⟩
            obtain ⟨c, hc⟩ : ∃ c, v.getD (k + 8) 0 = c := ⟨_, rfl⟩
            obtain ⟨x, hx⟩ : ∃ x, bits .xor .u32 b c = x := ⟨_, rfl⟩
            obtain ⟨y, hy⟩ : ∃ y, bits .xor .u32 a x = y := ⟨_, rfl⟩
            have HF : Hid (fin h v k = y) := Lib.hid (by unfold fin xr; rw [ha, hb, hc, hx, hy])
            have c1 : wr.drew.cell? ⟨g, k, none⟩ = some (.int .u32 a) := (HK.out.1.cell k).trans (by rw [wl_at _ k (by rw [finK_length]; exact hlt), finK_at h v k hlt, ha])
            have c2 : wr.drew.cell? ⟨g + 1 + 1 + 1, k, none⟩ = some (.int .u32 b) := (HK.out.2.2.2.2.2.cell k).trans (by rw [wl_at _ k (by have := HL.out; omega), hb])
            have c3 : wr.drew.cell? ⟨g + 1 + 1 + 1, k + 8, none⟩ = some (.int .u32 c) := (HK.out.2.2.2.2.2.cell (k + 8)).trans (by rw [wl_at _ (k + 8) (by have := HL.out; omega), hc])
            have hfz : wr.drew.frozen? ⟨g, k, none⟩ = false := HK.out.1.frozen k
            obtain ⟨k8, hk8⟩ : ∃ e : Nat, k + 8 = e := ⟨_, rfl⟩
            have i1 : (k : Int) < 8 := by omega
            have i2 : (k : Int) < 16 := by omega
            have i5 : (k8 : Int) < 16 := by omega
            have i4 : IntKind.i64.wrap ((k : Int) + 8) = (k8 : Int) := by rw [IntKind.wrap_i64]; omega
            rw [hk8] at c3 hc
            have HKN : Hid (CW (finK h v (k + 1)) m w g (wr.drew.setCell ⟨g, k, none⟩ (.int .u32 y)) v) := Lib.hid (by
              obtain ⟨h1, h2, ⟨cs, h3, h4⟩, h5, h6, h7⟩ := HK.out
              refine ⟨?_, h2.far (w := wr.drew) (by show g + 1 ≠ g; omega) _, ⟨cs, h3.far (w := wr.drew) (by show g + 1 + 1 ≠ g; omega) _, h4⟩, (below_drew h5 1).setCell (Nat.le_refl _) _, ?_, h7.far (w := wr.drew) (by show g + 1 + 1 + 1 ≠ g; omega) _⟩
              · have := Blk.set_ (w := wr.drew) h1 k (.int .u32 y)
                rw [wl_set, ← HF.out, ← finK_succ] at this
                rw [← HF.out]
                exact this
              · have hd : Tb wr.drew := h6
                exact hd.cellSet HG0.out k _)
            clear HK HF ha hb hc hk8
            go_wp2_with fail
            have hS : wr.drew.cell? ⟨g, k, none⟩ = some (.int .u32 a) ∧ wr.drew.cell? ⟨g + 1 + 1 + 1, k, none⟩ = some (.int .u32 b) ∧ wr.drew.cell? ⟨g + 1 + 1 + 1, k8, none⟩ = some (.int .u32 c) := ⟨c1, c2, c3⟩
            clear c2 c3
            refine wp_region_T 11 (fun W => W.cell? ⟨g, k, none⟩ = some (.int .u32 a) ∧ W.cell? ⟨g + 1 + 1 + 1, k, none⟩ = some (.int .u32 b) ∧ W.cell? ⟨g + 1 + 1 + 1, k8, none⟩ = some (.int .u32 c)) (by kernel_rfl) ?_
            refine wpAnyT_take (i := 0) (v := ?_) rfl (by kernel_rfl) (fun _ _ _ h => h) (Or.inl ⟨by rfl, ?_⟩) hS ?_
            rotate_left
            · intro w2 hw2
              try dsimp only at hw2
              go_simp
              first | done | with_reducible rfl
            try simp only [Act.put, List.getElem_toArray, List.getElem_cons_zero, List.setIfInBounds_toArray, List.set_cons_zero, List.set_cons_succ]
            refine wpAnyT_take (i := 1) (v := ?_) rfl (by kernel_rfl) (fun _ _ _ h => h) (Or.inl ⟨by rfl, ?_⟩) hS ?_
            rotate_left
            · intro w2 hw2
              try dsimp only at hw2
              go_simp
              first | done | with_reducible rfl
            try simp only [Act.put, List.getElem_toArray, List.getElem_cons_succ, List.getElem_cons_zero, List.setIfInBounds_toArray, List.set_cons_zero, List.set_cons_succ]
            refine wpAnyT_take (i := 2) (v := ?_) rfl (by kernel_rfl) (fun _ _ _ h => h) (Or.inl ⟨by rfl, ?_⟩) hS ?_
            rotate_left
            · intro w2 hw2
              try dsimp only at hw2
              go_simp
              first | done | with_reducible rfl
            try simp only [Act.put, List.getElem_toArray, List.getElem_cons_succ, List.getElem_cons_zero, List.setIfInBounds_toArray, List.set_cons_zero, List.set_cons_succ]
            refine wpAnyT_take (i := 3) (v := ?_) rfl (by kernel_rfl) (fun _ _ _ h => h) (Or.inl ⟨by rfl, ?_⟩) hS ?_
            rotate_left
            · intro w2 hw2
              try dsimp only at hw2
              go_simp
              first | done | with_reducible rfl
            try simp only [Act.put, List.getElem_toArray, List.getElem_cons_succ, List.getElem_cons_zero, List.setIfInBounds_toArray, List.set_cons_zero, List.set_cons_succ]
            refine wpAnyT_take (i := 4) (v := ?_) rfl (by kernel_rfl) (fun _ _ _ h => h) (Or.inl ⟨by rfl, ?_⟩) hS ?_
            rotate_left
            · intro w2 hw2
              try dsimp only at hw2
              go_simp
              first | done | with_reducible rfl
            try simp only [Act.put, List.getElem_toArray, List.getElem_cons_succ, List.getElem_cons_zero, List.setIfInBounds_toArray, List.set_cons_zero, List.set_cons_succ]
            refine wpAnyT_take (i := 5) (v := ?_) rfl (by kernel_rfl) (fun _ _ _ h => h) (Or.inl ⟨by rfl, ?_⟩) hS ?_
            rotate_left
            · intro w2 hw2
              try dsimp only at hw2
              go_simp
              first | done | with_reducible rfl
            try simp only [Act.put, List.getElem_toArray, List.getElem_cons_succ, List.getElem_cons_zero, List.setIfInBounds_toArray, List.set_cons_zero, List.set_cons_succ]
            refine wpAnyT_take (i := 6) (v := ?_) rfl (by kernel_rfl) (fun _ _ _ h => h) (Or.inl ⟨by rfl, ?_⟩) hS ?_
            rotate_left
            · intro w2 hw2
              try dsimp only at hw2
              go_simp
              first | done | with_reducible rfl
            try simp only [Act.put, List.getElem_toArray, List.getElem_cons_succ, List.getElem_cons_zero, List.setIfInBounds_toArray, List.set_cons_zero, List.set_cons_succ]
            refine wpAnyT_take (i := 7) (v := ?_) rfl (by kernel_rfl) (fun _ _ _ h => h) (Or.inl ⟨by rfl, ?_⟩) hS ?_
            rotate_left
            · intro w2 hw2
              try dsimp only at hw2
              go_simp
              first | done | with_reducible rfl
            try simp only [Act.put, List.getElem_toArray, List.getElem_cons_succ, List.getElem_cons_zero, List.setIfInBounds_toArray, List.set_cons_zero, List.set_cons_succ]
            refine wpAnyT_take (i := 8) (v := ?_) rfl (by kernel_rfl) (fun _ _ _ h => h) (Or.inl ⟨by rfl, ?_⟩) hS ?_
            rotate_left
            · intro w2 hw2
              try dsimp only at hw2
              go_simp
              first | done | with_reducible rfl
            try simp only [Act.put, List.getElem_toArray, List.getElem_cons_succ, List.getElem_cons_zero, List.setIfInBounds_toArray, List.set_cons_zero, List.set_cons_succ]
            refine wpAnyT_take (i := 9) (v := ?_) rfl (by kernel_rfl) (fun _ _ _ h => h) (Or.inl ⟨by rfl, ?_⟩) hS ?_
            rotate_left
            · intro w2 hw2
              try dsimp only at hw2
              go_simp
              first | done | with_reducible rfl
            try simp only [Act.put, List.getElem_toArray, List.getElem_cons_succ, List.getElem_cons_zero, List.setIfInBounds_toArray, List.set_cons_zero, List.set_cons_succ]
            refine wpAnyT_take (i := 10) (v := ?_) rfl (by kernel_rfl) (fun _ _ _ h => h) (Or.inl ⟨by rfl, ?_⟩) hS ?_
            rotate_left
            · intro w2 hw2
              try dsimp only at hw2
              go_simp
              first | done | with_reducible rfl
            try simp only [Act.put, List.getElem_toArray, List.getElem_cons_succ, List.getElem_cons_zero, List.setIfInBounds_toArray, List.set_cons_zero, List.set_cons_succ]
            clear hS
            refine wpAnyT_gate rfl (by kernel_rfl) (fun K hK => ?_)
            go_simp
            refine hK.out _ _ ?_
            clear hK K
            try simp only [Act.put, List.getElem_toArray, List.getElem_cons_succ, List.getElem_cons_zero, List.setIfInBounds_toArray, List.set_cons_zero, List.set_cons_succ]
            refine wpAny_take (i := 12) (v := ?_) rfl (by kernel_rfl) (by kernel_rfl) (by kernel_rfl) (fun _ _ _ h => h) (Or.inl ⟨by rfl, ?_⟩) ?_
            rotate_left
            · intro w2
              go_simp
              first | done | with_reducible rfl
            try simp only [Act.put, List.getElem_toArray, List.getElem_cons_succ, List.getElem_cons_zero, List.setIfInBounds_toArray, List.set_cons_zero, List.set_cons_succ]
            refine wpAny_one (i := 13) rfl (by kernel_rfl) (fun K hK => ?_)
            go_simp
            refine hK.out _ _ ?_
            clear hK K c1 hfz
            try simp only [Act.put, List.getElem_toArray, List.getElem_cons_succ, List.getElem_cons_zero, List.setIfInBounds_toArray, List.set_cons_zero, List.set_cons_succ]
            refine wpAny_done (by kernel_rfl) ?_ _
            go_wp2_with fail
            go_roundw
            case rel => exact ⟨k + 1, by omega, by go_num, HKN⟩
            case measure => simp [intOf]; omega
          · obtain rfl : k = 8 := by omega
            have dl : decide (((8 : Nat) : Int) < 8) = false := by decide
            go_upto_region 14 with fail
            obtain ⟨h1, h2, ⟨cs, h3, h4⟩, h5, h6, h7⟩ := HK.out
            refine wp_region_lit ?_
            refine wpList_load_row rfl 80 (.tmp 4) rfl g rfl _ _ (0, 0) _ h1 Tryd.underlying80 rfl (by rw [stateInfo, wl_size, finK_length]) ?_
            simp only [Act.put, List.setIfInBounds_toArray, List.set_cons_zero, List.set_cons_succ]
            refine wpList_store_row rfl 80 (.tmp 8) (.tmp 84) rfl (g + 1 + 1) (wl (finK h v 8)) rfl rfl _ _ h3 (by rw [stateInfo, wl_size, finK_length]) (by rw [wl_size, finK_length, h4]) (wl_one _) ?_
            have HE := Lib.hid (Blk.row h3 (wl (finK h v 8)))
            have HB := Lib.hid (below_row h5 (show g ≤ g + 1 + 1 by omega) (wl (finK h v 8)))
            clear h1 h2 h3 h4 h5 h6 h7 HK
            generalize wr.setRow (g + 1 + 1) (wl (finK h v 8)) = we at *
            simp only [Act.put]
            refine wpList_nil ?_
            go_wp2_with fail
            refine bodyPost_ret (results_cell_row rfl _ _ (g + 1 + 1) _ _ (0, 0) _ rfl HE.out Tryd.underlying80 rfl (by rw [stateInfo, wl_size, finK_length])) rfl ⟨?_, ?_⟩
            · rw [HC.out, finK_all]
            · rw [HGS.out]; exact HB.out
end Go.Proofs.YtfmjankmfddefaaDoor.Dg
