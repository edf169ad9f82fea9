/- digest.Sum: the digest of a text is that of the plain words. Conditions: the string has at most 2^40 bytes; the listed variables hold what they are laid with. -/
import Derived.Test.YtfmjankmfddefaaDoorGComp
import Derived.Test.YtfmjankmfddefaaDoorGTwoB
import Derived.Test.YtfmjankmfddefaaDoorGRead
import Derived.Test.YtfmjankmfddefaaDoorGWrite
namespace Go.Proofs.YtfmjankmfddefaaDoor.Dg
open Go.RowKit Gm
set_option linter.unusedVariables false

theorem start_load : (startL.map (Value.int .u32)).toArray = wl startL := rfl
theorem startInfoL : (Tryd.prog.info? 80).map (·.size) = some ((startL.map (Value.int .u32)).length) := by kernel_rfl
theorem sv_extract (s : Bs) (d : Nat) : (sv s).extract d (sv s).size = sv (s.drop d) := by
  apply sv_ext
  rw [ByteArray.data_extract]
  simp only [sv, Array.toList_extract, List.extract_eq_take_drop]
  exact List.take_of_length_le (by rw [List.length_drop]; exact Nat.le_refl _)
theorem slice_from (s : Bs) (d : Nat) (h : d ≤ s.length) (W : World) : (Instr.slice 9 (.string (sv s)) (some (.int .i64 d)) none none).run Tryd.prog W = .ok (.string (sv (s.drop d))) W := by
  rw [run_slice_string_from_if W 9 (sv s) .i64 _ Tryd.underlying9, if_pos ⟨by omega, by rw [sv_size]; omega⟩, Int.toNat_natCast, sv_extract]
theorem yieldsIf_load_row {P : Program} {ops : Array Oper} {S : World → Prop} {op : Oper} {a : Act} (hw : Region.wanted op (yielded ops a.tmps) = true) (ty : TypeId) (x : Operand) (ho : op.op = .load ty x)
    (g : Nat) (hx : a.eval x = .pointer (some ⟨g, 0, none⟩)) (t : TypeId) (cs : Array Value) (hS : ∀ w, S w → w.heap[g]? = some (.cells cs t (0, 0))) (d : TypeDesc)
    (hu : P.underlying ty = some d) (hd : (match d with | .struct _ | .array _ _ => true | _ => false) = true) (hi : (P.info? ty).map (·.size) = some cs.size) : YieldsIf P ops S op (.agg cs) a :=
  .inl ⟨hw, fun w hw' => by
    unfold execOp
    simp only [ho, hx, Instr.loadAt, Instr.sureAddr, Sem.run_bind, Sem.run_pure, Result.andThen_ok, run_loadVar_row w g t ty cs (0, 0) d (hS w hw') hu hd hi]⟩
/-- What the walk of Sum knows of the world. -/
def SW (w : World) (g : Nat) (W : World) (h : List Int) : Prop := Blk W g 80 (wl h) ∧ Below g w W ∧ Tb W

set_option maxHeartbeats 2000000 in
set_option maxRecDepth 100000 in
theorem sum_any (s : Bs) (hs : s.length ≤ 1099511627776) (w : World) (hT : Tb w) : Calls Tryd.prog 58 #[.string (sv s)] w fun e w' => e = .returned (.string (sv (sums s))) ∧ Below w.heap.size w w' := by
  obtain ⟨g, hg⟩ : ∃ g, w.heap.size = g := ⟨_, rfl⟩
  have HGS := Lib.hid hg
  have HG0 : Hid (0 < g ∧ 3 < g) := Lib.hid (by rw [← hg]; exact hT.lt)
  obtain ⟨n, hn⟩ : ∃ n, s.length = n := ⟨_, rfl⟩
  have hsz : (sv s).size = n := hn
  have HN := Lib.hid hn
  have HNS : Hid (n ≤ 1099511627776) := Lib.hid (by omega)
  obtain ⟨O, hO⟩ : ∃ O, sums s = O := ⟨_, rfl⟩
  have HO : Hid (O = outL (comp (blocks s (nb n)) (blk ((s.drop (64 * nb n)).take 64)) n true)) := Lib.hid (by rw [← hO, ← hn]; rfl)
  rw [hO]
  clear hO
  go_enter Tryd.func58, Tryd.ntmps58
  go_upto_region 1 with fail
  refine wp_region_lit ?_
  refine wpList_load_mid rfl 80 (.global 0) rfl 0 0 rfl (startL.map (Value.int .u32)) _ hT.1 Tryd.underlying80 rfl startInfoL ?_
  rw [start_load]
  simp only [Act.put, List.setIfInBounds_toArray, List.set_cons_zero, List.set_cons_succ]
  go_step
  go_step
  go_step
  refine hide_list (X := fun W => Hid (SW w g W (List.replicate 8 0))) (Lib.hid ⟨?_, (hg ▸ below_self w : Below g w w).alloc (Nat.le_of_eq hg.symm) _, hT.below (below_alloc w _) (Nat.le_refl _)⟩) ?_
  · rw [← hg]; exact Blk.new w _ _
  intro W HS
  clear hg hT
  refine wpList_store_row rfl 80 (.tmp 3) (.tmp 6) rfl g (wl startL) rfl rfl _ _ HS.out.1 (by rw [stateInfo]; rfl) rfl (wl_one _) ?_
  have HS1 : Hid (SW w g (W.setRow g (wl startL)) startL) := Lib.hid ⟨HS.out.1.row _, below_row HS.out.2.1 (Nat.le_refl _) _, HS.out.2.2.row HG0.out _⟩
  clear HS
  generalize W.setRow g (wl startL) = W at *
  simp only [Act.put]
  refine wpList_nil ?_
  go_upto_region 2 with fail
  have hc0 : W.cell? ⟨g, 0, none⟩ = some (.int .u32 1779033703) := (HS1.out.1.cell 0).trans rfl
  have hf0 : W.frozen? ⟨g, 0, none⟩ = false := HS1.out.1.frozen 0
  obtain ⟨X, hX⟩ : ∃ X, bits .xor .u32 1779033703 16842784 = X := ⟨_, rfl⟩
  go_upto_region 3 with fail
  refine hide_world (X := fun W => Hid (SW w g W (blocks s 0))) ?_ ?_
  · refine Lib.hid ⟨?_, HS1.out.2.1.setCell (Nat.le_refl _) _, HS1.out.2.2.cellSet HG0.out 0 _⟩
    have := HS1.out.1.set_ 0 (.int .u32 X)
    rw [wl_set, ← hX] at this
    rw [← hX]
    exact this
  clear HS1 hc0 hf0 hX W
  intro W HS
  go_wp2_with fail
  go_loopw [4, 5] (fun d _ wr => ∃ k : Nat, k ≤ nb n ∧ d = .int .i64 ((64 * k : Nat) : Int) ∧ Hid (SW w g wr (blocks s k))) (fun d _ _ => n - (intOf d).toNat)
  case atStart => exact ⟨0, Nat.zero_le _, rfl, HS⟩
  case round =>
    obtain ⟨k, hk, rfl, HK⟩ := hrel
    have hnb : nb n = (n - 1) / 64 := rfl
    obtain ⟨d, hd⟩ : ∃ d, 64 * k = d := ⟨_, rfl⟩
    rw [hd]
    have hn40 := HNS.out
    have hdn : d ≤ n := by omega
    have hsl : ∀ W, (Instr.slice 9 (.string (sv s)) (some (.int .i64 d)) none none).run Tryd.prog W = .ok (.string (sv (s.drop d))) W := fun W => slice_from s d (by have := HN.out; omega) W
    have hsub : wrap64 ((n : Int) - (d : Int)) = ((n - d : Nat) : Int) := by unfold wrap64; omega
    by_cases hlt : k < nb n
    · have dl : decide ((64 : Int) < ((n - d : Nat) : Int)) = true := decide_eq_true (by omega)
      obtain ⟨d2, hd2⟩ : ∃ e : Nat, d + 64 = e := ⟨_, rfl⟩
      have HB : Hid (blocks s (k + 1) = comp (blocks s k) (blk ((s.drop d).take 64)) d2 false) := Lib.hid (by
        show comp (blocks s k) (blk ((s.drop (64 * k)).take 64)) (64 * (k + 1)) false = _
        rw [hd, show 64 * (k + 1) = d2 by omega])
      have hadd : wrap64 ((d : Int) + 64) = (d2 : Int) := by unfold wrap64; omega
      obtain ⟨D, hD⟩ : ∃ D, s.drop d = D := ⟨_, rfl⟩
      have HDL : Hid (D.length ≤ 1099511627776) := Lib.hid (by rw [← hD, List.length_drop]; have := HN.out; omega)
      have HHL : Hid ((blocks s k).length = 8) := Lib.hid (blocks_length s k)
      have HD1 : Hid (64 * (k + 1) = d2 ∧ d2 ≤ n ∧ d < d2) := Lib.hid (by omega)
      rw [hD] at hsl HB
      obtain ⟨h, hh⟩ : ∃ h, blocks s k = h := ⟨_, rfl⟩
      rw [hh] at HK HB HHL
      clear hh hD hnb hdn hn40 hd2 hd
      generalize ((n - d : Nat) : Int) = nd at *
      go_upto_region 5 with fail
      go_wp2_with fail
      refine (read_any D HDL.out wr).mono ?_
      rintro e wq ⟨rfl, hbq⟩
      obtain ⟨m, hm⟩ : ∃ m, blk (D.take 64) = m := ⟨_, rfl⟩
      have HML : Hid (m.length = 16) := Lib.hid (by rw [← hm]; exact blk_length _)
      rw [hm] at HB
      rw [hm]
      have HQ : Hid (SW w g wq h) := Lib.hid ⟨HK.out.1.below hbq HK.out.1.lt, HK.out.2.1.trans (hbq.mono (Nat.le_of_lt HK.out.1.lt)), HK.out.2.2.below hbq (Nat.le_refl _)⟩
      clear hm HK hbq
      dsimp only
      go_step
      go_step
      go_step
      go_step
      refine hide_list (X := fun W => Hid (SW w g W h ∧ Blk W wq.heap.size 82 (wl (List.replicate 16 0)) ∧ g < wq.heap.size)) (Lib.hid ⟨⟨HQ.out.1.alloc _, HQ.out.2.1.alloc (Nat.le_of_lt HQ.out.1.lt) _, HQ.out.2.2.below (below_alloc wq _) (Nat.le_refl _)⟩, Blk.new wq _ _, HQ.out.1.lt⟩) ?_
      obtain ⟨y, hy⟩ : ∃ y, wq.heap.size = y := ⟨_, rfl⟩
      rw [hy]
      clear hy HQ wq
      intro wq HQ
      refine wpList_store_row rfl 82 (.tmp 5) (.tmp 19) rfl y (wl m) rfl rfl _ _ HQ.out.2.1 (by rw [blockInfo, wl_size, HML.out]) (by rw [wl_size, wl_size, HML.out]; rfl) (wl_one _) ?_
      have HQ2 : Hid (SW w g (wq.setRow y (wl m)) h ∧ Blk (wq.setRow y (wl m)) y 82 (wl m)) := Lib.hid (by
        obtain ⟨⟨h1, h2, h3⟩, h4, h5⟩ := HQ.out
        exact ⟨⟨h1.rowFar (by omega) _, below_row h2 (by omega) _, h3.row (by have := HG0.out; omega) _⟩, h4.row _⟩)
      clear HQ
      generalize wq.setRow y (wl m) = wq at *
      simp only [Act.put]
      refine wpList_nil ?_
      go_upto_region 7 with fail
      refine wp_region_lit ?_
      refine wpList_load_row rfl 80 (.tmp 3) rfl g rfl _ _ (0, 0) _ HQ2.out.1.1 Tryd.underlying80 rfl (by rw [stateInfo, wl_size, HHL.out]) ?_
      simp only [Act.put, List.setIfInBounds_toArray, List.set_cons_zero, List.set_cons_succ]
      refine wpList_load_row rfl 82 (.tmp 5) rfl y rfl _ _ (0, 0) _ HQ2.out.2 Tryd.underlying82 rfl (by rw [blockInfo, wl_size, HML.out]) ?_
      simp only [Act.put, List.setIfInBounds_toArray, List.set_cons_zero, List.set_cons_succ]
      have HC := Lib.hid (comp_any h m d2 false HHL.out HML.out (by have := HD1.out.2.1; have := HNS.out; omega) wq HQ2.out.1.2.2)
      go_wp2_with fail
      refine HC.out.mono ?_
      rintro e we ⟨rfl, hbe⟩
      have HE : Hid (SW w g we h) := Lib.hid ⟨HQ2.out.1.1.below hbe HQ2.out.1.1.lt, HQ2.out.1.2.1.trans (hbe.mono (Nat.le_of_lt HQ2.out.1.1.lt)), HQ2.out.1.2.2.below hbe (Nat.le_refl _)⟩
      clear HQ2 HC hbe
      dsimp only
      go_step
      refine wpList_store_row rfl 80 (.tmp 3) (.tmp 25) rfl g (wl (comp h m d2 false)) rfl rfl _ _ HE.out.1 (by rw [stateInfo, wl_size, comp_length]) (by rw [wl_size, wl_size, comp_length, HHL.out]) (wl_one _) ?_
      have HN2 : Hid (SW w g (we.setRow g (wl (comp h m d2 false))) (blocks s (k + 1))) := Lib.hid (by
        rw [HB.out]
        exact ⟨HE.out.1.row _, below_row HE.out.2.1 (Nat.le_refl _) _, HE.out.2.2.row HG0.out _⟩)
      clear HE HB
      generalize we.setRow g (wl (comp h m d2 false)) = we at *
      simp only [Act.put]
      refine wpList_nil ?_
      go_wp2_with fail
      simp only [hadd]
      clear hadd
      go_roundw
      case rel => exact ⟨k + 1, by omega, by rw [HD1.out.1], HN2⟩
      case measure => simp [intOf]; have := HD1.out.2; omega
    · obtain rfl : k = nb n := by omega
      have dl : decide ((64 : Int) < ((n - d : Nat) : Int)) = false := decide_eq_false (by omega)
      obtain ⟨D, hD⟩ : ∃ D, s.drop d = D := ⟨_, rfl⟩
      have HDL : Hid (D.length ≤ 1099511627776) := Lib.hid (by rw [← hD, List.length_drop]; have := HN.out; omega)
      have HHL : Hid ((blocks s (nb n)).length = 8) := Lib.hid (blocks_length s _)
      rw [hd, hD] at HO
      rw [hD] at hsl
      obtain ⟨h, hh⟩ : ∃ h, blocks s (nb n) = h := ⟨_, rfl⟩
      rw [hh] at HK HO HHL
      obtain ⟨m, hm⟩ : ∃ m, blk (D.take 64) = m := ⟨_, rfl⟩
      have HML : Hid (m.length = 16) := Lib.hid (by rw [← hm]; exact blk_length _)
      rw [hm] at HO
      have HRD : Hid (∀ W, Calls Tryd.prog 68 #[.string (sv D)] W fun e w' => e = .returned (.agg (wl m)) ∧ Below W.heap.size W w') := Lib.hid (fun W => by rw [← hm]; exact read_any D HDL.out W)
      clear hh hD hnb hdn hn40 hm hd
      generalize ((n - d : Nat) : Int) = nd at *
      go_upto_region 8 with fail
      have hS : SW w g wr.drew h := ⟨HK.out.1, below_drew HK.out.2.1 1, HK.out.2.2⟩
      clear HK
      refine wp_region_T 7 (fun W => SW w g W h) (by kernel_rfl) ?_
      refine wpAnyT_take (i := 0) (v := .agg (wl h)) rfl (by kernel_rfl) (fun _ _ _ h => h) (yieldsIf_load_row (by rfl) 80 (.tmp 3) rfl g rfl _ _ (fun W hW => hW.1) _ Tryd.underlying80 rfl (by rw [stateInfo, wl_size, HHL.out])) hS ?_
      try simp only [Act.put, List.getElem_toArray, List.getElem_cons_zero, List.setIfInBounds_toArray, List.set_cons_zero, List.set_cons_succ]
      refine wpAnyT_take (i := 1) (v := ?_) rfl (by kernel_rfl) (fun _ _ _ h => h) (Or.inl ⟨by rfl, ?_⟩) hS ?_
      rotate_left
      · intro w2 _
        go_simp
        first | done | with_reducible rfl
      try simp only [Act.put, List.getElem_toArray, List.getElem_cons_succ, List.getElem_cons_zero, List.setIfInBounds_toArray, List.set_cons_zero, List.set_cons_succ]
      refine wpAnyT_take (i := 2) (v := ?_) rfl (by kernel_rfl) (fun _ _ _ h => h) (Or.inl ⟨by rfl, ?_⟩) hS ?_
      rotate_left
      · intro w2 _
        go_simp
        first | done | with_reducible rfl
      try simp only [Act.put, List.getElem_toArray, List.getElem_cons_succ, List.getElem_cons_zero, List.setIfInBounds_toArray, List.set_cons_zero, List.set_cons_succ]
      refine wpAnyT_take (i := 3) (v := ?_) rfl (by kernel_rfl) (fun _ _ _ h => h) (Or.inl ⟨by rfl, ?_⟩) hS ?_
      rotate_left
      · intro w2 _
        go_simp
        first | done | with_reducible rfl
      try simp only [Act.put, List.getElem_toArray, List.getElem_cons_succ, List.getElem_cons_zero, List.setIfInBounds_toArray, List.set_cons_zero, List.set_cons_succ]
      refine wpAnyT_take (i := 5) (v := ?_) rfl (by kernel_rfl) (fun _ _ _ h => h) (Or.inl ⟨by rfl, ?_⟩) hS ?_
      rotate_left
      · intro w2 _
        go_simp
        first | done | with_reducible rfl
      try simp only [Act.put, List.getElem_toArray, List.getElem_cons_succ, List.getElem_cons_zero, List.setIfInBounds_toArray, List.set_cons_zero, List.set_cons_succ]
      refine wpAnyT_take (i := 6) (v := ?_) rfl (by kernel_rfl) (fun _ _ _ h => h) (Or.inl ⟨by rfl, ?_⟩) hS ?_
      rotate_left
      · intro w2 _
        go_simp
        first | done | with_reducible rfl
      try simp only [Act.put, List.getElem_toArray, List.getElem_cons_succ, List.getElem_cons_zero, List.setIfInBounds_toArray, List.set_cons_zero, List.set_cons_succ]
      refine wpAnyT_one (i := 4) rfl (by kernel_rfl) (fun K hK => ?_)
      go_simp
      refine (HRD.out _).mono ?_
      rintro e wq ⟨rfl, hbq⟩
      have HS2 : Hid (SW w g wq h) := Lib.hid ⟨hS.1.below hbq hS.1.lt, hS.2.1.trans (hbq.mono (Nat.le_of_lt hS.1.lt)), hS.2.2.below hbq (Nat.le_refl _)⟩
      clear hS hbq
      refine hK.out _ _ HS2.out ?_
      clear hK K HRD
      try simp only [Act.put, List.getElem_toArray, List.getElem_cons_succ, List.getElem_cons_zero, List.setIfInBounds_toArray, List.set_cons_zero, List.set_cons_succ]
      have HC := Lib.hid (comp_any h m n true HHL.out HML.out (by have := HNS.out; omega) wq HS2.out.2.2)
      refine wpAnyT_gate rfl (by kernel_rfl) (fun K hK => ?_)
      go_simp
      refine HC.out.mono ?_
      rintro e we ⟨rfl, hbe⟩
      have HE : Hid (SW w g we h) := Lib.hid ⟨HS2.out.1.below hbe HS2.out.1.lt, HS2.out.2.1.trans (hbe.mono (Nat.le_of_lt HS2.out.1.lt)), HS2.out.2.2.below hbe (Nat.le_refl _)⟩
      refine hK.out _ _ ?_
      clear hK K HC HS2 hbe
      try simp only [Act.put, List.getElem_toArray, List.getElem_cons_succ, List.getElem_cons_zero, List.setIfInBounds_toArray, List.set_cons_zero, List.set_cons_succ]
      have HWR := Lib.hid (write_any (comp h m n true) (comp_length _ _ _ _) we)
      refine wpAny_one (i := 8) rfl (by kernel_rfl) (fun K hK => ?_)
      go_simp
      refine HWR.out.mono ?_
      rintro e wf ⟨rfl, hbf⟩
      have HF : Hid (Below g w wf) := Lib.hid (HE.out.2.1.trans (hbf.mono (Nat.le_of_lt HE.out.1.lt)))
      refine hK.out _ _ ?_
      clear hK K HWR HE hbf
      try simp only [Act.put, List.getElem_toArray, List.getElem_cons_succ, List.getElem_cons_zero, List.setIfInBounds_toArray, List.set_cons_zero, List.set_cons_succ]
      refine wpAny_take (i := 9) (v := ?_) rfl (by kernel_rfl) (by kernel_rfl) (by kernel_rfl) (fun _ _ _ h => h) (Or.inl ⟨by rfl, ?_⟩) ?_
      rotate_left
      · intro w2
        go_simp
        first | done | with_reducible rfl
      try simp only [Act.put, List.getElem_toArray, List.getElem_cons_succ, List.getElem_cons_zero, List.setIfInBounds_toArray, List.set_cons_zero, List.set_cons_succ]
      refine wpAny_done (by kernel_rfl) ?_ _
      go_wp2_with fail
      go_ret
      exact ⟨ret_s (by rw [HO.out]), by rw [HGS.out]; exact HF.out⟩
end Go.Proofs.YtfmjankmfddefaaDoor.Dg
