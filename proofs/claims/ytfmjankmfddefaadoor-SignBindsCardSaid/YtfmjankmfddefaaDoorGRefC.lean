/- bourneref03.compress: the reference's state that follows. Conditions: the string has at most 5000 bytes; the place is at most 5000; the state has 8 words. -/
import Derived.Test.YtfmjankmfddefaaDoorGRefG
import Derived.Test.YtfmjankmfddefaaDoorGComp
import Derived.Test.YtfmjankmfddefaaDoorGRefW
import Derived.Test.YtfmjankmfddefaaDoorGRefO
import Derived.Deep.AppendLies
namespace Go.Proofs.YtfmjankmfddefaaDoor.Dg
open Go.RowKit Gm
set_option linter.unusedVariables false

theorem infoWord : (Tryd.prog.info? 58).map (fun i => (i.zero, i.size, i.bytes)) = some (some (.int .u32 0), 1, 4) := by kernel_rfl
def wc (l : List Int) : List Value := l.map (Value.int .u32)
theorem wc_one (l : List Int) : ∀ u ∈ wc l, u.oneCell' = true := by
  intro u hu
  obtain ⟨b, _, rfl⟩ := List.mem_map.1 hu
  rfl
theorem wc_append (a b : List Int) : wc (a ++ b) = wc a ++ wc b := by simp [wc]
theorem roww_cell {w : World} {vs : List Value} {u : Value} {g : Nat} {t : TypeId} (hg : w.heap.size = g) (j : Nat) (h : vs[j]? = some u) : (w.alloc (.cells vs.toArray t)).cell? ((⟨g, 0, none⟩ : Addr).add j) = some u := by
  subst hg
  have e : (⟨w.heap.size, 0, none⟩ : Addr).add j = ⟨w.heap.size, j, none⟩ := by unfold Addr.add; split <;> simp_all
  rw [e, (Blk.new w t vs.toArray).cell j]
  simpa using h
theorem Wf.news {W : World} {g : Nat} {l : List Int} (h : Wf W g l) : ∀ j u, (wc l)[j]? = some u → W.cell? ((⟨g, 0, none⟩ : Addr).add j) = some u := by
  intro j u hu
  have e : (⟨g, 0, none⟩ : Addr).add j = ⟨g, j, none⟩ := by unfold Addr.add; split <;> simp_all
  rw [wc, List.getElem?_map] at hu
  obtain ⟨x, hx, rfl⟩ := Option.map_eq_some_iff.1 hu
  have hj := (List.getElem?_eq_some_iff.1 hx).1
  rw [e, h.1 j hj, List.getD_eq_getElem?_getD, hx]; rfl
/-- A row of words of the call's own. -/
theorem own_words {w : World} {base : Nat} {v : Value} {n : Nat} {l : List Int} (h : w.ownsRow base 58 1 v n (wc l)) (hn : 0 < n) : ∃ g cap, v = .slice (some ⟨g, 0, none⟩) n cap ∧ base ≤ g ∧ Wf w g l ∧ l.length = n := by
  have hl : l.length = n := by have := h.1; simp [wc] at this; omega
  rcases h.2 with ⟨_, h0⟩ | ⟨g, cap, cur, rfl, hb, hh, _⟩
  · omega
  · refine ⟨g, cap, rfl, hb, ⟨fun j hj => ?_, fun j hj => ?_, (Array.getElem?_eq_some_iff.1 hh).1⟩, hl⟩
    · rw [h.cellAt j (by omega)]
      simp [wc, List.getD_eq_getElem?_getD, hj]
    · exact h.frozenAt j
theorem take_snoc (l : List Int) (k : Nat) (h : k < l.length) : l.take (k + 1) = l.take k ++ [l.getD k 0] := by
  have e : l.getD k 0 = l[k] := by rw [List.getD_eq_getElem?_getD, List.getElem?_eq_getElem h]; rfl
  rw [List.take_succ_eq_append_getElem h, e]
theorem work_eq (h : List Int) (hh : h.length = 8) (E : Nat) (hE : E < 4294967296) : ((h ++ startL).set 12 (xr 1359893119 (E : Int))).set 13 (xr 2600822924 0) = work h E false ∧ (((h ++ startL).set 12 (xr 1359893119 (E : Int))).set 13 (xr 2600822924 0)).set 14 3766232660 = work h E true := by
  have e1 : E % 4294967296 = E := Nat.mod_eq_of_lt hE
  have e2 : E / 4294967296 % 4294967296 = 0 := by rw [Nat.div_eq_of_lt hE]
  match h, hh with
  | [a, b, c, d, e, f, g, i], _ =>
    unfold work
    rw [e1, e2]
    exact ⟨rfl, rfl⟩
theorem comp_of_work (h m : List Int) (t : Nat) (last : Bool) : comp h m t last = (List.range 8).map (fin h (rnds m 10 (work h t last))) := rfl
theorem xr_nat (a b : Int) : xr a b = ((BitVec.ofInt 32 a ^^^ BitVec.ofInt 32 b).toNat : Int) := by
  have h : (BitVec.ofInt 32 a ^^^ BitVec.ofInt 32 b).toNat < 4294967296 := (BitVec.ofInt 32 a ^^^ BitVec.ofInt 32 b).isLt
  show IntKind.u32.wrap ((BitVec.ofInt 32 a ^^^ BitVec.ofInt 32 b).toNat : Int) = _
  rw [IntKind.wrap_u32']
  omega
theorem xr_of (a b : Int) : BitVec.ofInt 32 (xr a b) = BitVec.ofInt 32 a ^^^ BitVec.ofInt 32 b := by
  rw [xr_nat, BitVec.ofInt_natCast, BitVec.ofNat_toNat, BitVec.setWidth_eq]
theorem xr_assoc (a b c : Int) : xr (xr a b) c = xr a (xr b c) := by
  rw [xr_nat, xr_of, xr_nat a, xr_of, BitVec.xor_assoc]
theorem final_at {R h v : List Int} (hR : R = (List.range 8).map (fin h v)) (k : Nat) (hk : k < 8) : R.getD k 0 = xr (xr (h.getD k 0) (v.getD k 0)) (v.getD (k + 8) 0) := by
  rw [hR, xr_assoc, List.getD_eq_getElem?_getD, List.getElem?_map, List.getElem?_range hk]
  rfl
/-- What the walk of the reference's compress knows of the world. -/
def RC (w : World) (g2 gm H : Nat) (M h v : List Int) (W : World) : Prop := Wf W g2 v ∧ Wf W gm M ∧ Wf W H h ∧ Below w.heap.size w W ∧ gm ≠ g2 ∧ w.heap.size ≤ g2 ∧ H ≠ g2
theorem RC.set {w W : World} {g2 gm H : Nat} {M h v : List Int} (r : RC w g2 gm H M h v W) (k : Nat) (hk : k < v.length) (x : Int) : RC w g2 gm H M h (v.set k x) (W.setCell ⟨g2, k, none⟩ (.int .u32 x)) := by
  obtain ⟨h1, h2, h3, h4, h5, h6, h7⟩ := r
  have hg : W.grownBy (W.setCell ⟨g2, k, none⟩ (.int .u32 x)) (some g2) := only_setCell (only_refl W _) k _
  exact ⟨h1.set k hk x, h2.only hg (fun e => h5 (Option.some.inj e)), h3.only hg (fun e => h7 (Option.some.inj e)), h4.setCell h6 _, h5, h6, h7⟩
theorem RC.alloc {w W : World} {g2 gm H : Nat} {M h v : List Int} (r : RC w g2 gm H M h v W) (o : Obj) : RC w g2 gm H M h v (W.alloc o) := by
  obtain ⟨h1, h2, h3, h4, h5, h6, h7⟩ := r
  exact ⟨h1.below (below_alloc W o) h1.2.2, h2.below (below_alloc W o) h2.2.2, h3.below (below_alloc W o) h3.2.2, h4.alloc h4.size _, h5, h6, h7⟩
theorem rc_call {w W W' : World} {g2 gm H y : Nat} {M h v v' : List Int} {z : Array Value} {t : TypeId} (r : RC w g2 gm H M h v W) (hb : Blk W y t z) (hy : y ≠ g2) (hwf : Wf W' g2 v') (hg : W.drew.grownBy W' (some g2)) :
    RC w g2 gm H M h v' W' ∧ Blk W' y t z ∧ y ≠ g2 := by
  obtain ⟨h1, h2, h3, h4, h5, h6, h7⟩ := r
  have h2' : Wf W.drew gm M := h2
  have h3' : Wf W.drew H h := h3
  have hb' : Blk W.drew y t z := hb
  refine ⟨⟨hwf, h2'.only hg (fun e => h5 (Option.some.inj e)), h3'.only hg (fun e => h7 (Option.some.inj e)), (below_drew h4 1).grown hg (below_drew h4 1).size (fun q e => by have e' : g2 = q := Option.some.inj e; omega), h5, h6, h7⟩, hb'.grown hg (fun e => hy (Option.some.inj e)), hy⟩
set_option maxHeartbeats 8000000 in
set_option maxRecDepth 100000 in
theorem rcomp_any (s : Bs) (hs : s.length ≤ 5000) (a : Nat) (ha : a ≤ 5000) (H hcap : Nat) (h : List Int) (hh : h.length = 8) (w : World) (hH : Wf w H h) :
    Calls Tryd.prog 64 #[.slice (some ⟨H, 0, none⟩) 8 hcap, .string (sv s), .int .i64 a] w fun e w' => (∃ g cap, e = .returned (.slice (some ⟨g, 0, none⟩) 8 cap) ∧ Wf w' g (comp h (blk ((s.drop a).take 64)) (min (a + 64) s.length) (decide (min (a + 64) s.length = s.length)))) ∧ Below w.heap.size w w' := by
  obtain ⟨i0, hi0, hz0, hz1, hz2⟩ := info_parts infoWord
  obtain ⟨n, hn⟩ : ∃ n, s.length = n := ⟨_, rfl⟩
  have hsz : (sv s).size = n := hn
  obtain ⟨M, hM⟩ : ∃ M, blk ((s.drop a).take 64) = M := ⟨_, rfl⟩
  have HML : Hid (M.length = 16) := Lib.hid (by rw [← hM]; exact blk_length _)
  have HMK : Hid (∀ k, k < 16 → M.getD k 0 = ((wAt s (a + 4 * k) : Nat) : Int)) := Lib.hid (fun k hk => by rw [← hM, blk_at _ k hk, wordN_wAt s a k hk])
  have HW := Lib.hid (fun b (hb : b ≤ 8000) W => rword_any s hs b hb W)
  obtain ⟨E, hE⟩ : ∃ E : Nat, min (a + 64) s.length = E := ⟨_, rfl⟩
  have HE : Hid (min (a + 64) n = E) := Lib.hid (by rw [← hn]; exact hE)
  obtain ⟨R, hR⟩ : ∃ R, comp h M E (decide (E = n)) = R := ⟨_, rfl⟩
  have HR : Hid (R = comp h M E (decide (E = n))) := Lib.hid hR.symm
  rw [hM, hE, hn, hR]
  rw [hn] at hs
  have HH := Lib.hid (And.intro hH hh)
  clear hM hE hR hn hH hh
  go_enter Tryd.func64, Tryd.ntmps64
  go_wp2_with fail
  go_loopw [7, 8] (fun v i wr => ∃ k : Nat, k ≤ 16 ∧ i = .int .i64 k ∧ Hid (wr.ownsRow w.heap.size 58 1 v k (wc (M.take k)) ∧ Below w.heap.size w wr)) (fun _ i _ => 16 - (intOf i).toNat)
  case atStart => exact ⟨0, Nat.zero_le _, rfl, Lib.hid ⟨⟨rfl, .inl ⟨rfl, rfl⟩⟩, Below.refl _ _⟩⟩
  case round =>
    obtain ⟨k, hk, rfl, HK⟩ := hrel
    by_cases hlt : k < 16
    · have dl : decide ((k : Int) < 16) = true := decide_eq_true (by omega)
      obtain ⟨e, he⟩ : ∃ e, a + 4 * k = e := ⟨_, rfl⟩
      have hea : (a : Int) + 4 * (k : Int) = (e : Int) := by omega
      have HC := Lib.hid (HW.out e (by omega))
      have HX := Lib.hid (HMK.out k hlt)
      rw [he] at HX
      have HT := Lib.hid (take_snoc M k (by rw [HML.out]; exact hlt))
      rw [HX.out] at HT
      obtain ⟨x, hx⟩ : ∃ x, wAt s e = x := ⟨_, rfl⟩
      rw [hx] at HC HT
      clear hx he HX
      go_wp2_with fail
      refine (HC.out _).mono ?_
      rintro e w' ⟨rfl, rfl⟩
      go_wp2_with (at_builtin; go_loud (refine wpList_append_lies _ rfl (.tmp 19) (.tmp 26) 74 rfl w.heap.size 58 i0 (.int .u32 0) 1 4 Tryd.underlying74 hi0 hz0 hz1 hz2 rfl (by decide) u7 k (wc (M.take k)) rfl (HK.out.1.alloc _) ⟨wr.heap.size, 0, none⟩ 1 1 (wc [(x : Int)]) rfl rfl (fun j u hj => roww_cell rfl j hj) (wc_one _) (by decide) (by unfold maxLen; omega) (by omega) (by have := HK.out.2.size; simp; omega) _ rfl ?_); intro g cap w1 hown1 hgrow1 hwh hgl)
      have HN : Hid (w1.ownsRow w.heap.size 58 1 (.slice (some ⟨g, 0, none⟩) (k + 1) cap) (k + 1) (wc (M.take (k + 1))) ∧ Below w.heap.size w w1) := Lib.hid ⟨by rw [HT.out, wc_append]; exact hown1, (HK.out.2.alloc HK.out.2.size _).grown hgrow1 (by have := HK.out.2.size; simp; omega) (fun q e => (HK.out.1.lt q e).1)⟩
      clear hown1 hgrow1 hwh hgl HK HT HC
      go_wp2_with fail
      go_roundw
      case rel => exact ⟨k + 1, by omega, by go_num, HN⟩
      case measure => simp [intOf]; omega
    · have hk16 : k = 16 := by omega
      have dl : decide ((k : Int) < 16) = false := decide_eq_false (by omega)
      subst hk16
      obtain ⟨c16, hc16⟩ : ∃ c : Int, ((16 : Nat) : Int) = c := ⟨_, rfl⟩
      rw [hc16] at dl ⊢
      clear hc16
      have HK2 := HK.out
      rw [List.take_of_length_le (Nat.le_of_eq HML.out)] at HK2
      obtain ⟨gm, capm, rfl, hgm, hWm, -⟩ := own_words HK2.1 (by decide)
      have HA : Hid (Wf wr gm M ∧ Wf wr H h ∧ Below w.heap.size w wr ∧ w.heap.size ≤ gm) := Lib.hid ⟨hWm, HH.out.1.below HK2.2 HH.out.1.2.2, HK2.2, hgm⟩
      clear HK HK2 hgm hWm
      go_upto_region 6 with fail
      refine wp_region_lit ?_
      go_step
      go_step
      go_step
      go_step
      go_step
      go_step
      have HO0 : Hid ((wr.alloc (.cells #[] 58)).ownsRow w.heap.size 58 1 (.slice (some ⟨wr.heap.size, 0, none⟩) 0 0) 0 [] ∧ Wf (wr.alloc (.cells #[] 58)) H h ∧ Wf (wr.alloc (.cells #[] 58)) gm M ∧ Below w.heap.size w (wr.alloc (.cells #[] 58)) ∧ gm < wr.heap.size) := Lib.hid
        ⟨⟨rfl, .inr ⟨wr.heap.size, 0, #[], rfl, HA.out.2.2.1.size, heap_alloc_new _ _, Nat.le_refl _, by unfold maxLen; omega, rfl, rfl⟩⟩, HA.out.2.1.below (below_alloc wr _) HA.out.2.1.2.2, HA.out.1.below (below_alloc wr _) HA.out.1.2.2, HA.out.2.2.1.alloc HA.out.2.2.1.size _, HA.out.1.2.2⟩
      obtain ⟨y, hy⟩ : ∃ y, wr.heap.size = y := ⟨_, rfl⟩
      rw [hy] at HO0
      rw [hy]
      have HGM := Lib.hid HA.out.2.2.2
      clear hy HA
      generalize wr.alloc (.cells #[] 58) = wr at *
      refine wpList_append_lies _ rfl (.tmp 28) (.tmp 29) 74 rfl w.heap.size 58 i0 (.int .u32 0) 1 4 Tryd.underlying74 hi0 hz0 hz1 hz2 rfl (by decide) _ 0 [] rfl HO0.out.1 ⟨H, 0, none⟩ 8 hcap (wc h) rfl (by simp [wc, HH.out.2]) HO0.out.2.1.news (wc_one _) (by decide) (by unfold maxLen; omega) (by omega) HO0.out.2.2.2.1.size _ rfl ?_
      intro g1 cap1 w1 hown1 hgrow1 hwh1 hgl1
      have HB1 : Hid (w1.ownsRow w.heap.size 58 1 (.slice (some ⟨g1, 0, none⟩) 8 cap1) 8 (wc h) ∧ Wf w1 gm M ∧ Wf w1 H h ∧ Below w.heap.size w w1 ∧ gm ≠ g1) := Lib.hid
        ⟨by simpa using hown1, HO0.out.2.2.1.only hgrow1 (by intro e; have e' : gm = y := Option.some.inj e; have := HO0.out.2.2.2.2; omega), HH.out.1.below ((HO0.out.2.2.2.1).grown hgrow1 HO0.out.2.2.2.1.size (fun q e => (HO0.out.1.lt q e).1)) HH.out.1.2.2, (HO0.out.2.2.2.1).grown hgrow1 HO0.out.2.2.2.1.size (fun q e => (HO0.out.1.lt q e).1), by
          have := HO0.out.2.2.2.2
          have := HO0.out.2.2.1.2.2
          rcases hwh1 with e | e
          · have e' : y = g1 := Option.some.inj e; omega
          · omega⟩
      clear hown1 hgrow1 hwh1 hgl1 HO0
      go_upto_region 7 with fail
      refine wp_region_lit ?_
      go_step
      go_step
      go_step
      go_wp2_with fail
      refine (consts_any _).mono ?_
      rintro e w' ⟨rfl, rfl⟩
      dsimp only
      go_step
      refine wpList_append_lies _ rfl (.tmp 31) (.tmp 32) 74 rfl w.heap.size 58 i0 (.int .u32 0) 1 4 Tryd.underlying74 hi0 hz0 hz1 hz2 rfl (by decide) _ 8 (wc h) rfl (HB1.out.1.alloc _) ⟨w1.heap.size, 0, none⟩ 8 8 (wc startL) rfl rfl (fun j u hj => roww_cell rfl j hj) (wc_one _) (by decide) (by unfold maxLen; omega) (by omega) (by have := HB1.out.2.2.2.1.size; simp; omega) _ rfl ?_
      intro g2 cap2 w2 hown2 hgrow2 hwh2 hgl2
      obtain ⟨v0, hv0⟩ : ∃ v, h ++ startL = v := ⟨_, rfl⟩
      have hv16 : v0.length = 16 := by rw [← hv0, List.length_append, HH.out.2]; rfl
      have hown2' : w2.ownsRow w.heap.size 58 1 (.slice (some ⟨g2, 0, none⟩) 16 cap2) 16 (wc v0) := by
        rw [← hv0, wc_append]; exact hown2
      have hwf2 : Wf w2 g2 v0 := by
        obtain ⟨g', cap', e', -, h1, -⟩ := own_words hown2' (by decide)
        simp only [Value.slice.injEq, Option.some.injEq, Addr.mk.injEq] at e'
        rw [e'.1.1]; exact h1
      have hbb2 : Below w.heap.size w w2 := (HB1.out.2.2.2.1.alloc HB1.out.2.2.2.1.size _).grown hgrow2 (by have := HB1.out.2.2.2.1.size; simp; omega) (fun q e => (HB1.out.1.lt q e).1)
      have HB2 : Hid (Wf w2 g2 v0 ∧ Wf w2 gm M ∧ Wf w2 H h ∧ Below w.heap.size w w2 ∧ gm ≠ g2 ∧ w.heap.size ≤ g2) := Lib.hid
        ⟨hwf2, (HB1.out.2.1.below (below_alloc w1 (.cells (wl startL) 58)) HB1.out.2.1.2.2).only hgrow2 (by intro e; have e' : gm = g1 := Option.some.inj e; exact HB1.out.2.2.2.2 e'), HH.out.1.below hbb2 HH.out.1.2.2, hbb2, by
          have hgm := HB1.out.2.1.2.2
          rcases hwh2 with e | e
          · have e' : g1 = g2 := Option.some.inj e; have := HB1.out.2.2.2.2; omega
          · have : g2 = w1.heap.size + 1 := by rw [e]; simp
            omega, (hown2'.lt g2 rfl).1⟩
      have HV0 := Lib.hid (And.intro hv0 hv16)
      clear hown2 hgrow2 hwh2 hgl2 hown2' hwf2 hbb2 HB1 hv0 hv16
      go_step
      go_step
      go_step
      go_upto_region 8 with fail
      have HE' := HE.out
      go_cut [10, 34, 35, 36, 37, 38] (fun v _ _ _ _ _ wc => v = .int .i64 (E : Nat) ∧ w2 = wc)
      case first =>
        go_wp2_with fail
        all_goals
          go_meet
          exact ⟨by congr 1 <;> omega, rfl⟩
      case rest =>
        obtain ⟨rfl, rfl⟩ := hcut
        clear HE'
        have HR0 : Hid (RC w g2 gm H M h v0 w2) := Lib.hid ⟨HB2.out.1, HB2.out.2.1, HB2.out.2.2.1, HB2.out.2.2.2.1, HB2.out.2.2.2.2.1, HB2.out.2.2.2.2.2, by have := HB2.out.2.2.2.2.2; have := HH.out.1.2.2; omega⟩
        have hE2 : E ≤ 5000 := by have := HE.out; omega
        have c12 : w2.cell? ⟨g2, 12, none⟩ = some (.int .u32 1359893119) := (HR0.out.1.1 12 (by rw [HV0.out.2]; decide)).trans (by rw [← HV0.out.1, List.getD_eq_getElem?_getD, List.getElem?_append_right (by rw [HH.out.2]; decide), HH.out.2]; rfl)
        have c13 : w2.cell? ⟨g2, 13, none⟩ = some (.int .u32 2600822924) := (HR0.out.1.1 13 (by rw [HV0.out.2]; decide)).trans (by rw [← HV0.out.1, List.getD_eq_getElem?_getD, List.getElem?_append_right (by rw [HH.out.2]; decide), HH.out.2]; rfl)
        have f12 : w2.frozen? ⟨g2, 12, none⟩ = false := HR0.out.1.2.1 12 (by rw [HV0.out.2]; decide)
        have f13 : w2.frozen? ⟨g2, 13, none⟩ = false := HR0.out.1.2.1 13 (by rw [HV0.out.2]; decide)
        have e1 : (E : Int) % 4294967296 = (E : Int) := by omega
        have e2 : (E : Int) / 4294967296 = 0 := by omega
        have e3 : Int.tmod (E : Int) 4294967296 = (E : Int) := by rw [Int.tmod_eq_emod_of_nonneg (by omega)]; exact e1
        have e4 : Int.tdiv (E : Int) 4294967296 = 0 := by rw [Int.tdiv_eq_ediv_of_nonneg (by omega)]; exact e2
        obtain ⟨X0, hX0⟩ : ∃ x, bits .xor .u32 1359893119 (E : Int) = x := ⟨_, rfl⟩
        obtain ⟨X1, hX1⟩ : ∃ x, bits .xor .u32 2600822924 0 = x := ⟨_, rfl⟩
        clear HB2
        go_upto_region 11 with fail
        refine hide_world (X := fun W => Hid (RC w g2 gm H M h ((v0.set 12 X0).set 13 X1) W)) (Lib.hid ((HR0.out.set 12 (by rw [HV0.out.2]; decide) X0).set 13 (by rw [List.length_set, HV0.out.2]; decide) X1)) ?_
        have HX : Hid ((v0.set 12 X0).set 13 X1 = work h E false ∧ ((v0.set 12 X0).set 13 X1).set 14 3766232660 = work h E true) := Lib.hid (by
          have := work_eq h HH.out.2 E (by omega)
          unfold xr at this
          rw [hX0, hX1, HV0.out.1] at this
          exact this)
        clear hX0 hX1 c12 c13 f12 f13 e1 e2 e3 e4 HR0
        intro W3 HR3
        go_upto_if 60 with fail
        go_cut [61, 62, 63, 64, 65, 66] (fun _ _ _ _ _ _ wc => Hid (RC w g2 gm H M h (work h E (decide (E = n))) wc))
        case first =>
          by_cases hEn : E = n
          · have dE : ((E : Int) == (n : Int)) = true := by simp; omega
            have c14 : W3.cell? ⟨g2, 14, none⟩ = some (.int .u32 528734635) := (HR3.out.1.1 14 (by rw [List.length_set, List.length_set, HV0.out.2]; decide)).trans (by rw [HX.out.1]; rfl)
            have f14 : W3.frozen? ⟨g2, 14, none⟩ = false := HR3.out.1.2.1 14 (by rw [List.length_set, List.length_set, HV0.out.2]; decide)
            have HRN : Hid (RC w g2 gm H M h (work h E (decide (E = n))) (W3.setCell ⟨g2, 14, none⟩ (.int .u32 3766232660))) := Lib.hid (by
              rw [decide_eq_true hEn, ← HX.out.2]
              exact HR3.out.set 14 (by rw [List.length_set, List.length_set, HV0.out.2]; decide) _)
            go_wp2_with fail
            go_meet
            exact HRN
          · have dE : ((E : Int) == (n : Int)) = false := by simp; omega
            have HRN : Hid (RC w g2 gm H M h (work h E (decide (E = n))) W3) := Lib.hid (by
              rw [decide_eq_false hEn, ← HX.out.1]
              exact HR3.out)
            go_wp2_with fail
            go_meet
            exact HRN
        case rest =>
          clear HR3 W3 HX
          have HWL : Hid ((work h E (decide (E = n))).length = 16) := Lib.hid rfl
          have HRR : Hid (R = (List.range 8).map (fin h (rnds M 10 (work h E (decide (E = n)))))) := Lib.hid (by rw [HR.out]; rfl)
          obtain ⟨V, hV⟩ : ∃ V, work h E (decide (E = n)) = V := ⟨_, rfl⟩
          rw [hV] at hcut HWL HRR
          clear hV HR HV0 HW HMK
          go_wp2_with fail
          go_loopw [11, 12] (fun i _ wr => ∃ r : Nat, r ≤ 10 ∧ i = .int .i64 r ∧ Hid (RC w g2 gm H M h (rnds M r V) wr)) (fun i _ _ => 10 - (intOf i).toNat)
          case atStart => exact ⟨0, Nat.zero_le _, rfl, hcut⟩
          case round =>
            clear hcut
            obtain ⟨r, hr, rfl, HK⟩ := hrel
            by_cases hlt : r < 10
            · have dl : decide ((r : Int) < 10) = true := decide_eq_true (by omega)
              have HRN := Lib.hid (show rnds M (r + 1) V = rnd (rnds M r V) M (ordersL.getD r []) from rfl)
              have HOK := Lib.hid (order_ok r hlt)
              have HOA := Lib.hid (fun W => order_any r hlt W)
              have HL0 : Hid ((rnds M r V).length = 16) := Lib.hid (by rw [rnds_length]; exact HWL.out)
              obtain ⟨z, hz⟩ : ∃ z, ordersL.getD r [] = z := ⟨_, rfl⟩
              rw [hz] at HRN HOK HOA
              obtain ⟨l, hl⟩ : ∃ v, rnds M r V = v := ⟨_, rfl⟩
              rw [hl] at HK HRN HL0
              clear hz hl
              go_wp2_with fail
              refine (HOA.out _).mono ?_
              rintro e w' ⟨rfl, rfl⟩
              dsimp only
              go_step
              refine hide_list (X := fun W => Hid (RC w g2 gm H M h l W ∧ Blk W wr.heap.size 3 (il z) ∧ wr.heap.size ≠ g2)) (Lib.hid ⟨HK.out.alloc _, Blk.new wr _ _, by have := HK.out.1.2.2; omega⟩) ?_
              obtain ⟨y, hy⟩ : ∃ y, wr.heap.size = y := ⟨_, rfl⟩
              rw [hy]
              clear hy HK HOA
              clear wr
              intro wr HK
              go_wp2_with fail
              obtain ⟨m0, hm0', em0⟩ := HOK.out.2 0 (by decide)
              obtain ⟨n0, hn0', en0⟩ := HOK.out.2 1 (by decide)
              have hm0 : ((m0 : Nat) : Int) < 16 := by omega
              have hn0 : ((n0 : Nat) : Int) < 16 := by omega
              obtain ⟨x0, hx0⟩ : ∃ v, M.getD m0 0 = v := ⟨_, rfl⟩
              obtain ⟨y0, hy0⟩ : ∃ v, M.getD n0 0 = v := ⟨_, rfl⟩
              have hS : wr.drew.cell? ⟨y, 0, none⟩ = some (.int .i64 (m0 : Nat)) ∧ wr.drew.cell? ⟨gm, m0, none⟩ = some (.int .u32 x0) ∧ wr.drew.cell? ⟨y, 1, none⟩ = some (.int .i64 (n0 : Nat)) ∧ wr.drew.cell? ⟨gm, n0, none⟩ = some (.int .u32 y0) := by
                obtain ⟨⟨h1, h2, -⟩, h3, -⟩ := HK.out
                refine ⟨?_, ?_, ?_, ?_⟩
                · exact (h3.cell 0).trans (by rw [il_at z 0 (by rw [HOK.out.1]; decide), em0])
                · exact (h2.1 m0 (by rw [HML.out]; exact hm0')).trans (by rw [hx0])
                · exact (h3.cell 1).trans (by rw [il_at z 1 (by rw [HOK.out.1]; decide), en0])
                · exact (h2.1 n0 (by rw [HML.out]; exact hn0')).trans (by rw [hy0])
              have HE0 : Hid (rg l 0 4 8 12 x0 y0 = gg l 0 4 8 12 (ix M z 0) (ix M z 1)) := Lib.hid (by
                rw [rg_eq l 0 4 8 12 x0 y0 HL0.out (by decide) (by decide) (by decide) (by decide) (by decide) (by decide) (by decide) (by decide) (by decide) (by decide)]
                unfold ix
                rw [em0, en0, Int.toNat_natCast, Int.toNat_natCast, hx0, hy0])
              clear hx0 hy0 em0 en0 hm0' hn0'
              refine wp_region_T 13 (fun W => W.cell? ⟨y, 0, none⟩ = some (.int .i64 (m0 : Nat)) ∧ W.cell? ⟨gm, m0, none⟩ = some (.int .u32 x0) ∧ W.cell? ⟨y, 1, none⟩ = some (.int .i64 (n0 : Nat)) ∧ W.cell? ⟨gm, n0, none⟩ = some (.int .u32 y0)) (by kernel_rfl) ?_
              refine wpAnyT_take (i := 0) (v := ?_) rfl (by kernel_rfl) (fun _ _ _ h => h) (Or.inl ⟨by rfl, ?_⟩) hS ?_
              rotate_left
              · intro w2 hw2
                try dsimp only at hw2
                go_simp
                first | done | with_reducible rfl
              try simp only [Act.put, List.getElem_toArray, List.getElem_cons_zero, List.setIfInBounds_toArray, List.set_cons_zero, List.set_cons_succ]
              refine wpAnyT_take (i := 1) (v := ?_) rfl (by kernel_rfl) (fun _ _ _ h => h) (Or.inl ⟨by rfl, ?_⟩) hS ?_
              rotate_left
              · intro w2 hw2
                try dsimp only at hw2
                go_simp
                first | done | with_reducible rfl
              try simp only [Act.put, List.getElem_toArray, List.getElem_cons_succ, List.getElem_cons_zero, List.setIfInBounds_toArray, List.set_cons_zero, List.set_cons_succ]
              refine wpAnyT_take (i := 2) (v := ?_) rfl (by kernel_rfl) (fun _ _ _ h => h) (Or.inl ⟨by rfl, ?_⟩) hS ?_
              rotate_left
              · intro w2 hw2
                try dsimp only at hw2
                go_simp
                first | done | with_reducible rfl
              try simp only [Act.put, List.getElem_toArray, List.getElem_cons_succ, List.getElem_cons_zero, List.setIfInBounds_toArray, List.set_cons_zero, List.set_cons_succ]
              refine wpAnyT_take (i := 3) (v := ?_) rfl (by kernel_rfl) (fun _ _ _ h => h) (Or.inl ⟨by rfl, ?_⟩) hS ?_
              rotate_left
              · intro w2 hw2
                try dsimp only at hw2
                go_simp
                first | done | with_reducible rfl
              try simp only [Act.put, List.getElem_toArray, List.getElem_cons_succ, List.getElem_cons_zero, List.setIfInBounds_toArray, List.set_cons_zero, List.set_cons_succ]
              refine wpAnyT_take (i := 4) (v := ?_) rfl (by kernel_rfl) (fun _ _ _ h => h) (Or.inl ⟨by rfl, ?_⟩) hS ?_
              rotate_left
              · intro w2 hw2
                try dsimp only at hw2
                go_simp
                first | done | with_reducible rfl
              try simp only [Act.put, List.getElem_toArray, List.getElem_cons_succ, List.getElem_cons_zero, List.setIfInBounds_toArray, List.set_cons_zero, List.set_cons_succ]
              refine wpAnyT_take (i := 5) (v := ?_) rfl (by kernel_rfl) (fun _ _ _ h => h) (Or.inl ⟨by rfl, ?_⟩) hS ?_
              rotate_left
              · intro w2 hw2
                try dsimp only at hw2
                go_simp
                first | done | with_reducible rfl
              try simp only [Act.put, List.getElem_toArray, List.getElem_cons_succ, List.getElem_cons_zero, List.setIfInBounds_toArray, List.set_cons_zero, List.set_cons_succ]
              refine wpAnyT_take (i := 6) (v := ?_) rfl (by kernel_rfl) (fun _ _ _ h => h) (Or.inl ⟨by rfl, ?_⟩) hS ?_
              rotate_left
              · intro w2 hw2
                try dsimp only at hw2
                go_simp
                first | done | with_reducible rfl
              try simp only [Act.put, List.getElem_toArray, List.getElem_cons_succ, List.getElem_cons_zero, List.setIfInBounds_toArray, List.set_cons_zero, List.set_cons_succ]
              refine wpAnyT_take (i := 7) (v := ?_) rfl (by kernel_rfl) (fun _ _ _ h => h) (Or.inl ⟨by rfl, ?_⟩) hS ?_
              rotate_left
              · intro w2 hw2
                try dsimp only at hw2
                go_simp
                first | done | with_reducible rfl
              try simp only [Act.put, List.getElem_toArray, List.getElem_cons_succ, List.getElem_cons_zero, List.setIfInBounds_toArray, List.set_cons_zero, List.set_cons_succ]
              refine wpAnyT_take (i := 8) (v := ?_) rfl (by kernel_rfl) (fun _ _ _ h => h) (Or.inl ⟨by rfl, ?_⟩) hS ?_
              rotate_left
              · intro w2 hw2
                try dsimp only at hw2
                go_simp
                first | done | with_reducible rfl
              try simp only [Act.put, List.getElem_toArray, List.getElem_cons_succ, List.getElem_cons_zero, List.setIfInBounds_toArray, List.set_cons_zero, List.set_cons_succ]
              refine wpAnyT_take (i := 9) (v := ?_) rfl (by kernel_rfl) (fun _ _ _ h => h) (Or.inl ⟨by rfl, ?_⟩) hS ?_
              rotate_left
              · intro w2 hw2
                try dsimp only at hw2
                go_simp
                first | done | with_reducible rfl
              try simp only [Act.put, List.getElem_toArray, List.getElem_cons_succ, List.getElem_cons_zero, List.setIfInBounds_toArray, List.set_cons_zero, List.set_cons_succ]
              refine wpAnyT_take (i := 10) (v := ?_) rfl (by kernel_rfl) (fun _ _ _ h => h) (Or.inl ⟨by rfl, ?_⟩) hS ?_
              rotate_left
              · intro w2 hw2
                try dsimp only at hw2
                go_simp
                first | done | with_reducible rfl
              try simp only [Act.put, List.getElem_toArray, List.getElem_cons_succ, List.getElem_cons_zero, List.setIfInBounds_toArray, List.set_cons_zero, List.set_cons_succ]
              refine wpAnyT_take (i := 11) (v := ?_) rfl (by kernel_rfl) (fun _ _ _ h => h) (Or.inl ⟨by rfl, ?_⟩) hS ?_
              rotate_left
              · intro w2 hw2
                try dsimp only at hw2
                go_simp
                first | done | with_reducible rfl
              try simp only [Act.put, List.getElem_toArray, List.getElem_cons_succ, List.getElem_cons_zero, List.setIfInBounds_toArray, List.set_cons_zero, List.set_cons_succ]
              refine wpAnyT_take (i := 12) (v := ?_) rfl (by kernel_rfl) (fun _ _ _ h => h) (Or.inl ⟨by rfl, ?_⟩) hS ?_
              rotate_left
              · intro w2 hw2
                try dsimp only at hw2
                go_simp
                first | done | with_reducible rfl
              try simp only [Act.put, List.getElem_toArray, List.getElem_cons_succ, List.getElem_cons_zero, List.setIfInBounds_toArray, List.set_cons_zero, List.set_cons_succ]
              clear hS
              refine wpAnyT_gate rfl (by kernel_rfl) (fun K hK => ?_)
              go_simp
              refine (refg_any g2 cap2 l HL0.out 0 4 8 12 (by decide) (by decide) (by decide) (by decide) x0 y0 wr.drew HK.out.1.1).mono ?_
              rintro e wz ⟨rfl, hwf, hgr⟩
              have HKN : Hid (RC w g2 gm H M h (rg l 0 4 8 12 x0 y0) wz ∧ Blk wz y 3 (il z) ∧ y ≠ g2) := Lib.hid (rc_call HK.out.1 HK.out.2.1 HK.out.2.2 hwf hgr)
              refine hK.out _ _ ?_
              clear hK K HK hwf hgr wr
              have HL1 : Hid ((rg l 0 4 8 12 x0 y0).length = 16) := Lib.hid (by rw [HE0.out, gg_length]; exact HL0.out)
              obtain ⟨l1, hl1⟩ : ∃ v, rg l 0 4 8 12 x0 y0 = v := ⟨_, rfl⟩
              rw [hl1] at HE0 HL1 HKN
              clear hl1
              refine hide_any (X := fun W => Hid (RC w g2 gm H M h l1 W ∧ Blk W y 3 (il z) ∧ y ≠ g2)) HKN ?_
              clear HKN
              clear wz
              intro wr HK
              try simp only [Act.put, List.getElem_toArray, List.getElem_cons_succ, List.getElem_cons_zero, List.setIfInBounds_toArray, List.set_cons_zero, List.set_cons_succ]
              refine wpAny_done (by kernel_rfl) ?_ _
              go_wp2_with fail
              obtain ⟨m1, hm1', em1⟩ := HOK.out.2 2 (by decide)
              obtain ⟨n1, hn1', en1⟩ := HOK.out.2 3 (by decide)
              have hm1 : ((m1 : Nat) : Int) < 16 := by omega
              have hn1 : ((n1 : Nat) : Int) < 16 := by omega
              obtain ⟨x1, hx1⟩ : ∃ v, M.getD m1 0 = v := ⟨_, rfl⟩
              obtain ⟨y1, hy1⟩ : ∃ v, M.getD n1 0 = v := ⟨_, rfl⟩
              have hS : wr.drew.cell? ⟨y, 2, none⟩ = some (.int .i64 (m1 : Nat)) ∧ wr.drew.cell? ⟨gm, m1, none⟩ = some (.int .u32 x1) ∧ wr.drew.cell? ⟨y, 3, none⟩ = some (.int .i64 (n1 : Nat)) ∧ wr.drew.cell? ⟨gm, n1, none⟩ = some (.int .u32 y1) := by
                obtain ⟨⟨h1, h2, -⟩, h3, -⟩ := HK.out
                refine ⟨?_, ?_, ?_, ?_⟩
                · exact (h3.cell 2).trans (by rw [il_at z 2 (by rw [HOK.out.1]; decide), em1])
                · exact (h2.1 m1 (by rw [HML.out]; exact hm1')).trans (by rw [hx1])
                · exact (h3.cell 3).trans (by rw [il_at z 3 (by rw [HOK.out.1]; decide), en1])
                · exact (h2.1 n1 (by rw [HML.out]; exact hn1')).trans (by rw [hy1])
              have HE1 : Hid (rg l1 1 5 9 13 x1 y1 = gg l1 1 5 9 13 (ix M z 2) (ix M z 3)) := Lib.hid (by
                rw [rg_eq l1 1 5 9 13 x1 y1 HL1.out (by decide) (by decide) (by decide) (by decide) (by decide) (by decide) (by decide) (by decide) (by decide) (by decide)]
                unfold ix
                rw [em1, en1, Int.toNat_natCast, Int.toNat_natCast, hx1, hy1])
              clear hx1 hy1 em1 en1 hm1' hn1'
              refine wp_region_T 13 (fun W => W.cell? ⟨y, 2, none⟩ = some (.int .i64 (m1 : Nat)) ∧ W.cell? ⟨gm, m1, none⟩ = some (.int .u32 x1) ∧ W.cell? ⟨y, 3, none⟩ = some (.int .i64 (n1 : Nat)) ∧ W.cell? ⟨gm, n1, none⟩ = some (.int .u32 y1)) (by kernel_rfl) ?_
              refine wpAnyT_take (i := 0) (v := ?_) rfl (by kernel_rfl) (fun _ _ _ h => h) (Or.inl ⟨by rfl, ?_⟩) hS ?_
              rotate_left
              · intro w2 hw2
                try dsimp only at hw2
                go_simp
                first | done | with_reducible rfl
              try simp only [Act.put, List.getElem_toArray, List.getElem_cons_zero, List.setIfInBounds_toArray, List.set_cons_zero, List.set_cons_succ]
              refine wpAnyT_take (i := 1) (v := ?_) rfl (by kernel_rfl) (fun _ _ _ h => h) (Or.inl ⟨by rfl, ?_⟩) hS ?_
              rotate_left
              · intro w2 hw2
                try dsimp only at hw2
                go_simp
                first | done | with_reducible rfl
              try simp only [Act.put, List.getElem_toArray, List.getElem_cons_succ, List.getElem_cons_zero, List.setIfInBounds_toArray, List.set_cons_zero, List.set_cons_succ]
              refine wpAnyT_take (i := 2) (v := ?_) rfl (by kernel_rfl) (fun _ _ _ h => h) (Or.inl ⟨by rfl, ?_⟩) hS ?_
              rotate_left
              · intro w2 hw2
                try dsimp only at hw2
                go_simp
                first | done | with_reducible rfl
              try simp only [Act.put, List.getElem_toArray, List.getElem_cons_succ, List.getElem_cons_zero, List.setIfInBounds_toArray, List.set_cons_zero, List.set_cons_succ]
              refine wpAnyT_take (i := 3) (v := ?_) rfl (by kernel_rfl) (fun _ _ _ h => h) (Or.inl ⟨by rfl, ?_⟩) hS ?_
              rotate_left
              · intro w2 hw2
                try dsimp only at hw2
                go_simp
                first | done | with_reducible rfl
              try simp only [Act.put, List.getElem_toArray, List.getElem_cons_succ, List.getElem_cons_zero, List.setIfInBounds_toArray, List.set_cons_zero, List.set_cons_succ]
              refine wpAnyT_take (i := 4) (v := ?_) rfl (by kernel_rfl) (fun _ _ _ h => h) (Or.inl ⟨by rfl, ?_⟩) hS ?_
              rotate_left
              · intro w2 hw2
                try dsimp only at hw2
                go_simp
                first | done | with_reducible rfl
              try simp only [Act.put, List.getElem_toArray, List.getElem_cons_succ, List.getElem_cons_zero, List.setIfInBounds_toArray, List.set_cons_zero, List.set_cons_succ]
              refine wpAnyT_take (i := 5) (v := ?_) rfl (by kernel_rfl) (fun _ _ _ h => h) (Or.inl ⟨by rfl, ?_⟩) hS ?_
              rotate_left
              · intro w2 hw2
                try dsimp only at hw2
                go_simp
                first | done | with_reducible rfl
              try simp only [Act.put, List.getElem_toArray, List.getElem_cons_succ, List.getElem_cons_zero, List.setIfInBounds_toArray, List.set_cons_zero, List.set_cons_succ]
              refine wpAnyT_take (i := 6) (v := ?_) rfl (by kernel_rfl) (fun _ _ _ h => h) (Or.inl ⟨by rfl, ?_⟩) hS ?_
              rotate_left
              · intro w2 hw2
                try dsimp only at hw2
                go_simp
                first | done | with_reducible rfl
              try simp only [Act.put, List.getElem_toArray, List.getElem_cons_succ, List.getElem_cons_zero, List.setIfInBounds_toArray, List.set_cons_zero, List.set_cons_succ]
              refine wpAnyT_take (i := 7) (v := ?_) rfl (by kernel_rfl) (fun _ _ _ h => h) (Or.inl ⟨by rfl, ?_⟩) hS ?_
              rotate_left
              · intro w2 hw2
                try dsimp only at hw2
                go_simp
                first | done | with_reducible rfl
              try simp only [Act.put, List.getElem_toArray, List.getElem_cons_succ, List.getElem_cons_zero, List.setIfInBounds_toArray, List.set_cons_zero, List.set_cons_succ]
              refine wpAnyT_take (i := 8) (v := ?_) rfl (by kernel_rfl) (fun _ _ _ h => h) (Or.inl ⟨by rfl, ?_⟩) hS ?_
              rotate_left
              · intro w2 hw2
                try dsimp only at hw2
                go_simp
                first | done | with_reducible rfl
              try simp only [Act.put, List.getElem_toArray, List.getElem_cons_succ, List.getElem_cons_zero, List.setIfInBounds_toArray, List.set_cons_zero, List.set_cons_succ]
              refine wpAnyT_take (i := 9) (v := ?_) rfl (by kernel_rfl) (fun _ _ _ h => h) (Or.inl ⟨by rfl, ?_⟩) hS ?_
              rotate_left
              · intro w2 hw2
                try dsimp only at hw2
                go_simp
                first | done | with_reducible rfl
              try simp only [Act.put, List.getElem_toArray, List.getElem_cons_succ, List.getElem_cons_zero, List.setIfInBounds_toArray, List.set_cons_zero, List.set_cons_succ]
              refine wpAnyT_take (i := 10) (v := ?_) rfl (by kernel_rfl) (fun _ _ _ h => h) (Or.inl ⟨by rfl, ?_⟩) hS ?_
              rotate_left
              · intro w2 hw2
                try dsimp only at hw2
                go_simp
                first | done | with_reducible rfl
              try simp only [Act.put, List.getElem_toArray, List.getElem_cons_succ, List.getElem_cons_zero, List.setIfInBounds_toArray, List.set_cons_zero, List.set_cons_succ]
              refine wpAnyT_take (i := 11) (v := ?_) rfl (by kernel_rfl) (fun _ _ _ h => h) (Or.inl ⟨by rfl, ?_⟩) hS ?_
              rotate_left
              · intro w2 hw2
                try dsimp only at hw2
                go_simp
                first | done | with_reducible rfl
              try simp only [Act.put, List.getElem_toArray, List.getElem_cons_succ, List.getElem_cons_zero, List.setIfInBounds_toArray, List.set_cons_zero, List.set_cons_succ]
              refine wpAnyT_take (i := 12) (v := ?_) rfl (by kernel_rfl) (fun _ _ _ h => h) (Or.inl ⟨by rfl, ?_⟩) hS ?_
              rotate_left
              · intro w2 hw2
                try dsimp only at hw2
                go_simp
                first | done | with_reducible rfl
              try simp only [Act.put, List.getElem_toArray, List.getElem_cons_succ, List.getElem_cons_zero, List.setIfInBounds_toArray, List.set_cons_zero, List.set_cons_succ]
              clear hS
              refine wpAnyT_gate rfl (by kernel_rfl) (fun K hK => ?_)
              go_simp
              refine (refg_any g2 cap2 l1 HL1.out 1 5 9 13 (by decide) (by decide) (by decide) (by decide) x1 y1 wr.drew HK.out.1.1).mono ?_
              rintro e wz ⟨rfl, hwf, hgr⟩
              have HKN : Hid (RC w g2 gm H M h (rg l1 1 5 9 13 x1 y1) wz ∧ Blk wz y 3 (il z) ∧ y ≠ g2) := Lib.hid (rc_call HK.out.1 HK.out.2.1 HK.out.2.2 hwf hgr)
              refine hK.out _ _ ?_
              clear hK K HK hwf hgr wr
              have HL2 : Hid ((rg l1 1 5 9 13 x1 y1).length = 16) := Lib.hid (by rw [HE1.out, gg_length]; exact HL1.out)
              obtain ⟨l2, hl2⟩ : ∃ v, rg l1 1 5 9 13 x1 y1 = v := ⟨_, rfl⟩
              rw [hl2] at HE1 HL2 HKN
              clear hl2
              refine hide_any (X := fun W => Hid (RC w g2 gm H M h l2 W ∧ Blk W y 3 (il z) ∧ y ≠ g2)) HKN ?_
              clear HKN
              clear wz
              intro wr HK
              try simp only [Act.put, List.getElem_toArray, List.getElem_cons_succ, List.getElem_cons_zero, List.setIfInBounds_toArray, List.set_cons_zero, List.set_cons_succ]
              refine wpAny_done (by kernel_rfl) ?_ _
              go_wp2_with fail
              obtain ⟨m2, hm2', em2⟩ := HOK.out.2 4 (by decide)
              obtain ⟨n2, hn2', en2⟩ := HOK.out.2 5 (by decide)
              have hm2 : ((m2 : Nat) : Int) < 16 := by omega
              have hn2 : ((n2 : Nat) : Int) < 16 := by omega
              obtain ⟨x2, hx2⟩ : ∃ v, M.getD m2 0 = v := ⟨_, rfl⟩
              obtain ⟨y2, hy2⟩ : ∃ v, M.getD n2 0 = v := ⟨_, rfl⟩
              have hS : wr.drew.cell? ⟨y, 4, none⟩ = some (.int .i64 (m2 : Nat)) ∧ wr.drew.cell? ⟨gm, m2, none⟩ = some (.int .u32 x2) ∧ wr.drew.cell? ⟨y, 5, none⟩ = some (.int .i64 (n2 : Nat)) ∧ wr.drew.cell? ⟨gm, n2, none⟩ = some (.int .u32 y2) := by
                obtain ⟨⟨h1, h2, -⟩, h3, -⟩ := HK.out
                refine ⟨?_, ?_, ?_, ?_⟩
                · exact (h3.cell 4).trans (by rw [il_at z 4 (by rw [HOK.out.1]; decide), em2])
                · exact (h2.1 m2 (by rw [HML.out]; exact hm2')).trans (by rw [hx2])
                · exact (h3.cell 5).trans (by rw [il_at z 5 (by rw [HOK.out.1]; decide), en2])
                · exact (h2.1 n2 (by rw [HML.out]; exact hn2')).trans (by rw [hy2])
              have HE2 : Hid (rg l2 2 6 10 14 x2 y2 = gg l2 2 6 10 14 (ix M z 4) (ix M z 5)) := Lib.hid (by
                rw [rg_eq l2 2 6 10 14 x2 y2 HL2.out (by decide) (by decide) (by decide) (by decide) (by decide) (by decide) (by decide) (by decide) (by decide) (by decide)]
                unfold ix
                rw [em2, en2, Int.toNat_natCast, Int.toNat_natCast, hx2, hy2])
              clear hx2 hy2 em2 en2 hm2' hn2'
              refine wp_region_T 13 (fun W => W.cell? ⟨y, 4, none⟩ = some (.int .i64 (m2 : Nat)) ∧ W.cell? ⟨gm, m2, none⟩ = some (.int .u32 x2) ∧ W.cell? ⟨y, 5, none⟩ = some (.int .i64 (n2 : Nat)) ∧ W.cell? ⟨gm, n2, none⟩ = some (.int .u32 y2)) (by kernel_rfl) ?_
              refine wpAnyT_take (i := 0) (v := ?_) rfl (by kernel_rfl) (fun _ _ _ h => h) (Or.inl ⟨by rfl, ?_⟩) hS ?_
              rotate_left
              · intro w2 hw2
                try dsimp only at hw2
                go_simp
                first | done | with_reducible rfl
              try simp only [Act.put, List.getElem_toArray, List.getElem_cons_zero, List.setIfInBounds_toArray, List.set_cons_zero, List.set_cons_succ]
              refine wpAnyT_take (i := 1) (v := ?_) rfl (by kernel_rfl) (fun _ _ _ h => h) (Or.inl ⟨by rfl, ?_⟩) hS ?_
              rotate_left
              · intro w2 hw2
                try dsimp only at hw2
                go_simp
                first | done | with_reducible rfl
              try simp only [Act.put, List.getElem_toArray, List.getElem_cons_succ, List.getElem_cons_zero, List.setIfInBounds_toArray, List.set_cons_zero, List.set_cons_succ]
              refine wpAnyT_take (i := 2) (v := ?_) rfl (by kernel_rfl) (fun _ _ _ h => h) (Or.inl ⟨by rfl, ?_⟩) hS ?_
              rotate_left
              · intro w2 hw2
                try dsimp only at hw2
                go_simp
                first | done | with_reducible rfl
              try simp only [Act.put, List.getElem_toArray, List.getElem_cons_succ, List.getElem_cons_zero, List.setIfInBounds_toArray, List.set_cons_zero, List.set_cons_succ]
              refine wpAnyT_take (i := 3) (v := ?_) rfl (by kernel_rfl) (fun _ _ _ h => h) (Or.inl ⟨by rfl, ?_⟩) hS ?_
              rotate_left
              · intro w2 hw2
                try dsimp only at hw2
                go_simp
                first | done | with_reducible rfl
              try simp only [Act.put, List.getElem_toArray, List.getElem_cons_succ, List.getElem_cons_zero, List.setIfInBounds_toArray, List.set_cons_zero, List.set_cons_succ]
              refine wpAnyT_take (i := 4) (v := ?_) rfl (by kernel_rfl) (fun _ _ _ h => h) (Or.inl ⟨by rfl, ?_⟩) hS ?_
              rotate_left
              · intro w2 hw2
                try dsimp only at hw2
                go_simp
                first | done | with_reducible rfl
              try simp only [Act.put, List.getElem_toArray, List.getElem_cons_succ, List.getElem_cons_zero, List.setIfInBounds_toArray, List.set_cons_zero, List.set_cons_succ]
              refine wpAnyT_take (i := 5) (v := ?_) rfl (by kernel_rfl) (fun _ _ _ h => h) (Or.inl ⟨by rfl, ?_⟩) hS ?_
              rotate_left
              · intro w2 hw2
                try dsimp only at hw2
                go_simp
                first | done | with_reducible rfl
              try simp only [Act.put, List.getElem_toArray, List.getElem_cons_succ, List.getElem_cons_zero, List.setIfInBounds_toArray, List.set_cons_zero, List.set_cons_succ]
              refine wpAnyT_take (i := 6) (v := ?_) rfl (by kernel_rfl) (fun _ _ _ h => h) (Or.inl ⟨by rfl, ?_⟩) hS ?_
              rotate_left
              · intro w2 hw2
                try dsimp only at hw2
                go_simp
                first | done | with_reducible rfl
              try simp only [Act.put, List.getElem_toArray, List.getElem_cons_succ, List.getElem_cons_zero, List.setIfInBounds_toArray, List.set_cons_zero, List.set_cons_succ]
              refine wpAnyT_take (i := 7) (v := ?_) rfl (by kernel_rfl) (fun _ _ _ h => h) (Or.inl ⟨by rfl, ?_⟩) hS ?_
              rotate_left
              · intro w2 hw2
                try dsimp only at hw2
                go_simp
                first | done | with_reducible rfl
              try simp only [Act.put, List.getElem_toArray, List.getElem_cons_succ, List.getElem_cons_zero, List.setIfInBounds_toArray, List.set_cons_zero, List.set_cons_succ]
              refine wpAnyT_take (i := 8) (v := ?_) rfl (by kernel_rfl) (fun _ _ _ h => h) (Or.inl ⟨by rfl, ?_⟩) hS ?_
              rotate_left
              · intro w2 hw2
                try dsimp only at hw2
                go_simp
                first | done | with_reducible rfl
              try simp only [Act.put, List.getElem_toArray, List.getElem_cons_succ, List.getElem_cons_zero, List.setIfInBounds_toArray, List.set_cons_zero, List.set_cons_succ]
              refine wpAnyT_take (i := 9) (v := ?_) rfl (by kernel_rfl) (fun _ _ _ h => h) (Or.inl ⟨by rfl, ?_⟩) hS ?_
              rotate_left
              · intro w2 hw2
                try dsimp only at hw2
                go_simp
                first | done | with_reducible rfl
              try simp only [Act.put, List.getElem_toArray, List.getElem_cons_succ, List.getElem_cons_zero, List.setIfInBounds_toArray, List.set_cons_zero, List.set_cons_succ]
              refine wpAnyT_take (i := 10) (v := ?_) rfl (by kernel_rfl) (fun _ _ _ h => h) (Or.inl ⟨by rfl, ?_⟩) hS ?_
              rotate_left
              · intro w2 hw2
                try dsimp only at hw2
                go_simp
                first | done | with_reducible rfl
              try simp only [Act.put, List.getElem_toArray, List.getElem_cons_succ, List.getElem_cons_zero, List.setIfInBounds_toArray, List.set_cons_zero, List.set_cons_succ]
              refine wpAnyT_take (i := 11) (v := ?_) rfl (by kernel_rfl) (fun _ _ _ h => h) (Or.inl ⟨by rfl, ?_⟩) hS ?_
              rotate_left
              · intro w2 hw2
                try dsimp only at hw2
                go_simp
                first | done | with_reducible rfl
              try simp only [Act.put, List.getElem_toArray, List.getElem_cons_succ, List.getElem_cons_zero, List.setIfInBounds_toArray, List.set_cons_zero, List.set_cons_succ]
              refine wpAnyT_take (i := 12) (v := ?_) rfl (by kernel_rfl) (fun _ _ _ h => h) (Or.inl ⟨by rfl, ?_⟩) hS ?_
              rotate_left
              · intro w2 hw2
                try dsimp only at hw2
                go_simp
                first | done | with_reducible rfl
              try simp only [Act.put, List.getElem_toArray, List.getElem_cons_succ, List.getElem_cons_zero, List.setIfInBounds_toArray, List.set_cons_zero, List.set_cons_succ]
              clear hS
              refine wpAnyT_gate rfl (by kernel_rfl) (fun K hK => ?_)
              go_simp
              refine (refg_any g2 cap2 l2 HL2.out 2 6 10 14 (by decide) (by decide) (by decide) (by decide) x2 y2 wr.drew HK.out.1.1).mono ?_
              rintro e wz ⟨rfl, hwf, hgr⟩
              have HKN : Hid (RC w g2 gm H M h (rg l2 2 6 10 14 x2 y2) wz ∧ Blk wz y 3 (il z) ∧ y ≠ g2) := Lib.hid (rc_call HK.out.1 HK.out.2.1 HK.out.2.2 hwf hgr)
              refine hK.out _ _ ?_
              clear hK K HK hwf hgr wr
              have HL3 : Hid ((rg l2 2 6 10 14 x2 y2).length = 16) := Lib.hid (by rw [HE2.out, gg_length]; exact HL2.out)
              obtain ⟨l3, hl3⟩ : ∃ v, rg l2 2 6 10 14 x2 y2 = v := ⟨_, rfl⟩
              rw [hl3] at HE2 HL3 HKN
              clear hl3
              refine hide_any (X := fun W => Hid (RC w g2 gm H M h l3 W ∧ Blk W y 3 (il z) ∧ y ≠ g2)) HKN ?_
              clear HKN
              clear wz
              intro wr HK
              try simp only [Act.put, List.getElem_toArray, List.getElem_cons_succ, List.getElem_cons_zero, List.setIfInBounds_toArray, List.set_cons_zero, List.set_cons_succ]
              refine wpAny_done (by kernel_rfl) ?_ _
              go_wp2_with fail
              obtain ⟨m3, hm3', em3⟩ := HOK.out.2 6 (by decide)
              obtain ⟨n3, hn3', en3⟩ := HOK.out.2 7 (by decide)
              have hm3 : ((m3 : Nat) : Int) < 16 := by omega
              have hn3 : ((n3 : Nat) : Int) < 16 := by omega
              obtain ⟨x3, hx3⟩ : ∃ v, M.getD m3 0 = v := ⟨_, rfl⟩
              obtain ⟨y3, hy3⟩ : ∃ v, M.getD n3 0 = v := ⟨_, rfl⟩
              have hS : wr.drew.cell? ⟨y, 6, none⟩ = some (.int .i64 (m3 : Nat)) ∧ wr.drew.cell? ⟨gm, m3, none⟩ = some (.int .u32 x3) ∧ wr.drew.cell? ⟨y, 7, none⟩ = some (.int .i64 (n3 : Nat)) ∧ wr.drew.cell? ⟨gm, n3, none⟩ = some (.int .u32 y3) := by
                obtain ⟨⟨h1, h2, -⟩, h3, -⟩ := HK.out
                refine ⟨?_, ?_, ?_, ?_⟩
                · exact (h3.cell 6).trans (by rw [il_at z 6 (by rw [HOK.out.1]; decide), em3])
                · exact (h2.1 m3 (by rw [HML.out]; exact hm3')).trans (by rw [hx3])
                · exact (h3.cell 7).trans (by rw [il_at z 7 (by rw [HOK.out.1]; decide), en3])
                · exact (h2.1 n3 (by rw [HML.out]; exact hn3')).trans (by rw [hy3])
              have HE3 : Hid (rg l3 3 7 11 15 x3 y3 = gg l3 3 7 11 15 (ix M z 6) (ix M z 7)) := Lib.hid (by
                rw [rg_eq l3 3 7 11 15 x3 y3 HL3.out (by decide) (by decide) (by decide) (by decide) (by decide) (by decide) (by decide) (by decide) (by decide) (by decide)]
                unfold ix
                rw [em3, en3, Int.toNat_natCast, Int.toNat_natCast, hx3, hy3])
              clear hx3 hy3 em3 en3 hm3' hn3'
              refine wp_region_T 13 (fun W => W.cell? ⟨y, 6, none⟩ = some (.int .i64 (m3 : Nat)) ∧ W.cell? ⟨gm, m3, none⟩ = some (.int .u32 x3) ∧ W.cell? ⟨y, 7, none⟩ = some (.int .i64 (n3 : Nat)) ∧ W.cell? ⟨gm, n3, none⟩ = some (.int .u32 y3)) (by kernel_rfl) ?_
              refine wpAnyT_take (i := 0) (v := ?_) rfl (by kernel_rfl) (fun _ _ _ h => h) (Or.inl ⟨by rfl, ?_⟩) hS ?_
              rotate_left
              · intro w2 hw2
                try dsimp only at hw2
                go_simp
                first | done | with_reducible rfl
              try simp only [Act.put, List.getElem_toArray, List.getElem_cons_zero, List.setIfInBounds_toArray, List.set_cons_zero, List.set_cons_succ]
              refine wpAnyT_take (i := 1) (v := ?_) rfl (by kernel_rfl) (fun _ _ _ h => h) (Or.inl ⟨by rfl, ?_⟩) hS ?_
              rotate_left
              · intro w2 hw2
                try dsimp only at hw2
                go_simp
                first | done | with_reducible rfl
              try simp only [Act.put, List.getElem_toArray, List.getElem_cons_succ, List.getElem_cons_zero, List.setIfInBounds_toArray, List.set_cons_zero, List.set_cons_succ]
              refine wpAnyT_take (i := 2) (v := ?_) rfl (by kernel_rfl) (fun _ _ _ h => h) (Or.inl ⟨by rfl, ?_⟩) hS ?_
              rotate_left
              · intro w2 hw2
                try dsimp only at hw2
                go_simp
                first | done | with_reducible rfl
              try simp only [Act.put, List.getElem_toArray, List.getElem_cons_succ, List.getElem_cons_zero, List.setIfInBounds_toArray, List.set_cons_zero, List.set_cons_succ]
              refine wpAnyT_take (i := 3) (v := ?_) rfl (by kernel_rfl) (fun _ _ _ h => h) (Or.inl ⟨by rfl, ?_⟩) hS ?_
              rotate_left
              · intro w2 hw2
                try dsimp only at hw2
                go_simp
                first | done | with_reducible rfl
              try simp only [Act.put, List.getElem_toArray, List.getElem_cons_succ, List.getElem_cons_zero, List.setIfInBounds_toArray, List.set_cons_zero, List.set_cons_succ]
              refine wpAnyT_take (i := 4) (v := ?_) rfl (by kernel_rfl) (fun _ _ _ h => h) (Or.inl ⟨by rfl, ?_⟩) hS ?_
              rotate_left
              · intro w2 hw2
                try dsimp only at hw2
                go_simp
                first | done | with_reducible rfl
              try simp only [Act.put, List.getElem_toArray, List.getElem_cons_succ, List.getElem_cons_zero, List.setIfInBounds_toArray, List.set_cons_zero, List.set_cons_succ]
              refine wpAnyT_take (i := 5) (v := ?_) rfl (by kernel_rfl) (fun _ _ _ h => h) (Or.inl ⟨by rfl, ?_⟩) hS ?_
              rotate_left
              · intro w2 hw2
                try dsimp only at hw2
                go_simp
                first | done | with_reducible rfl
              try simp only [Act.put, List.getElem_toArray, List.getElem_cons_succ, List.getElem_cons_zero, List.setIfInBounds_toArray, List.set_cons_zero, List.set_cons_succ]
              refine wpAnyT_take (i := 6) (v := ?_) rfl (by kernel_rfl) (fun _ _ _ h => h) (Or.inl ⟨by rfl, ?_⟩) hS ?_
              rotate_left
              · intro w2 hw2
                try dsimp only at hw2
                go_simp
                first | done | with_reducible rfl
              try simp only [Act.put, List.getElem_toArray, List.getElem_cons_succ, List.getElem_cons_zero, List.setIfInBounds_toArray, List.set_cons_zero, List.set_cons_succ]
              refine wpAnyT_take (i := 7) (v := ?_) rfl (by kernel_rfl) (fun _ _ _ h => h) (Or.inl ⟨by rfl, ?_⟩) hS ?_
              rotate_left
              · intro w2 hw2
                try dsimp only at hw2
                go_simp
                first | done | with_reducible rfl
              try simp only [Act.put, List.getElem_toArray, List.getElem_cons_succ, List.getElem_cons_zero, List.setIfInBounds_toArray, List.set_cons_zero, List.set_cons_succ]
              refine wpAnyT_take (i := 8) (v := ?_) rfl (by kernel_rfl) (fun _ _ _ h => h) (Or.inl ⟨by rfl, ?_⟩) hS ?_
              rotate_left
              · intro w2 hw2
                try dsimp only at hw2
                go_simp
                first | done | with_reducible rfl
              try simp only [Act.put, List.getElem_toArray, List.getElem_cons_succ, List.getElem_cons_zero, List.setIfInBounds_toArray, List.set_cons_zero, List.set_cons_succ]
              refine wpAnyT_take (i := 9) (v := ?_) rfl (by kernel_rfl) (fun _ _ _ h => h) (Or.inl ⟨by rfl, ?_⟩) hS ?_
              rotate_left
              · intro w2 hw2
                try dsimp only at hw2
                go_simp
                first | done | with_reducible rfl
              try simp only [Act.put, List.getElem_toArray, List.getElem_cons_succ, List.getElem_cons_zero, List.setIfInBounds_toArray, List.set_cons_zero, List.set_cons_succ]
              refine wpAnyT_take (i := 10) (v := ?_) rfl (by kernel_rfl) (fun _ _ _ h => h) (Or.inl ⟨by rfl, ?_⟩) hS ?_
              rotate_left
              · intro w2 hw2
                try dsimp only at hw2
                go_simp
                first | done | with_reducible rfl
              try simp only [Act.put, List.getElem_toArray, List.getElem_cons_succ, List.getElem_cons_zero, List.setIfInBounds_toArray, List.set_cons_zero, List.set_cons_succ]
              refine wpAnyT_take (i := 11) (v := ?_) rfl (by kernel_rfl) (fun _ _ _ h => h) (Or.inl ⟨by rfl, ?_⟩) hS ?_
              rotate_left
              · intro w2 hw2
                try dsimp only at hw2
                go_simp
                first | done | with_reducible rfl
              try simp only [Act.put, List.getElem_toArray, List.getElem_cons_succ, List.getElem_cons_zero, List.setIfInBounds_toArray, List.set_cons_zero, List.set_cons_succ]
              refine wpAnyT_take (i := 12) (v := ?_) rfl (by kernel_rfl) (fun _ _ _ h => h) (Or.inl ⟨by rfl, ?_⟩) hS ?_
              rotate_left
              · intro w2 hw2
                try dsimp only at hw2
                go_simp
                first | done | with_reducible rfl
              try simp only [Act.put, List.getElem_toArray, List.getElem_cons_succ, List.getElem_cons_zero, List.setIfInBounds_toArray, List.set_cons_zero, List.set_cons_succ]
              clear hS
              refine wpAnyT_gate rfl (by kernel_rfl) (fun K hK => ?_)
              go_simp
              refine (refg_any g2 cap2 l3 HL3.out 3 7 11 15 (by decide) (by decide) (by decide) (by decide) x3 y3 wr.drew HK.out.1.1).mono ?_
              rintro e wz ⟨rfl, hwf, hgr⟩
              have HKN : Hid (RC w g2 gm H M h (rg l3 3 7 11 15 x3 y3) wz ∧ Blk wz y 3 (il z) ∧ y ≠ g2) := Lib.hid (rc_call HK.out.1 HK.out.2.1 HK.out.2.2 hwf hgr)
              refine hK.out _ _ ?_
              clear hK K HK hwf hgr wr
              have HL4 : Hid ((rg l3 3 7 11 15 x3 y3).length = 16) := Lib.hid (by rw [HE3.out, gg_length]; exact HL3.out)
              obtain ⟨l4, hl4⟩ : ∃ v, rg l3 3 7 11 15 x3 y3 = v := ⟨_, rfl⟩
              rw [hl4] at HE3 HL4 HKN
              clear hl4
              refine hide_any (X := fun W => Hid (RC w g2 gm H M h l4 W ∧ Blk W y 3 (il z) ∧ y ≠ g2)) HKN ?_
              clear HKN
              clear wz
              intro wr HK
              try simp only [Act.put, List.getElem_toArray, List.getElem_cons_succ, List.getElem_cons_zero, List.setIfInBounds_toArray, List.set_cons_zero, List.set_cons_succ]
              refine wpAny_done (by kernel_rfl) ?_ _
              go_wp2_with fail
              obtain ⟨m4, hm4', em4⟩ := HOK.out.2 8 (by decide)
              obtain ⟨n4, hn4', en4⟩ := HOK.out.2 9 (by decide)
              have hm4 : ((m4 : Nat) : Int) < 16 := by omega
              have hn4 : ((n4 : Nat) : Int) < 16 := by omega
              obtain ⟨x4, hx4⟩ : ∃ v, M.getD m4 0 = v := ⟨_, rfl⟩
              obtain ⟨y4, hy4⟩ : ∃ v, M.getD n4 0 = v := ⟨_, rfl⟩
              have hS : wr.drew.cell? ⟨y, 8, none⟩ = some (.int .i64 (m4 : Nat)) ∧ wr.drew.cell? ⟨gm, m4, none⟩ = some (.int .u32 x4) ∧ wr.drew.cell? ⟨y, 9, none⟩ = some (.int .i64 (n4 : Nat)) ∧ wr.drew.cell? ⟨gm, n4, none⟩ = some (.int .u32 y4) := by
                obtain ⟨⟨h1, h2, -⟩, h3, -⟩ := HK.out
                refine ⟨?_, ?_, ?_, ?_⟩
                · exact (h3.cell 8).trans (by rw [il_at z 8 (by rw [HOK.out.1]; decide), em4])
                · exact (h2.1 m4 (by rw [HML.out]; exact hm4')).trans (by rw [hx4])
                · exact (h3.cell 9).trans (by rw [il_at z 9 (by rw [HOK.out.1]; decide), en4])
                · exact (h2.1 n4 (by rw [HML.out]; exact hn4')).trans (by rw [hy4])
              have HE4 : Hid (rg l4 0 5 10 15 x4 y4 = gg l4 0 5 10 15 (ix M z 8) (ix M z 9)) := Lib.hid (by
                rw [rg_eq l4 0 5 10 15 x4 y4 HL4.out (by decide) (by decide) (by decide) (by decide) (by decide) (by decide) (by decide) (by decide) (by decide) (by decide)]
                unfold ix
                rw [em4, en4, Int.toNat_natCast, Int.toNat_natCast, hx4, hy4])
              clear hx4 hy4 em4 en4 hm4' hn4'
              refine wp_region_T 13 (fun W => W.cell? ⟨y, 8, none⟩ = some (.int .i64 (m4 : Nat)) ∧ W.cell? ⟨gm, m4, none⟩ = some (.int .u32 x4) ∧ W.cell? ⟨y, 9, none⟩ = some (.int .i64 (n4 : Nat)) ∧ W.cell? ⟨gm, n4, none⟩ = some (.int .u32 y4)) (by kernel_rfl) ?_
              refine wpAnyT_take (i := 0) (v := ?_) rfl (by kernel_rfl) (fun _ _ _ h => h) (Or.inl ⟨by rfl, ?_⟩) hS ?_
              rotate_left
              · intro w2 hw2
                try dsimp only at hw2
                go_simp
                first | done | with_reducible rfl
              try simp only [Act.put, List.getElem_toArray, List.getElem_cons_zero, List.setIfInBounds_toArray, List.set_cons_zero, List.set_cons_succ]
              refine wpAnyT_take (i := 1) (v := ?_) rfl (by kernel_rfl) (fun _ _ _ h => h) (Or.inl ⟨by rfl, ?_⟩) hS ?_
              rotate_left
              · intro w2 hw2
                try dsimp only at hw2
                go_simp
                first | done | with_reducible rfl
              try simp only [Act.put, List.getElem_toArray, List.getElem_cons_succ, List.getElem_cons_zero, List.setIfInBounds_toArray, List.set_cons_zero, List.set_cons_succ]
              refine wpAnyT_take (i := 2) (v := ?_) rfl (by kernel_rfl) (fun _ _ _ h => h) (Or.inl ⟨by rfl, ?_⟩) hS ?_
              rotate_left
              · intro w2 hw2
                try dsimp only at hw2
                go_simp
                first | done | with_reducible rfl
              try simp only [Act.put, List.getElem_toArray, List.getElem_cons_succ, List.getElem_cons_zero, List.setIfInBounds_toArray, List.set_cons_zero, List.set_cons_succ]
              refine wpAnyT_take (i := 3) (v := ?_) rfl (by kernel_rfl) (fun _ _ _ h => h) (Or.inl ⟨by rfl, ?_⟩) hS ?_
              rotate_left
              · intro w2 hw2
                try dsimp only at hw2
                go_simp
                first | done | with_reducible rfl
              try simp only [Act.put, List.getElem_toArray, List.getElem_cons_succ, List.getElem_cons_zero, List.setIfInBounds_toArray, List.set_cons_zero, List.set_cons_succ]
              refine wpAnyT_take (i := 4) (v := ?_) rfl (by kernel_rfl) (fun _ _ _ h => h) (Or.inl ⟨by rfl, ?_⟩) hS ?_
              rotate_left
              · intro w2 hw2
                try dsimp only at hw2
                go_simp
                first | done | with_reducible rfl
              try simp only [Act.put, List.getElem_toArray, List.getElem_cons_succ, List.getElem_cons_zero, List.setIfInBounds_toArray, List.set_cons_zero, List.set_cons_succ]
              refine wpAnyT_take (i := 5) (v := ?_) rfl (by kernel_rfl) (fun _ _ _ h => h) (Or.inl ⟨by rfl, ?_⟩) hS ?_
              rotate_left
              · intro w2 hw2
                try dsimp only at hw2
                go_simp
                first | done | with_reducible rfl
              try simp only [Act.put, List.getElem_toArray, List.getElem_cons_succ, List.getElem_cons_zero, List.setIfInBounds_toArray, List.set_cons_zero, List.set_cons_succ]
              refine wpAnyT_take (i := 6) (v := ?_) rfl (by kernel_rfl) (fun _ _ _ h => h) (Or.inl ⟨by rfl, ?_⟩) hS ?_
              rotate_left
              · intro w2 hw2
                try dsimp only at hw2
                go_simp
                first | done | with_reducible rfl
              try simp only [Act.put, List.getElem_toArray, List.getElem_cons_succ, List.getElem_cons_zero, List.setIfInBounds_toArray, List.set_cons_zero, List.set_cons_succ]
              refine wpAnyT_take (i := 7) (v := ?_) rfl (by kernel_rfl) (fun _ _ _ h => h) (Or.inl ⟨by rfl, ?_⟩) hS ?_
              rotate_left
              · intro w2 hw2
                try dsimp only at hw2
                go_simp
                first | done | with_reducible rfl
              try simp only [Act.put, List.getElem_toArray, List.getElem_cons_succ, List.getElem_cons_zero, List.setIfInBounds_toArray, List.set_cons_zero, List.set_cons_succ]
              refine wpAnyT_take (i := 8) (v := ?_) rfl (by kernel_rfl) (fun _ _ _ h => h) (Or.inl ⟨by rfl, ?_⟩) hS ?_
              rotate_left
              · intro w2 hw2
                try dsimp only at hw2
                go_simp
                first | done | with_reducible rfl
              try simp only [Act.put, List.getElem_toArray, List.getElem_cons_succ, List.getElem_cons_zero, List.setIfInBounds_toArray, List.set_cons_zero, List.set_cons_succ]
              refine wpAnyT_take (i := 9) (v := ?_) rfl (by kernel_rfl) (fun _ _ _ h => h) (Or.inl ⟨by rfl, ?_⟩) hS ?_
              rotate_left
              · intro w2 hw2
                try dsimp only at hw2
                go_simp
                first | done | with_reducible rfl
              try simp only [Act.put, List.getElem_toArray, List.getElem_cons_succ, List.getElem_cons_zero, List.setIfInBounds_toArray, List.set_cons_zero, List.set_cons_succ]
              refine wpAnyT_take (i := 10) (v := ?_) rfl (by kernel_rfl) (fun _ _ _ h => h) (Or.inl ⟨by rfl, ?_⟩) hS ?_
              rotate_left
              · intro w2 hw2
                try dsimp only at hw2
                go_simp
                first | done | with_reducible rfl
              try simp only [Act.put, List.getElem_toArray, List.getElem_cons_succ, List.getElem_cons_zero, List.setIfInBounds_toArray, List.set_cons_zero, List.set_cons_succ]
              refine wpAnyT_take (i := 11) (v := ?_) rfl (by kernel_rfl) (fun _ _ _ h => h) (Or.inl ⟨by rfl, ?_⟩) hS ?_
              rotate_left
              · intro w2 hw2
                try dsimp only at hw2
                go_simp
                first | done | with_reducible rfl
              try simp only [Act.put, List.getElem_toArray, List.getElem_cons_succ, List.getElem_cons_zero, List.setIfInBounds_toArray, List.set_cons_zero, List.set_cons_succ]
              refine wpAnyT_take (i := 12) (v := ?_) rfl (by kernel_rfl) (fun _ _ _ h => h) (Or.inl ⟨by rfl, ?_⟩) hS ?_
              rotate_left
              · intro w2 hw2
                try dsimp only at hw2
                go_simp
                first | done | with_reducible rfl
              try simp only [Act.put, List.getElem_toArray, List.getElem_cons_succ, List.getElem_cons_zero, List.setIfInBounds_toArray, List.set_cons_zero, List.set_cons_succ]
              clear hS
              refine wpAnyT_gate rfl (by kernel_rfl) (fun K hK => ?_)
              go_simp
              refine (refg_any g2 cap2 l4 HL4.out 0 5 10 15 (by decide) (by decide) (by decide) (by decide) x4 y4 wr.drew HK.out.1.1).mono ?_
              rintro e wz ⟨rfl, hwf, hgr⟩
              have HKN : Hid (RC w g2 gm H M h (rg l4 0 5 10 15 x4 y4) wz ∧ Blk wz y 3 (il z) ∧ y ≠ g2) := Lib.hid (rc_call HK.out.1 HK.out.2.1 HK.out.2.2 hwf hgr)
              refine hK.out _ _ ?_
              clear hK K HK hwf hgr wr
              have HL5 : Hid ((rg l4 0 5 10 15 x4 y4).length = 16) := Lib.hid (by rw [HE4.out, gg_length]; exact HL4.out)
              obtain ⟨l5, hl5⟩ : ∃ v, rg l4 0 5 10 15 x4 y4 = v := ⟨_, rfl⟩
              rw [hl5] at HE4 HL5 HKN
              clear hl5
              refine hide_any (X := fun W => Hid (RC w g2 gm H M h l5 W ∧ Blk W y 3 (il z) ∧ y ≠ g2)) HKN ?_
              clear HKN
              clear wz
              intro wr HK
              try simp only [Act.put, List.getElem_toArray, List.getElem_cons_succ, List.getElem_cons_zero, List.setIfInBounds_toArray, List.set_cons_zero, List.set_cons_succ]
              refine wpAny_done (by kernel_rfl) ?_ _
              go_wp2_with fail
              obtain ⟨m5, hm5', em5⟩ := HOK.out.2 10 (by decide)
              obtain ⟨n5, hn5', en5⟩ := HOK.out.2 11 (by decide)
              have hm5 : ((m5 : Nat) : Int) < 16 := by omega
              have hn5 : ((n5 : Nat) : Int) < 16 := by omega
              obtain ⟨x5, hx5⟩ : ∃ v, M.getD m5 0 = v := ⟨_, rfl⟩
              obtain ⟨y5, hy5⟩ : ∃ v, M.getD n5 0 = v := ⟨_, rfl⟩
              have hS : wr.drew.cell? ⟨y, 10, none⟩ = some (.int .i64 (m5 : Nat)) ∧ wr.drew.cell? ⟨gm, m5, none⟩ = some (.int .u32 x5) ∧ wr.drew.cell? ⟨y, 11, none⟩ = some (.int .i64 (n5 : Nat)) ∧ wr.drew.cell? ⟨gm, n5, none⟩ = some (.int .u32 y5) := by
                obtain ⟨⟨h1, h2, -⟩, h3, -⟩ := HK.out
                refine ⟨?_, ?_, ?_, ?_⟩
                · exact (h3.cell 10).trans (by rw [il_at z 10 (by rw [HOK.out.1]; decide), em5])
                · exact (h2.1 m5 (by rw [HML.out]; exact hm5')).trans (by rw [hx5])
                · exact (h3.cell 11).trans (by rw [il_at z 11 (by rw [HOK.out.1]; decide), en5])
                · exact (h2.1 n5 (by rw [HML.out]; exact hn5')).trans (by rw [hy5])
              have HE5 : Hid (rg l5 1 6 11 12 x5 y5 = gg l5 1 6 11 12 (ix M z 10) (ix M z 11)) := Lib.hid (by
                rw [rg_eq l5 1 6 11 12 x5 y5 HL5.out (by decide) (by decide) (by decide) (by decide) (by decide) (by decide) (by decide) (by decide) (by decide) (by decide)]
                unfold ix
                rw [em5, en5, Int.toNat_natCast, Int.toNat_natCast, hx5, hy5])
              clear hx5 hy5 em5 en5 hm5' hn5'
              refine wp_region_T 13 (fun W => W.cell? ⟨y, 10, none⟩ = some (.int .i64 (m5 : Nat)) ∧ W.cell? ⟨gm, m5, none⟩ = some (.int .u32 x5) ∧ W.cell? ⟨y, 11, none⟩ = some (.int .i64 (n5 : Nat)) ∧ W.cell? ⟨gm, n5, none⟩ = some (.int .u32 y5)) (by kernel_rfl) ?_
              refine wpAnyT_take (i := 0) (v := ?_) rfl (by kernel_rfl) (fun _ _ _ h => h) (Or.inl ⟨by rfl, ?_⟩) hS ?_
              rotate_left
              · intro w2 hw2
                try dsimp only at hw2
                go_simp
                first | done | with_reducible rfl
              try simp only [Act.put, List.getElem_toArray, List.getElem_cons_zero, List.setIfInBounds_toArray, List.set_cons_zero, List.set_cons_succ]
              refine wpAnyT_take (i := 1) (v := ?_) rfl (by kernel_rfl) (fun _ _ _ h => h) (Or.inl ⟨by rfl, ?_⟩) hS ?_
              rotate_left
              · intro w2 hw2
                try dsimp only at hw2
                go_simp
                first | done | with_reducible rfl
              try simp only [Act.put, List.getElem_toArray, List.getElem_cons_succ, List.getElem_cons_zero, List.setIfInBounds_toArray, List.set_cons_zero, List.set_cons_succ]
              refine wpAnyT_take (i := 2) (v := ?_) rfl (by kernel_rfl) (fun _ _ _ h => h) (Or.inl ⟨by rfl, ?_⟩) hS ?_
              rotate_left
              · intro w2 hw2
                try dsimp only at hw2
                go_simp
                first | done | with_reducible rfl
              try simp only [Act.put, List.getElem_toArray, List.getElem_cons_succ, List.getElem_cons_zero, List.setIfInBounds_toArray, List.set_cons_zero, List.set_cons_succ]
              refine wpAnyT_take (i := 3) (v := ?_) rfl (by kernel_rfl) (fun _ _ _ h => h) (Or.inl ⟨by rfl, ?_⟩) hS ?_
              rotate_left
              · intro w2 hw2
                try dsimp only at hw2
                go_simp
                first | done | with_reducible rfl
              try simp only [Act.put, List.getElem_toArray, List.getElem_cons_succ, List.getElem_cons_zero, List.setIfInBounds_toArray, List.set_cons_zero, List.set_cons_succ]
              refine wpAnyT_take (i := 4) (v := ?_) rfl (by kernel_rfl) (fun _ _ _ h => h) (Or.inl ⟨by rfl, ?_⟩) hS ?_
              rotate_left
              · intro w2 hw2
                try dsimp only at hw2
                go_simp
                first | done | with_reducible rfl
              try simp only [Act.put, List.getElem_toArray, List.getElem_cons_succ, List.getElem_cons_zero, List.setIfInBounds_toArray, List.set_cons_zero, List.set_cons_succ]
              refine wpAnyT_take (i := 5) (v := ?_) rfl (by kernel_rfl) (fun _ _ _ h => h) (Or.inl ⟨by rfl, ?_⟩) hS ?_
              rotate_left
              · intro w2 hw2
                try dsimp only at hw2
                go_simp
                first | done | with_reducible rfl
              try simp only [Act.put, List.getElem_toArray, List.getElem_cons_succ, List.getElem_cons_zero, List.setIfInBounds_toArray, List.set_cons_zero, List.set_cons_succ]
              refine wpAnyT_take (i := 6) (v := ?_) rfl (by kernel_rfl) (fun _ _ _ h => h) (Or.inl ⟨by rfl, ?_⟩) hS ?_
              rotate_left
              · intro w2 hw2
                try dsimp only at hw2
                go_simp
                first | done | with_reducible rfl
              try simp only [Act.put, List.getElem_toArray, List.getElem_cons_succ, List.getElem_cons_zero, List.setIfInBounds_toArray, List.set_cons_zero, List.set_cons_succ]
              refine wpAnyT_take (i := 7) (v := ?_) rfl (by kernel_rfl) (fun _ _ _ h => h) (Or.inl ⟨by rfl, ?_⟩) hS ?_
              rotate_left
              · intro w2 hw2
                try dsimp only at hw2
                go_simp
                first | done | with_reducible rfl
              try simp only [Act.put, List.getElem_toArray, List.getElem_cons_succ, List.getElem_cons_zero, List.setIfInBounds_toArray, List.set_cons_zero, List.set_cons_succ]
              refine wpAnyT_take (i := 8) (v := ?_) rfl (by kernel_rfl) (fun _ _ _ h => h) (Or.inl ⟨by rfl, ?_⟩) hS ?_
              rotate_left
              · intro w2 hw2
                try dsimp only at hw2
                go_simp
                first | done | with_reducible rfl
              try simp only [Act.put, List.getElem_toArray, List.getElem_cons_succ, List.getElem_cons_zero, List.setIfInBounds_toArray, List.set_cons_zero, List.set_cons_succ]
              refine wpAnyT_take (i := 9) (v := ?_) rfl (by kernel_rfl) (fun _ _ _ h => h) (Or.inl ⟨by rfl, ?_⟩) hS ?_
              rotate_left
              · intro w2 hw2
                try dsimp only at hw2
                go_simp
                first | done | with_reducible rfl
              try simp only [Act.put, List.getElem_toArray, List.getElem_cons_succ, List.getElem_cons_zero, List.setIfInBounds_toArray, List.set_cons_zero, List.set_cons_succ]
              refine wpAnyT_take (i := 10) (v := ?_) rfl (by kernel_rfl) (fun _ _ _ h => h) (Or.inl ⟨by rfl, ?_⟩) hS ?_
              rotate_left
              · intro w2 hw2
                try dsimp only at hw2
                go_simp
                first | done | with_reducible rfl
              try simp only [Act.put, List.getElem_toArray, List.getElem_cons_succ, List.getElem_cons_zero, List.setIfInBounds_toArray, List.set_cons_zero, List.set_cons_succ]
              refine wpAnyT_take (i := 11) (v := ?_) rfl (by kernel_rfl) (fun _ _ _ h => h) (Or.inl ⟨by rfl, ?_⟩) hS ?_
              rotate_left
              · intro w2 hw2
                try dsimp only at hw2
                go_simp
                first | done | with_reducible rfl
              try simp only [Act.put, List.getElem_toArray, List.getElem_cons_succ, List.getElem_cons_zero, List.setIfInBounds_toArray, List.set_cons_zero, List.set_cons_succ]
              refine wpAnyT_take (i := 12) (v := ?_) rfl (by kernel_rfl) (fun _ _ _ h => h) (Or.inl ⟨by rfl, ?_⟩) hS ?_
              rotate_left
              · intro w2 hw2
                try dsimp only at hw2
                go_simp
                first | done | with_reducible rfl
              try simp only [Act.put, List.getElem_toArray, List.getElem_cons_succ, List.getElem_cons_zero, List.setIfInBounds_toArray, List.set_cons_zero, List.set_cons_succ]
              clear hS
              refine wpAnyT_gate rfl (by kernel_rfl) (fun K hK => ?_)
              go_simp
              refine (refg_any g2 cap2 l5 HL5.out 1 6 11 12 (by decide) (by decide) (by decide) (by decide) x5 y5 wr.drew HK.out.1.1).mono ?_
              rintro e wz ⟨rfl, hwf, hgr⟩
              have HKN : Hid (RC w g2 gm H M h (rg l5 1 6 11 12 x5 y5) wz ∧ Blk wz y 3 (il z) ∧ y ≠ g2) := Lib.hid (rc_call HK.out.1 HK.out.2.1 HK.out.2.2 hwf hgr)
              refine hK.out _ _ ?_
              clear hK K HK hwf hgr wr
              have HL6 : Hid ((rg l5 1 6 11 12 x5 y5).length = 16) := Lib.hid (by rw [HE5.out, gg_length]; exact HL5.out)
              obtain ⟨l6, hl6⟩ : ∃ v, rg l5 1 6 11 12 x5 y5 = v := ⟨_, rfl⟩
              rw [hl6] at HE5 HL6 HKN
              clear hl6
              refine hide_any (X := fun W => Hid (RC w g2 gm H M h l6 W ∧ Blk W y 3 (il z) ∧ y ≠ g2)) HKN ?_
              clear HKN
              clear wz
              intro wr HK
              try simp only [Act.put, List.getElem_toArray, List.getElem_cons_succ, List.getElem_cons_zero, List.setIfInBounds_toArray, List.set_cons_zero, List.set_cons_succ]
              refine wpAny_done (by kernel_rfl) ?_ _
              go_wp2_with fail
              obtain ⟨m6, hm6', em6⟩ := HOK.out.2 12 (by decide)
              obtain ⟨n6, hn6', en6⟩ := HOK.out.2 13 (by decide)
              have hm6 : ((m6 : Nat) : Int) < 16 := by omega
              have hn6 : ((n6 : Nat) : Int) < 16 := by omega
              obtain ⟨x6, hx6⟩ : ∃ v, M.getD m6 0 = v := ⟨_, rfl⟩
              obtain ⟨y6, hy6⟩ : ∃ v, M.getD n6 0 = v := ⟨_, rfl⟩
              have hS : wr.drew.cell? ⟨y, 12, none⟩ = some (.int .i64 (m6 : Nat)) ∧ wr.drew.cell? ⟨gm, m6, none⟩ = some (.int .u32 x6) ∧ wr.drew.cell? ⟨y, 13, none⟩ = some (.int .i64 (n6 : Nat)) ∧ wr.drew.cell? ⟨gm, n6, none⟩ = some (.int .u32 y6) := by
                obtain ⟨⟨h1, h2, -⟩, h3, -⟩ := HK.out
                refine ⟨?_, ?_, ?_, ?_⟩
                · exact (h3.cell 12).trans (by rw [il_at z 12 (by rw [HOK.out.1]; decide), em6])
                · exact (h2.1 m6 (by rw [HML.out]; exact hm6')).trans (by rw [hx6])
                · exact (h3.cell 13).trans (by rw [il_at z 13 (by rw [HOK.out.1]; decide), en6])
                · exact (h2.1 n6 (by rw [HML.out]; exact hn6')).trans (by rw [hy6])
              have HE6 : Hid (rg l6 2 7 8 13 x6 y6 = gg l6 2 7 8 13 (ix M z 12) (ix M z 13)) := Lib.hid (by
                rw [rg_eq l6 2 7 8 13 x6 y6 HL6.out (by decide) (by decide) (by decide) (by decide) (by decide) (by decide) (by decide) (by decide) (by decide) (by decide)]
                unfold ix
                rw [em6, en6, Int.toNat_natCast, Int.toNat_natCast, hx6, hy6])
              clear hx6 hy6 em6 en6 hm6' hn6'
              refine wp_region_T 13 (fun W => W.cell? ⟨y, 12, none⟩ = some (.int .i64 (m6 : Nat)) ∧ W.cell? ⟨gm, m6, none⟩ = some (.int .u32 x6) ∧ W.cell? ⟨y, 13, none⟩ = some (.int .i64 (n6 : Nat)) ∧ W.cell? ⟨gm, n6, none⟩ = some (.int .u32 y6)) (by kernel_rfl) ?_
              refine wpAnyT_take (i := 0) (v := ?_) rfl (by kernel_rfl) (fun _ _ _ h => h) (Or.inl ⟨by rfl, ?_⟩) hS ?_
              rotate_left
              · intro w2 hw2
                try dsimp only at hw2
                go_simp
                first | done | with_reducible rfl
              try simp only [Act.put, List.getElem_toArray, List.getElem_cons_zero, List.setIfInBounds_toArray, List.set_cons_zero, List.set_cons_succ]
              refine wpAnyT_take (i := 1) (v := ?_) rfl (by kernel_rfl) (fun _ _ _ h => h) (Or.inl ⟨by rfl, ?_⟩) hS ?_
              rotate_left
              · intro w2 hw2
                try dsimp only at hw2
                go_simp
                first | done | with_reducible rfl
              try simp only [Act.put, List.getElem_toArray, List.getElem_cons_succ, List.getElem_cons_zero, List.setIfInBounds_toArray, List.set_cons_zero, List.set_cons_succ]
              refine wpAnyT_take (i := 2) (v := ?_) rfl (by kernel_rfl) (fun _ _ _ h => h) (Or.inl ⟨by rfl, ?_⟩) hS ?_
              rotate_left
              · intro w2 hw2
                try dsimp only at hw2
                go_simp
                first | done | with_reducible rfl
              try simp only [Act.put, List.getElem_toArray, List.getElem_cons_succ, List.getElem_cons_zero, List.setIfInBounds_toArray, List.set_cons_zero, List.set_cons_succ]
              refine wpAnyT_take (i := 3) (v := ?_) rfl (by kernel_rfl) (fun _ _ _ h => h) (Or.inl ⟨by rfl, ?_⟩) hS ?_
              rotate_left
              · intro w2 hw2
                try dsimp only at hw2
                go_simp
                first | done | with_reducible rfl
              try simp only [Act.put, List.getElem_toArray, List.getElem_cons_succ, List.getElem_cons_zero, List.setIfInBounds_toArray, List.set_cons_zero, List.set_cons_succ]
              refine wpAnyT_take (i := 4) (v := ?_) rfl (by kernel_rfl) (fun _ _ _ h => h) (Or.inl ⟨by rfl, ?_⟩) hS ?_
              rotate_left
              · intro w2 hw2
                try dsimp only at hw2
                go_simp
                first | done | with_reducible rfl
              try simp only [Act.put, List.getElem_toArray, List.getElem_cons_succ, List.getElem_cons_zero, List.setIfInBounds_toArray, List.set_cons_zero, List.set_cons_succ]
              refine wpAnyT_take (i := 5) (v := ?_) rfl (by kernel_rfl) (fun _ _ _ h => h) (Or.inl ⟨by rfl, ?_⟩) hS ?_
              rotate_left
              · intro w2 hw2
                try dsimp only at hw2
                go_simp
                first | done | with_reducible rfl
              try simp only [Act.put, List.getElem_toArray, List.getElem_cons_succ, List.getElem_cons_zero, List.setIfInBounds_toArray, List.set_cons_zero, List.set_cons_succ]
              refine wpAnyT_take (i := 6) (v := ?_) rfl (by kernel_rfl) (fun _ _ _ h => h) (Or.inl ⟨by rfl, ?_⟩) hS ?_
              rotate_left
              · intro w2 hw2
                try dsimp only at hw2
                go_simp
                first | done | with_reducible rfl
              try simp only [Act.put, List.getElem_toArray, List.getElem_cons_succ, List.getElem_cons_zero, List.setIfInBounds_toArray, List.set_cons_zero, List.set_cons_succ]
              refine wpAnyT_take (i := 7) (v := ?_) rfl (by kernel_rfl) (fun _ _ _ h => h) (Or.inl ⟨by rfl, ?_⟩) hS ?_
              rotate_left
              · intro w2 hw2
                try dsimp only at hw2
                go_simp
                first | done | with_reducible rfl
              try simp only [Act.put, List.getElem_toArray, List.getElem_cons_succ, List.getElem_cons_zero, List.setIfInBounds_toArray, List.set_cons_zero, List.set_cons_succ]
              refine wpAnyT_take (i := 8) (v := ?_) rfl (by kernel_rfl) (fun _ _ _ h => h) (Or.inl ⟨by rfl, ?_⟩) hS ?_
              rotate_left
              · intro w2 hw2
                try dsimp only at hw2
                go_simp
                first | done | with_reducible rfl
              try simp only [Act.put, List.getElem_toArray, List.getElem_cons_succ, List.getElem_cons_zero, List.setIfInBounds_toArray, List.set_cons_zero, List.set_cons_succ]
              refine wpAnyT_take (i := 9) (v := ?_) rfl (by kernel_rfl) (fun _ _ _ h => h) (Or.inl ⟨by rfl, ?_⟩) hS ?_
              rotate_left
              · intro w2 hw2
                try dsimp only at hw2
                go_simp
                first | done | with_reducible rfl
              try simp only [Act.put, List.getElem_toArray, List.getElem_cons_succ, List.getElem_cons_zero, List.setIfInBounds_toArray, List.set_cons_zero, List.set_cons_succ]
              refine wpAnyT_take (i := 10) (v := ?_) rfl (by kernel_rfl) (fun _ _ _ h => h) (Or.inl ⟨by rfl, ?_⟩) hS ?_
              rotate_left
              · intro w2 hw2
                try dsimp only at hw2
                go_simp
                first | done | with_reducible rfl
              try simp only [Act.put, List.getElem_toArray, List.getElem_cons_succ, List.getElem_cons_zero, List.setIfInBounds_toArray, List.set_cons_zero, List.set_cons_succ]
              refine wpAnyT_take (i := 11) (v := ?_) rfl (by kernel_rfl) (fun _ _ _ h => h) (Or.inl ⟨by rfl, ?_⟩) hS ?_
              rotate_left
              · intro w2 hw2
                try dsimp only at hw2
                go_simp
                first | done | with_reducible rfl
              try simp only [Act.put, List.getElem_toArray, List.getElem_cons_succ, List.getElem_cons_zero, List.setIfInBounds_toArray, List.set_cons_zero, List.set_cons_succ]
              refine wpAnyT_take (i := 12) (v := ?_) rfl (by kernel_rfl) (fun _ _ _ h => h) (Or.inl ⟨by rfl, ?_⟩) hS ?_
              rotate_left
              · intro w2 hw2
                try dsimp only at hw2
                go_simp
                first | done | with_reducible rfl
              try simp only [Act.put, List.getElem_toArray, List.getElem_cons_succ, List.getElem_cons_zero, List.setIfInBounds_toArray, List.set_cons_zero, List.set_cons_succ]
              clear hS
              refine wpAnyT_gate rfl (by kernel_rfl) (fun K hK => ?_)
              go_simp
              refine (refg_any g2 cap2 l6 HL6.out 2 7 8 13 (by decide) (by decide) (by decide) (by decide) x6 y6 wr.drew HK.out.1.1).mono ?_
              rintro e wz ⟨rfl, hwf, hgr⟩
              have HKN : Hid (RC w g2 gm H M h (rg l6 2 7 8 13 x6 y6) wz ∧ Blk wz y 3 (il z) ∧ y ≠ g2) := Lib.hid (rc_call HK.out.1 HK.out.2.1 HK.out.2.2 hwf hgr)
              refine hK.out _ _ ?_
              clear hK K HK hwf hgr wr
              have HL7 : Hid ((rg l6 2 7 8 13 x6 y6).length = 16) := Lib.hid (by rw [HE6.out, gg_length]; exact HL6.out)
              obtain ⟨l7, hl7⟩ : ∃ v, rg l6 2 7 8 13 x6 y6 = v := ⟨_, rfl⟩
              rw [hl7] at HE6 HL7 HKN
              clear hl7
              refine hide_any (X := fun W => Hid (RC w g2 gm H M h l7 W ∧ Blk W y 3 (il z) ∧ y ≠ g2)) HKN ?_
              clear HKN
              clear wz
              intro wr HK
              try simp only [Act.put, List.getElem_toArray, List.getElem_cons_succ, List.getElem_cons_zero, List.setIfInBounds_toArray, List.set_cons_zero, List.set_cons_succ]
              refine wpAny_done (by kernel_rfl) ?_ _
              go_wp2_with fail
              obtain ⟨m7, hm7', em7⟩ := HOK.out.2 14 (by decide)
              obtain ⟨n7, hn7', en7⟩ := HOK.out.2 15 (by decide)
              have hm7 : ((m7 : Nat) : Int) < 16 := by omega
              have hn7 : ((n7 : Nat) : Int) < 16 := by omega
              obtain ⟨x7, hx7⟩ : ∃ v, M.getD m7 0 = v := ⟨_, rfl⟩
              obtain ⟨y7, hy7⟩ : ∃ v, M.getD n7 0 = v := ⟨_, rfl⟩
              have hS : wr.drew.cell? ⟨y, 14, none⟩ = some (.int .i64 (m7 : Nat)) ∧ wr.drew.cell? ⟨gm, m7, none⟩ = some (.int .u32 x7) ∧ wr.drew.cell? ⟨y, 15, none⟩ = some (.int .i64 (n7 : Nat)) ∧ wr.drew.cell? ⟨gm, n7, none⟩ = some (.int .u32 y7) := by
                obtain ⟨⟨h1, h2, -⟩, h3, -⟩ := HK.out
                refine ⟨?_, ?_, ?_, ?_⟩
                · exact (h3.cell 14).trans (by rw [il_at z 14 (by rw [HOK.out.1]; decide), em7])
                · exact (h2.1 m7 (by rw [HML.out]; exact hm7')).trans (by rw [hx7])
                · exact (h3.cell 15).trans (by rw [il_at z 15 (by rw [HOK.out.1]; decide), en7])
                · exact (h2.1 n7 (by rw [HML.out]; exact hn7')).trans (by rw [hy7])
              have HE7 : Hid (rg l7 3 4 9 14 x7 y7 = gg l7 3 4 9 14 (ix M z 14) (ix M z 15)) := Lib.hid (by
                rw [rg_eq l7 3 4 9 14 x7 y7 HL7.out (by decide) (by decide) (by decide) (by decide) (by decide) (by decide) (by decide) (by decide) (by decide) (by decide)]
                unfold ix
                rw [em7, en7, Int.toNat_natCast, Int.toNat_natCast, hx7, hy7])
              clear hx7 hy7 em7 en7 hm7' hn7'
              refine wp_region_T 13 (fun W => W.cell? ⟨y, 14, none⟩ = some (.int .i64 (m7 : Nat)) ∧ W.cell? ⟨gm, m7, none⟩ = some (.int .u32 x7) ∧ W.cell? ⟨y, 15, none⟩ = some (.int .i64 (n7 : Nat)) ∧ W.cell? ⟨gm, n7, none⟩ = some (.int .u32 y7)) (by kernel_rfl) ?_
              refine wpAnyT_take (i := 0) (v := ?_) rfl (by kernel_rfl) (fun _ _ _ h => h) (Or.inl ⟨by rfl, ?_⟩) hS ?_
              rotate_left
              · intro w2 hw2
                try dsimp only at hw2
                go_simp
                first | done | with_reducible rfl
              try simp only [Act.put, List.getElem_toArray, List.getElem_cons_zero, List.setIfInBounds_toArray, List.set_cons_zero, List.set_cons_succ]
              refine wpAnyT_take (i := 1) (v := ?_) rfl (by kernel_rfl) (fun _ _ _ h => h) (Or.inl ⟨by rfl, ?_⟩) hS ?_
              rotate_left
              · intro w2 hw2
                try dsimp only at hw2
                go_simp
                first | done | with_reducible rfl
              try simp only [Act.put, List.getElem_toArray, List.getElem_cons_succ, List.getElem_cons_zero, List.setIfInBounds_toArray, List.set_cons_zero, List.set_cons_succ]
              refine wpAnyT_take (i := 2) (v := ?_) rfl (by kernel_rfl) (fun _ _ _ h => h) (Or.inl ⟨by rfl, ?_⟩) hS ?_
              rotate_left
              · intro w2 hw2
                try dsimp only at hw2
                go_simp
                first | done | with_reducible rfl
              try simp only [Act.put, List.getElem_toArray, List.getElem_cons_succ, List.getElem_cons_zero, List.setIfInBounds_toArray, List.set_cons_zero, List.set_cons_succ]
              refine wpAnyT_take (i := 3) (v := ?_) rfl (by kernel_rfl) (fun _ _ _ h => h) (Or.inl ⟨by rfl, ?_⟩) hS ?_
              rotate_left
              · intro w2 hw2
                try dsimp only at hw2
                go_simp
                first | done | with_reducible rfl
              try simp only [Act.put, List.getElem_toArray, List.getElem_cons_succ, List.getElem_cons_zero, List.setIfInBounds_toArray, List.set_cons_zero, List.set_cons_succ]
              refine wpAnyT_take (i := 4) (v := ?_) rfl (by kernel_rfl) (fun _ _ _ h => h) (Or.inl ⟨by rfl, ?_⟩) hS ?_
              rotate_left
              · intro w2 hw2
                try dsimp only at hw2
                go_simp
                first | done | with_reducible rfl
              try simp only [Act.put, List.getElem_toArray, List.getElem_cons_succ, List.getElem_cons_zero, List.setIfInBounds_toArray, List.set_cons_zero, List.set_cons_succ]
              refine wpAnyT_take (i := 5) (v := ?_) rfl (by kernel_rfl) (fun _ _ _ h => h) (Or.inl ⟨by rfl, ?_⟩) hS ?_
              rotate_left
              · intro w2 hw2
                try dsimp only at hw2
                go_simp
                first | done | with_reducible rfl
              try simp only [Act.put, List.getElem_toArray, List.getElem_cons_succ, List.getElem_cons_zero, List.setIfInBounds_toArray, List.set_cons_zero, List.set_cons_succ]
              refine wpAnyT_take (i := 6) (v := ?_) rfl (by kernel_rfl) (fun _ _ _ h => h) (Or.inl ⟨by rfl, ?_⟩) hS ?_
              rotate_left
              · intro w2 hw2
                try dsimp only at hw2
                go_simp
                first | done | with_reducible rfl
              try simp only [Act.put, List.getElem_toArray, List.getElem_cons_succ, List.getElem_cons_zero, List.setIfInBounds_toArray, List.set_cons_zero, List.set_cons_succ]
              refine wpAnyT_take (i := 7) (v := ?_) rfl (by kernel_rfl) (fun _ _ _ h => h) (Or.inl ⟨by rfl, ?_⟩) hS ?_
              rotate_left
              · intro w2 hw2
                try dsimp only at hw2
                go_simp
                first | done | with_reducible rfl
              try simp only [Act.put, List.getElem_toArray, List.getElem_cons_succ, List.getElem_cons_zero, List.setIfInBounds_toArray, List.set_cons_zero, List.set_cons_succ]
              refine wpAnyT_take (i := 8) (v := ?_) rfl (by kernel_rfl) (fun _ _ _ h => h) (Or.inl ⟨by rfl, ?_⟩) hS ?_
              rotate_left
              · intro w2 hw2
                try dsimp only at hw2
                go_simp
                first | done | with_reducible rfl
              try simp only [Act.put, List.getElem_toArray, List.getElem_cons_succ, List.getElem_cons_zero, List.setIfInBounds_toArray, List.set_cons_zero, List.set_cons_succ]
              refine wpAnyT_take (i := 9) (v := ?_) rfl (by kernel_rfl) (fun _ _ _ h => h) (Or.inl ⟨by rfl, ?_⟩) hS ?_
              rotate_left
              · intro w2 hw2
                try dsimp only at hw2
                go_simp
                first | done | with_reducible rfl
              try simp only [Act.put, List.getElem_toArray, List.getElem_cons_succ, List.getElem_cons_zero, List.setIfInBounds_toArray, List.set_cons_zero, List.set_cons_succ]
              refine wpAnyT_take (i := 10) (v := ?_) rfl (by kernel_rfl) (fun _ _ _ h => h) (Or.inl ⟨by rfl, ?_⟩) hS ?_
              rotate_left
              · intro w2 hw2
                try dsimp only at hw2
                go_simp
                first | done | with_reducible rfl
              try simp only [Act.put, List.getElem_toArray, List.getElem_cons_succ, List.getElem_cons_zero, List.setIfInBounds_toArray, List.set_cons_zero, List.set_cons_succ]
              refine wpAnyT_take (i := 11) (v := ?_) rfl (by kernel_rfl) (fun _ _ _ h => h) (Or.inl ⟨by rfl, ?_⟩) hS ?_
              rotate_left
              · intro w2 hw2
                try dsimp only at hw2
                go_simp
                first | done | with_reducible rfl
              try simp only [Act.put, List.getElem_toArray, List.getElem_cons_succ, List.getElem_cons_zero, List.setIfInBounds_toArray, List.set_cons_zero, List.set_cons_succ]
              refine wpAnyT_take (i := 12) (v := ?_) rfl (by kernel_rfl) (fun _ _ _ h => h) (Or.inl ⟨by rfl, ?_⟩) hS ?_
              rotate_left
              · intro w2 hw2
                try dsimp only at hw2
                go_simp
                first | done | with_reducible rfl
              try simp only [Act.put, List.getElem_toArray, List.getElem_cons_succ, List.getElem_cons_zero, List.setIfInBounds_toArray, List.set_cons_zero, List.set_cons_succ]
              clear hS
              refine wpAnyT_gate rfl (by kernel_rfl) (fun K hK => ?_)
              go_simp
              refine (refg_any g2 cap2 l7 HL7.out 3 4 9 14 (by decide) (by decide) (by decide) (by decide) x7 y7 wr.drew HK.out.1.1).mono ?_
              rintro e wz ⟨rfl, hwf, hgr⟩
              have HKN : Hid (RC w g2 gm H M h (rg l7 3 4 9 14 x7 y7) wz ∧ Blk wz y 3 (il z) ∧ y ≠ g2) := Lib.hid (rc_call HK.out.1 HK.out.2.1 HK.out.2.2 hwf hgr)
              refine hK.out _ _ ?_
              clear hK K HK hwf hgr wr
              have HL8 : Hid ((rg l7 3 4 9 14 x7 y7).length = 16) := Lib.hid (by rw [HE7.out, gg_length]; exact HL7.out)
              obtain ⟨l8, hl8⟩ : ∃ v, rg l7 3 4 9 14 x7 y7 = v := ⟨_, rfl⟩
              rw [hl8] at HE7 HL8 HKN
              clear hl8
              refine hide_any (X := fun W => Hid (RC w g2 gm H M h l8 W ∧ Blk W y 3 (il z) ∧ y ≠ g2)) HKN ?_
              clear HKN
              clear wz
              intro wr HK
              try simp only [Act.put, List.getElem_toArray, List.getElem_cons_succ, List.getElem_cons_zero, List.setIfInBounds_toArray, List.set_cons_zero, List.set_cons_succ]
              refine wpAny_done (by kernel_rfl) ?_ _
              have HN : Hid (RC w g2 gm H M h (rnds M (r + 1) V) wr) := Lib.hid (by
                have e : rnd l M z = gg (gg (gg (gg (gg (gg (gg (gg l 0 4 8 12 (ix M z 0) (ix M z 1)) 1 5 9 13 (ix M z 2) (ix M z 3)) 2 6 10 14 (ix M z 4) (ix M z 5)) 3 7 11 15 (ix M z 6) (ix M z 7)) 0 5 10 15 (ix M z 8) (ix M z 9)) 1 6 11 12 (ix M z 10) (ix M z 11)) 2 7 8 13 (ix M z 12) (ix M z 13)) 3 4 9 14 (ix M z 14) (ix M z 15) := rfl
                rw [HRN.out, e, ← HE0.out, ← HE1.out, ← HE2.out, ← HE3.out, ← HE4.out, ← HE5.out, ← HE6.out, ← HE7.out]
                exact HK.out.1)
              clear HK HRN HE0 HE1 HE2 HE3 HE4 HE5 HE6 HE7
              go_wp2_with fail
              go_roundw
              case rel => exact ⟨r + 1, by omega, by go_num, HN⟩
              case measure => simp [intOf]; omega
            · have hr10 : r = 10 := by omega
              have dl : decide ((r : Int) < 10) = false := decide_eq_false (by omega)
              subst hr10
              obtain ⟨c10, hc10⟩ : ∃ c : Int, ((10 : Nat) : Int) = c := ⟨_, rfl⟩
              rw [hc10] at dl ⊢
              clear hc10
              obtain ⟨v, hv⟩ : ∃ v, rnds M 10 V = v := ⟨_, rfl⟩
              obtain ⟨B, hB⟩ : ∃ B, wr.heap.size = B := ⟨_, rfl⟩
              have HRv : Hid (R = (List.range 8).map (fin h v)) := Lib.hid (by rw [HRR.out, hv])
              have HVL : Hid (v.length = 16) := Lib.hid (by rw [← hv, rnds_length]; exact HWL.out)
              have HKv : Hid (RC w g2 gm H M h v wr) := Lib.hid (by rw [← hv]; exact HK.out)
              have HRT := Lib.hid (fun k (hk : k < 8) => final_at HRv.out k hk)
              have HHL : Hid (h.length = 8) := Lib.hid HH.out.2
              have HBB : Hid (g2 < B ∧ gm < B ∧ H < B ∧ w.heap.size ≤ B) := Lib.hid (by
                obtain ⟨h1, h2, h3, h4, -⟩ := HKv.out
                rw [← hB]
                exact ⟨h1.2.2, h2.2.2, h3.2.2, h4.size⟩)
              have HR8 : Hid (R.length = 8) := Lib.hid (by rw [HRv.out]; simp)
              have HBz : Hid (B ≤ wr.heap.size) := Lib.hid (Nat.le_of_eq hB.symm)
              clear hv HK HRR HWL hB HRv HH
              go_wp2_with fail
              go_loopw [13, 14] (fun q i wr => ∃ k : Nat, k ≤ 8 ∧ i = .int .i64 k ∧ Hid (RC w g2 gm H M h v wr ∧ wr.ownsRow B 58 1 q k (Go.Proofs.YtfmjankmfddefaaDoor.Dg.wc (R.take k)) ∧ B ≤ wr.heap.size)) (fun _ i _ => 8 - (intOf i).toNat)
              case atStart => exact ⟨0, Nat.zero_le _, rfl, Lib.hid ⟨HKv.out, ⟨rfl, .inl ⟨rfl, rfl⟩⟩, HBz.out⟩⟩
              case round =>
                clear HKv HBz
                obtain ⟨k, hk, rfl, HK⟩ := hrel
                by_cases hlt : k < 8
                · have dl : decide ((k : Int) < 8) = true := decide_eq_true (by omega)
                  obtain ⟨a1, ha1⟩ : ∃ a, h.getD k 0 = a := ⟨_, rfl⟩
                  obtain ⟨b1, hb1⟩ : ∃ b, v.getD k 0 = b := ⟨_, rfl⟩
                  obtain ⟨c1, hc1⟩ : ∃ c, v.getD (k + 8) 0 = c := ⟨_, rfl⟩
                  obtain ⟨x1, hx1⟩ : ∃ x, bits .xor .u32 a1 b1 = x := ⟨_, rfl⟩
                  obtain ⟨y1, hy1⟩ : ∃ y, bits .xor .u32 x1 c1 = y := ⟨_, rfl⟩
                  have HT : Hid (R.take (k + 1) = R.take k ++ [y1]) := Lib.hid (by
                    rw [take_snoc R k (by rw [HR8.out]; exact hlt), HRT.out k hlt, ha1, hb1, hc1]
                    show _ = R.take k ++ [y1]
                    rw [← hy1, ← hx1]
                    rfl)
                  obtain ⟨k8, hk8⟩ : ∃ e : Nat, k + 8 = e := ⟨_, rfl⟩
                  have HSS : Hid (∀ W, RC w g2 gm H M h v W → W.cell? ⟨H, k, none⟩ = some (.int .u32 a1) ∧ W.cell? ⟨g2, k, none⟩ = some (.int .u32 b1) ∧ W.cell? ⟨g2, k8, none⟩ = some (.int .u32 c1)) := Lib.hid (by
                    intro W hW
                    obtain ⟨h1, -, h3, -⟩ := hW
                    exact ⟨(h3.1 k (by rw [HHL.out]; exact hlt)).trans (by rw [ha1]), (h1.1 k (by rw [HVL.out]; omega)).trans (by rw [hb1]), (h1.1 k8 (by rw [HVL.out]; omega)).trans (by rw [← hk8, hc1])⟩)
                  have i1 : (k : Int) < 8 := by omega
                  have i2 : (k : Int) < 16 := by omega
                  have i5 : (k8 : Int) < 16 := by omega
                  have i4 : IntKind.i64.wrap ((k : Int) + 8) = (k8 : Int) := by rw [IntKind.wrap_i64]; omega
                  have HD0 : Hid (RC w g2 gm H M h v wr.drew ∧ wr.drew.ownsRow B 58 1 u13 k (Go.Proofs.YtfmjankmfddefaaDoor.Dg.wc (R.take k)) ∧ B ≤ wr.drew.heap.size) := Lib.hid ⟨by
                    obtain ⟨h1, h2, h3, h4, h5, h6, h7⟩ := HK.out.1
                    exact ⟨h1, h2, h3, below_drew h4 1, h5, h6, h7⟩, HK.out.2.1.drew, HK.out.2.2⟩
                  clear HK ha1 hb1 hc1 hk8
                  go_wp2_with fail
                  have hS := HSS.out _ HD0.out.1
                  refine wp_region_T 17 (fun W => W.cell? ⟨H, k, none⟩ = some (.int .u32 a1) ∧ W.cell? ⟨g2, k, none⟩ = some (.int .u32 b1) ∧ W.cell? ⟨g2, k8, none⟩ = some (.int .u32 c1)) (by kernel_rfl) ?_
                  refine wpAnyT_take (i := 0) (v := ?_) rfl (by kernel_rfl) (fun _ _ _ h => h) (Or.inl ⟨by rfl, ?_⟩) hS ?_
                  rotate_left
                  · intro w2 hw2
                    try dsimp only at hw2
                    go_simp
                    first | done | with_reducible rfl
                  try simp only [Act.put, List.getElem_toArray, List.getElem_cons_zero, List.setIfInBounds_toArray, List.set_cons_zero, List.set_cons_succ]
                  refine wpAnyT_take (i := 1) (v := ?_) rfl (by kernel_rfl) (fun _ _ _ h => h) (Or.inl ⟨by rfl, ?_⟩) hS ?_
                  rotate_left
                  · intro w2 hw2
                    try dsimp only at hw2
                    go_simp
                    first | done | with_reducible rfl
                  try simp only [Act.put, List.getElem_toArray, List.getElem_cons_succ, List.getElem_cons_zero, List.setIfInBounds_toArray, List.set_cons_zero, List.set_cons_succ]
                  refine wpAnyT_take (i := 2) (v := ?_) rfl (by kernel_rfl) (fun _ _ _ h => h) (Or.inl ⟨by rfl, ?_⟩) hS ?_
                  rotate_left
                  · intro w2 hw2
                    try dsimp only at hw2
                    go_simp
                    first | done | with_reducible rfl
                  try simp only [Act.put, List.getElem_toArray, List.getElem_cons_succ, List.getElem_cons_zero, List.setIfInBounds_toArray, List.set_cons_zero, List.set_cons_succ]
                  refine wpAnyT_take (i := 3) (v := ?_) rfl (by kernel_rfl) (fun _ _ _ h => h) (Or.inl ⟨by rfl, ?_⟩) hS ?_
                  rotate_left
                  · intro w2 hw2
                    try dsimp only at hw2
                    go_simp
                    first | done | with_reducible rfl
                  try simp only [Act.put, List.getElem_toArray, List.getElem_cons_succ, List.getElem_cons_zero, List.setIfInBounds_toArray, List.set_cons_zero, List.set_cons_succ]
                  refine wpAnyT_take (i := 4) (v := ?_) rfl (by kernel_rfl) (fun _ _ _ h => h) (Or.inl ⟨by rfl, ?_⟩) hS ?_
                  rotate_left
                  · intro w2 hw2
                    try dsimp only at hw2
                    go_simp
                    first | done | with_reducible rfl
                  try simp only [Act.put, List.getElem_toArray, List.getElem_cons_succ, List.getElem_cons_zero, List.setIfInBounds_toArray, List.set_cons_zero, List.set_cons_succ]
                  refine wpAnyT_take (i := 5) (v := ?_) rfl (by kernel_rfl) (fun _ _ _ h => h) (Or.inl ⟨by rfl, ?_⟩) hS ?_
                  rotate_left
                  · intro w2 hw2
                    try dsimp only at hw2
                    go_simp
                    first | done | with_reducible rfl
                  try simp only [Act.put, List.getElem_toArray, List.getElem_cons_succ, List.getElem_cons_zero, List.setIfInBounds_toArray, List.set_cons_zero, List.set_cons_succ]
                  refine wpAnyT_take (i := 6) (v := ?_) rfl (by kernel_rfl) (fun _ _ _ h => h) (Or.inl ⟨by rfl, ?_⟩) hS ?_
                  rotate_left
                  · intro w2 hw2
                    try dsimp only at hw2
                    go_simp
                    first | done | with_reducible rfl
                  try simp only [Act.put, List.getElem_toArray, List.getElem_cons_succ, List.getElem_cons_zero, List.setIfInBounds_toArray, List.set_cons_zero, List.set_cons_succ]
                  refine wpAnyT_take (i := 7) (v := ?_) rfl (by kernel_rfl) (fun _ _ _ h => h) (Or.inl ⟨by rfl, ?_⟩) hS ?_
                  rotate_left
                  · intro w2 hw2
                    try dsimp only at hw2
                    go_simp
                    first | done | with_reducible rfl
                  try simp only [Act.put, List.getElem_toArray, List.getElem_cons_succ, List.getElem_cons_zero, List.setIfInBounds_toArray, List.set_cons_zero, List.set_cons_succ]
                  refine wpAnyT_take (i := 8) (v := ?_) rfl (by kernel_rfl) (fun _ _ _ h => h) (Or.inl ⟨by rfl, ?_⟩) hS ?_
                  rotate_left
                  · intro w2 hw2
                    try dsimp only at hw2
                    go_simp
                    first | done | with_reducible rfl
                  try simp only [Act.put, List.getElem_toArray, List.getElem_cons_succ, List.getElem_cons_zero, List.setIfInBounds_toArray, List.set_cons_zero, List.set_cons_succ]
                  refine wpAnyT_take (i := 9) (v := ?_) rfl (by kernel_rfl) (fun _ _ _ h => h) (Or.inl ⟨by rfl, ?_⟩) hS ?_
                  rotate_left
                  · intro w2 hw2
                    try dsimp only at hw2
                    go_simp
                    first | done | with_reducible rfl
                  try simp only [Act.put, List.getElem_toArray, List.getElem_cons_succ, List.getElem_cons_zero, List.setIfInBounds_toArray, List.set_cons_zero, List.set_cons_succ]
                  refine wpAnyT_take (i := 10) (v := ?_) rfl (by kernel_rfl) (fun _ _ _ h => h) (Or.inl ⟨by rfl, ?_⟩) hS ?_
                  rotate_left
                  · intro w2 hw2
                    try dsimp only at hw2
                    go_simp
                    first | done | with_reducible rfl
                  try simp only [Act.put, List.getElem_toArray, List.getElem_cons_succ, List.getElem_cons_zero, List.setIfInBounds_toArray, List.set_cons_zero, List.set_cons_succ]
                  refine wpAnyT_take (i := 11) (v := ?_) rfl (by kernel_rfl) (fun _ _ _ h => h) (Or.inl ⟨by rfl, ?_⟩) hS ?_
                  rotate_left
                  · intro w2 hw2
                    try dsimp only at hw2
                    go_simp
                    first | done | with_reducible rfl
                  try simp only [Act.put, List.getElem_toArray, List.getElem_cons_succ, List.getElem_cons_zero, List.setIfInBounds_toArray, List.set_cons_zero, List.set_cons_succ]
                  refine wpAnyT_take (i := 12) (v := ?_) rfl (by kernel_rfl) (fun _ _ _ h => h) (Or.inl ⟨by rfl, ?_⟩) hS ?_
                  rotate_left
                  · intro w2 hw2
                    try dsimp only at hw2
                    go_simp
                    first | done | with_reducible rfl
                  try simp only [Act.put, List.getElem_toArray, List.getElem_cons_succ, List.getElem_cons_zero, List.setIfInBounds_toArray, List.set_cons_zero, List.set_cons_succ]
                  refine wpAnyT_take (i := 13) (v := ?_) rfl (by kernel_rfl) (fun _ _ _ h => h) (Or.inl ⟨by rfl, ?_⟩) hS ?_
                  rotate_left
                  · intro w2 hw2
                    try dsimp only at hw2
                    go_simp
                    first | done | with_reducible rfl
                  try simp only [Act.put, List.getElem_toArray, List.getElem_cons_succ, List.getElem_cons_zero, List.setIfInBounds_toArray, List.set_cons_zero, List.set_cons_succ]
                  refine wpAnyT_take (i := 14) (v := ?_) rfl (by kernel_rfl) (fun _ _ _ h => h) (Or.inl ⟨by rfl, ?_⟩) hS ?_
                  rotate_left
                  · intro w2 hw2
                    try dsimp only at hw2
                    go_simp
                    first | done | with_reducible rfl
                  try simp only [Act.put, List.getElem_toArray, List.getElem_cons_succ, List.getElem_cons_zero, List.setIfInBounds_toArray, List.set_cons_zero, List.set_cons_succ]
                  refine wpAnyT_take (i := 15) (v := ?_) rfl (by kernel_rfl) (fun _ _ _ h => h) (Or.inl ⟨by rfl, ?_⟩) hS ?_
                  rotate_left
                  · intro w2 hw2
                    try dsimp only at hw2
                    go_simp
                    first | done | with_reducible rfl
                  try simp only [Act.put, List.getElem_toArray, List.getElem_cons_succ, List.getElem_cons_zero, List.setIfInBounds_toArray, List.set_cons_zero, List.set_cons_succ]
                  clear hS
                  have HSZ := Lib.hid (fun o => (show B ≤ (wr.drew.alloc o).heap.size from Nat.le_trans HD0.out.2.2 (below_alloc wr.drew o).size))
                  have HD1 := Lib.hid (fun o => HSS.out _ (HD0.out.1.alloc o))
                  refine wpAnyT_one (i := 16) rfl (by kernel_rfl) (fun K hK => ?_)
                  go_simp
                  refine hK.out _ _ (HD1.out _) ?_
                  clear hK K HD1
                  try simp only [Act.put, List.getElem_toArray, List.getElem_cons_succ, List.getElem_cons_zero, List.setIfInBounds_toArray, List.set_cons_zero, List.set_cons_succ]
                  refine hide_T (X := fun W => Hid (RC w g2 gm H M h v W ∧ W.ownsRow B 58 1 u13 k (Go.Proofs.YtfmjankmfddefaaDoor.Dg.wc (R.take k)) ∧ (∀ j u, (Go.Proofs.YtfmjankmfddefaaDoor.Dg.wc [y1])[j]? = some u → W.cell? ((⟨wr.heap.size, 0, none⟩ : Addr).add j) = some u) ∧ B ≤ W.heap.size)) (Lib.hid ⟨HD0.out.1.alloc _, HD0.out.2.1.alloc _, fun j u hj => (roww_cell (w := wr) (vs := Go.Proofs.YtfmjankmfddefaaDoor.Dg.wc [y1]) (t := 58) rfl j hj), HSZ.out _⟩) ?_
                  obtain ⟨y, hy⟩ : ∃ y, wr.heap.size = y := ⟨_, rfl⟩
                  rw [hy]
                  clear hy HD0 HSS HSZ wr
                  intro wd HD
                  refine wpAnyT_gate rfl (by kernel_rfl) (fun K hK => ?_)
                  refine step_append_lies _ rfl (.tmp 189) (.tmp 205) 74 rfl B 58 i0 (.int .u32 0) 1 4 Tryd.underlying74 hi0 hz0 hz1 hz2 rfl (by decide) u13 k (Go.Proofs.YtfmjankmfddefaaDoor.Dg.wc (R.take k)) rfl HD.out.2.1 ⟨y, 0, none⟩ 1 1 (Go.Proofs.YtfmjankmfddefaaDoor.Dg.wc [y1]) rfl rfl HD.out.2.2.1 (wc_one _) (by decide) (by unfold maxLen; omega) (by omega) HD.out.2.2.2 _ rfl ?_
                  intro g cap w1 hown1 hgrow1 hwh hgl
                  refine hK.out _ _ ?_
                  clear hK K
                  have HN : Hid (RC w g2 gm H M h v w1 ∧ w1.ownsRow B 58 1 (.slice (some ⟨g, 0, none⟩) (k + 1) cap) (k + 1) (Go.Proofs.YtfmjankmfddefaaDoor.Dg.wc (R.take (k + 1))) ∧ B ≤ w1.heap.size) := Lib.hid (by
                    obtain ⟨⟨h1, h2, h3, h4, h5, h6, h7⟩, h8, -⟩ := HD.out
                    refine ⟨⟨h1.only hgrow1 (fun e => ?_), h2.only hgrow1 (fun e => ?_), h3.only hgrow1 (fun e => ?_), h4.grown hgrow1 h4.size (fun q e => ?_), h5, h6, h7⟩, by rw [HT.out, wc_append]; exact hown1, Nat.le_trans HD.out.2.2.2 hgrow1.size⟩
                    · have := (h8.lt _ e.symm).1; have := HBB.out.1; omega
                    · have := (h8.lt _ e.symm).1; have := HBB.out.2.1; omega
                    · have := (h8.lt _ e.symm).1; have := HBB.out.2.2.1; omega
                    · exact Nat.le_trans HBB.out.2.2.2 (h8.lt q e).1)
                  clear hown1 hgrow1 hwh hgl HD HT
                  try simp only [Act.put, List.getElem_toArray, List.getElem_cons_succ, List.getElem_cons_zero, List.setIfInBounds_toArray, List.set_cons_zero, List.set_cons_succ]
                  refine wpAny_take (i := 18) (v := ?_) rfl (by kernel_rfl) (by kernel_rfl) (by kernel_rfl) (fun _ _ _ h => h) (Or.inl ⟨by rfl, ?_⟩) ?_
                  rotate_left
                  · intro w2
                    go_simp
                    first | done | with_reducible rfl
                  try simp only [Act.put, List.getElem_toArray, List.getElem_cons_succ, List.getElem_cons_zero, List.setIfInBounds_toArray, List.set_cons_zero, List.set_cons_succ]
                  refine wpAny_done (by kernel_rfl) ?_ _
                  go_wp2_with fail
                  go_roundw
                  case rel => exact ⟨k + 1, by omega, by go_num, HN⟩
                  case measure => simp [intOf]; omega
                · obtain rfl : k = 8 := by omega
                  have dl : decide (((8 : Nat) : Int) < 8) = false := by decide
                  have HK2 := HK.out.2.1
                  rw [List.take_of_length_le (Nat.le_of_eq HR8.out)] at HK2
                  obtain ⟨g, cap, rfl, -, hW, -⟩ := own_words HK2 (by decide)
                  have HE : Hid (Wf wr g R ∧ Below w.heap.size w wr) := Lib.hid ⟨hW, HK.out.1.2.2.2.1⟩
                  clear HK HK2 hW
                  go_wp2_with fail
                  go_ret
                  exact ⟨⟨g, cap, rfl, HE.out.1⟩, HE.out.2⟩
end Go.Proofs.YtfmjankmfddefaaDoor.Dg
