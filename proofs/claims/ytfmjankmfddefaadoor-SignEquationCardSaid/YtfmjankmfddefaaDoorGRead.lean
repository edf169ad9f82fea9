/- digest.read: the block at the beginning of a text. Conditions: the string's length is within the model's reach. -/
import Derived.Test.YtfmjankmfddefaaDoorGWordL
import Derived.StillTailTactics
namespace Go.Proofs.YtfmjankmfddefaaDoor.Dg
open Go.RowKit Gm
set_option linter.unusedVariables false

set_option maxHeartbeats 2000000 in
set_option maxRecDepth 100000 in
theorem read_any (s : Bs) (hs : s.length ≤ 1099511627776) (w : World) : Calls Tryd.prog 68 #[.string (sv s)] w fun e w' => e = .returned (.agg (wl (blk (s.take 64)))) ∧ Below w.heap.size w w' := by
  obtain ⟨g, hg⟩ : ∃ g, w.heap.size = g := ⟨_, rfl⟩
  obtain ⟨n, hn⟩ : ∃ n, s.length = n := ⟨_, rfl⟩
  have hsz : (sv s).size = n := hn
  obtain ⟨N, hN⟩ : ∃ N : Nat, min n 64 = N := ⟨_, rfl⟩
  have hmin : min (n : Int) 64 = (N : Int) := by omega
  have hNn : N ≤ n ∧ N ≤ 64 := by omega
  have HNn := Lib.hid hNn
  have HT : Hid (s.take 64 = s.take N) := Lib.hid (by
    rw [← hN, ← hn]
    by_cases h : s.length ≤ 64
    · rw [List.take_of_length_le h, Nat.min_eq_left h, List.take_length]
    · rw [Nat.min_eq_right (by omega)])
  have HG := Lib.hid (fun k (h : k < (sv s).size) => sv_get s k h)
  have HGS := Lib.hid hg
  clear hN hNn
  go_enter Tryd.func68, Tryd.ntmps68
  go_upto_region 2 with fail
  refine hide_world (X := fun W => Hid (Blk W (g + 1) 82 (wl (blk (s.take 0))) ∧ Blk W g 82 (wl (blk (s.take 0))) ∧ Below g w W)) ?_ ?_
  · refine Lib.hid ⟨?_, ?_, ?_⟩
    · rw [List.take_zero, blk_nil]
      have := Blk.new (w.alloc (.cells (wl (List.replicate 16 0)) 82)) 82 (wl (List.replicate 16 0))
      rw [show (w.alloc (.cells (wl (List.replicate 16 0)) 82)).heap.size = g + 1 by simp [hg]] at this
      exact this
    · rw [List.take_zero, blk_nil, ← hg]
      exact (Blk.new w 82 (wl (List.replicate 16 0))).alloc _
    · have hb : Below g w w := hg ▸ below_self w
      exact ((hb.alloc (Nat.le_of_eq hg.symm) _).alloc (by simp; omega) _)
  intro W HS
  clear hg
  go_cut [5, 6, 7, 8] (fun a b v i wc => v = .int .i64 (N : Nat) ∧ i = .int .i64 0 ∧ W = wc)
  case first =>
    go_wp2_with fail
    all_goals
      go_meet
      exact ⟨by congr 1 <;> omega, rfl, rfl⟩
  case rest =>
    obtain ⟨rfl, rfl, rfl⟩ := hcut
    clear hmin
    go_wp2_with fail
    go_loopw [8] (fun i wr => ∃ k : Nat, k ≤ N ∧ i = .int .i64 k ∧ Hid (Blk wr (g + 1) 82 (wl (blk (s.take k))) ∧ Blk wr g 82 (wl (blk (s.take 0))) ∧ Below g w wr)) (fun i _ => N - (intOf i).toNat)
    case atStart => exact ⟨0, Nat.zero_le _, rfl, HS⟩
    case round =>
      obtain ⟨k, hk, rfl, HK⟩ := hrel
      by_cases hlt : k < N
      · have dl : decide ((k : Int) < (N : Int)) = true := decide_eq_true (by omega)
        obtain ⟨p, q, hq, hkpq⟩ : ∃ p q : Nat, q < 4 ∧ k = 4 * p + q := ⟨k / 4, k % 4, by omega, by omega⟩
        have hp : p < 16 := by have := HNn.out; omega
        have hkn : k < n := by have := HNn.out; omega
        obtain ⟨b, hb⟩ : ∃ b, (s.getD k 0) = b := ⟨_, rfl⟩
        have hks : k < (sv s).size := by omega
        have hget : (sv s)[k]'hks = b := (HG.out _ hks).trans hb
        obtain ⟨y, hy⟩ : ∃ y : Nat, b.toNat = y := ⟨_, rfl⟩
        obtain ⟨x, hx⟩ : ∃ x : Nat, wordN (s.take k) p = x := ⟨_, rfl⟩
        obtain ⟨x', hx'⟩ : ∃ x : Nat, wordN (s.take (k + 1)) p = x := ⟨_, rfl⟩
        have hcell : wr.drew.cell? ⟨g + 1, p, none⟩ = some (.int .u32 x) := (HK.out.1.cell p).trans (by rw [wl_at _ p (by rw [blk_length]; exact hp), blk_at _ p hp, hx])
        have hor : bits .or .u32 (x : Int) ((y : Int) * 2 ^ (8 * q)) = (x' : Int) := by
          have := or_word s p q hq
          rw [← hkpq, hb, hy, hx, hx'] at this
          rw [← this, Int.natCast_mul, Int.natCast_pow]; rfl
        have hymod : ((y : Int) * 2 ^ (8 * q)) % 4294967296 = ((y : Int) * 2 ^ (8 * q)) := by
          have h1 := (wordN_snoc s p q hq).1
          have h2 := wordN_lt (s.take (4 * p + q + 1)) p
          rw [← hkpq, hb, hy] at h1
          rw [← hkpq] at h2
          have hcast : ((y : Int) * 2 ^ (8 * q)) = ((y * 2 ^ (8 * q) : Nat) : Int) := by rw [Int.natCast_mul, Int.natCast_pow]; rfl
          rw [hcast]
          omega
        have HSN : Hid (blk (s.take (k + 1)) = (blk (s.take k)).set p (x' : Int)) := Lib.hid (by
          have := blk_snoc s p q hp hq
          rw [← hkpq, hx'] at this; exact this)
        have e1 : (k : Int) / 4 = (p : Int) := by omega
        have e2 : (k : Int) % 4 = (q : Int) := by omega
        have e3 : Int.tdiv (k : Int) 4 = (p : Int) := by rw [Int.tdiv_eq_ediv_of_nonneg (by omega)]; exact e1
        have e4 : Int.tmod (k : Int) 4 = (q : Int) := by rw [Int.tmod_eq_emod_of_nonneg (by omega)]; exact e2
        have hp16 : (p : Int) < 16 := by omega
        have hq8 : 8 * q ≤ 63 := by omega
        have hwq : wrap64 (8 * (q : Int)) = ((8 * q : Nat) : Int) := by unfold wrap64; omega
        have hwy : IntKind.u32.wrap (y : Int) = (y : Int) := by have := byte_lt b; rw [IntKind.wrap_u32]; omega
        clear hx hx' hb hq hkpq
        go_wp2_with fail
        have hfz : wr.drew.frozen? ⟨g + 1, p, none⟩ = false := HK.out.1.frozen p
        have HKN : Hid (Blk (wr.drew.setCell ⟨g + 1, p, none⟩ (.int .u32 x')) (g + 1) 82 (wl (blk (s.take (k + 1)))) ∧ Blk (wr.drew.setCell ⟨g + 1, p, none⟩ (.int .u32 x')) g 82 (wl (blk (s.take 0))) ∧ Below g w (wr.drew.setCell ⟨g + 1, p, none⟩ (.int .u32 x'))) := Lib.hid (by
          obtain ⟨h1, h2, h3⟩ := HK.out
          refine ⟨?_, h2.far (w := wr.drew) (by show g ≠ g + 1; omega) _, (below_drew h3 1).setCell (by show g ≤ g + 1; omega) _⟩
          have := Blk.set_ (w := wr.drew) h1 p (.int .u32 x')
          rw [wl_set, ← HSN.out] at this
          exact this)
        clear HK HSN
        go_region
        go_wp2_with fail
        go_roundw
        case rel => exact ⟨k + 1, by omega, by go_num, HKN⟩
        case measure => simp [intOf]; omega
      · obtain rfl : k = N := by omega
        have dl : decide ((k : Int) < (k : Int)) = false := decide_eq_false (by omega)
        go_upto_region 7 with fail
        refine wp_region_lit ?_
        refine wpList_load_row rfl 82 (.tmp 3) rfl (g + 1) rfl _ _ (0, 0) _ HK.out.1 Tryd.underlying82 rfl (by rw [blockInfo, wl_size, blk_length]) ?_
        simp only [Act.put, List.setIfInBounds_toArray, List.set_cons_zero, List.set_cons_succ]
        refine wpList_store_row rfl 82 (.tmp 2) (.tmp 26) rfl g (wl (blk (s.take k))) rfl rfl _ _ HK.out.2.1 (by rw [blockInfo, wl_size, blk_length]) (by rw [wl_size, wl_size, blk_length, blk_length]) (wl_one _) ?_
        have HE := Lib.hid (Blk.row HK.out.2.1 (wl (blk (s.take k))))
        have HB := Lib.hid (below_row HK.out.2.2 (Nat.le_refl g) (wl (blk (s.take k))))
        generalize wr.setRow g (wl (blk (s.take k))) = we at *
        simp only [Act.put]
        refine wpList_nil ?_
        go_wp2_with fail
        refine bodyPost_ret (results_cell_row rfl _ _ g _ _ (0, 0) _ rfl HE.out Tryd.underlying82 rfl (by rw [blockInfo, wl_size, blk_length])) rfl ⟨?_, ?_⟩
        · rw [HT.out]
        · rw [HGS.out]; exact HB.out
end Go.Proofs.YtfmjankmfddefaaDoor.Dg
