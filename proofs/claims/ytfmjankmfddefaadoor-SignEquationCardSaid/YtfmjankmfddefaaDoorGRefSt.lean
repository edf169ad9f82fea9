/- The reference's compress, its contract by itself (so that texts above need not the whole walk). -/
import Derived.Test.YtfmjankmfddefaaDoorGRefG
import Derived.Test.YtfmjankmfddefaaDoorGRefO
import Derived.Test.YtfmjankmfddefaaDoorGSum
import Derived.Test.YtfmjankmfddefaaDoorGHexK
namespace Go.Proofs.YtfmjankmfddefaaDoor.Dg
open Go.RowKit Gm
set_option linter.unusedVariables false

/-- What the reference's compress gives for the block at 64 * j. -/
def rst (s : Bs) (j : Nat) : List Int := comp (blocks s j) (blk ((s.drop (64 * j)).take 64)) (min (64 * j + 64) s.length) (decide (min (64 * j + 64) s.length = s.length))
theorem rst_length (s : Bs) (j : Nat) : (rst s j).length = 8 := comp_length _ _ _ _
theorem rst_next (s : Bs) (j : Nat) (h : 64 * (j + 1) < s.length) : rst s j = blocks s (j + 1) := by
  have e : min (64 * j + 64) s.length = 64 * (j + 1) := by omega
  have e2 : decide (64 * (j + 1) = s.length) = false := decide_eq_false (by omega)
  unfold rst
  rw [e, e2]
  rfl
theorem rst_last (s : Bs) (j : Nat) (h : s.length ≤ 64 * (j + 1)) (hj : j = nb s.length) : outL (rst s j) = sums s := by
  have e : min (64 * j + 64) s.length = s.length := by omega
  unfold rst
  rw [e, decide_eq_true rfl, hj]
  rfl
theorem xr_rng (a b : Int) : 0 ≤ xr a b ∧ xr a b < 4294967296 := by
  have h : xr a b = IntKind.u32.wrap ((BitVec.ofInt 32 a ^^^ BitVec.ofInt 32 b).toNat : Int) := rfl
  rw [h, IntKind.wrap_u32']
  omega
theorem rst_word (s : Bs) (j k : Nat) (hk : k < 8) : ∃ X : Nat, (rst s j).getD k 0 = (X : Int) ∧ X < 4294967296 := by
  have h : ∃ a b : Int, (rst s j).getD k 0 = xr a b := by
    unfold rst comp
    rw [List.getD_eq_getElem?_getD, List.getElem?_map, List.getElem?_range hk]
    exact ⟨_, _, rfl⟩
  obtain ⟨a, b, h⟩ := h
  have := xr_rng a b
  exact ⟨(xr a b).toNat, by rw [h]; omega, by omega⟩
def bt (h : List Int) (i : Nat) : UInt8 := UInt8.ofNat (byteAt h i).toNat
theorem out_take1 (h : List Int) (i : Nat) (hi : i < 32) : (outL h).take (i + 1) = (outL h).take i ++ [bt h i] := by
  have hl : i < (outL h).length := by simp [outL]; omega
  rw [List.take_succ_eq_append_getElem hl]
  congr 2
  simp [outL, bt]
theorem out_take4 (h : List Int) (k : Nat) (hk : k < 8) : (outL h).take (4 * (k + 1)) = (outL h).take (4 * k) ++ [bt h (4 * k), bt h (4 * k + 1), bt h (4 * k + 2), bt h (4 * k + 3)] := by
  rw [show 4 * (k + 1) = 4 * k + 3 + 1 by omega, out_take1 h _ (by omega), out_take1 h _ (by omega), out_take1 h _ (by omega), out_take1 h _ (by omega)]
  simp only [List.append_assoc, List.cons_append, List.nil_append]
theorem bt_val (h : List Int) (k X : Nat) (hX : h.getD k 0 = (X : Int)) : ((bt h (4 * k)).toNat = X % 256) ∧ ((bt h (4 * k + 1)).toNat = X / 256 % 256) ∧ ((bt h (4 * k + 2)).toNat = X / 65536 % 256) ∧ ((bt h (4 * k + 3)).toNat = X / 16777216 % 256) := by
  have e : ∀ i q : Nat, q < 4 → i = 4 * k + q → byteAt h i = (X : Int) / 2 ^ (8 * q) % 256 := by
    intro i q hq hi
    unfold byteAt
    rw [show i / 4 = k by omega, show i % 4 = q by omega, hX]
  unfold bt
  rw [e (4 * k) 0 (by decide) rfl, e _ 1 (by decide) rfl, e _ 2 (by decide) rfl, e _ 3 (by decide) rfl]
  simp only [UInt8.toNat_ofNat']
  refine ⟨?_, ?_, ?_, ?_⟩ <;> omega
theorem wrap64_2064 (h : Nat) (hh : h ≤ 10000) : wrap64 (h : Int) = (h : Int) := by unfold wrap64; omega
/-- The contract of the reference's compress. -/
def RComp : Prop := ∀ (s : Bs), s.length ≤ 5000 → ∀ a : Nat, a ≤ 5000 → ∀ (H hcap : Nat) (h : List Int), h.length = 8 → ∀ w : World, Wf w H h →
    Calls Tryd.prog 64 #[.slice (some ⟨H, 0, none⟩) 8 hcap, .string (sv s), .int .i64 a] w fun e w' => (∃ g cap, e = .returned (.slice (some ⟨g, 0, none⟩) 8 cap) ∧ Wf w' g (comp h (blk ((s.drop a).take 64)) (min (a + 64) s.length) (decide (min (a + 64) s.length = s.length)))) ∧ Below w.heap.size w w'

set_option maxHeartbeats 4000000 in
set_option maxRecDepth 100000 in
theorem rsum_any (HRC : Hid RComp) (s : Bs) (hs : s.length ≤ 5000) (w : World) : Calls Tryd.prog 48 #[.string (sv s)] w fun e w' => e = .returned (.string (sv (sums s))) ∧ Below w.heap.size w w' := by
  obtain ⟨i0, hi0, hz0, hz1, hz2⟩ := info_parts infoByte
  obtain ⟨n, hn⟩ : ∃ n, s.length = n := ⟨_, rfl⟩
  have hsz : (sv s).size = n := hn
  have HN := Lib.hid hn
  rw [hn] at hs
  clear hn
  go_enter Tryd.func48, Tryd.ntmps48
  go_wp2_with fail
  refine (consts_any _).mono ?_
  rintro e w' ⟨rfl, rfl⟩
  go_upto_region 2 with fail
  obtain ⟨g, hg⟩ : ∃ g, w.heap.size = g := ⟨_, rfl⟩
  have HGS := Lib.hid hg
  rw [hg]
  refine hide_world (X := fun W => Hid (Wf W g startL ∧ Below g w W)) (Lib.hid ⟨?_, (hg ▸ below_self w : Below g w w).alloc (Nat.le_of_eq hg.symm) _⟩) ?_
  · have hb := Blk.new w 58 (wl startL)
    rw [hg] at hb
    exact ⟨fun j hj => (hb.cell j).trans (wl_at _ j hj), fun j _ => hb.frozen j, hb.lt⟩
  intro W HS
  clear hg
  have hc0 : W.cell? ⟨g, 0, none⟩ = some (.int .u32 1779033703) := HS.out.1.1 0 (by decide)
  have hf0 : W.frozen? ⟨g, 0, none⟩ = false := HS.out.1.2.1 0 (by decide)
  obtain ⟨X, hX⟩ : ∃ X, bits .xor .u32 1779033703 16842784 = X := ⟨_, rfl⟩
  go_upto_region 3 with fail
  refine hide_world (X := fun W => Hid (Wf W g (blocks s 0) ∧ Below g w W)) (Lib.hid ⟨?_, HS.out.2.setCell (Nat.le_refl _) _⟩) ?_
  · have := HS.out.1.set 0 (by decide) X
    rw [← hX] at this ⊢
    exact this
  clear HS hc0 hf0 hX W
  intro W HS
  go_wp2_with fail
  refine (HRC.out s (by rw [HN.out]; exact hs) 0 (by omega) g 8 (blocks s 0) (blocks_length s 0) W HS.out.1).mono ?_
  rintro e w' ⟨⟨g1, cap1, rfl, hwf⟩, hbe⟩
  have HK0 : Hid (Wf w' g1 (rst s 0) ∧ Below g w w') := Lib.hid ⟨hwf, HS.out.2.trans (hbe.mono (Nat.le_of_lt HS.out.1.2.2))⟩
  clear hwf hbe HS
  go_wp2_with fail
  go_loopw [3, 4] (fun v i wr => ∃ j g1 cap1 : Nat, j ≤ nb n ∧ v = .slice (some ⟨g1, 0, none⟩) 8 cap1 ∧ i = .int .i64 ((64 * (j + 1) : Nat) : Int) ∧ Hid (Wf wr g1 (rst s j) ∧ Below g w wr)) (fun _ i _ => n - (intOf i).toNat)
  case atStart => exact ⟨0, g1, cap1, Nat.zero_le _, rfl, rfl, HK0⟩
  case round =>
    clear HK0
    obtain ⟨j, g1, cap1, hj, rfl, rfl, HK⟩ := hrel
    have HJ : Hid (j ≤ nb n) := Lib.hid hj
    have HNB : Hid (nb n = (n - 1) / 64) := Lib.hid rfl
    obtain ⟨d, hd⟩ : ∃ d, 64 * (j + 1) = d := ⟨_, rfl⟩
    have HDD : Hid (64 * (j + 1) = d) := Lib.hid hd
    rw [hd]
    clear hj hd
    by_cases hlt : d < n
    · have dl : decide ((d : Int) < (n : Int)) = true := decide_eq_true (by omega)
      have HC := Lib.hid (HRC.out s (by rw [HN.out]; exact hs) d (by omega) g1 cap1 (rst s j) (rst_length s j))
      obtain ⟨d2, hd2⟩ : ∃ e : Nat, d + 64 = e := ⟨_, rfl⟩
      have hdd : (d : Int) + 64 = (d2 : Int) := by omega
      have hdw : wrap64 (d2 : Int) = (d2 : Int) := wrap64_2064 d2 (by omega)
      have HD2 : Hid (64 * (j + 1 + 1) = d2 ∧ j + 1 ≤ nb n ∧ d < d2) := Lib.hid (by have := HDD.out; have := HNB.out; omega)
      have HRS : Hid (comp (rst s j) (blk ((s.drop d).take 64)) (min (d + 64) s.length) (decide (min (d + 64) s.length = s.length)) = rst s (j + 1)) := Lib.hid (by
        rw [rst_next s j (by rw [HDD.out, HN.out]; exact hlt), ← HDD.out]
        rfl)
      clear hd2
      go_wp2_with fail
      refine (HC.out wr HK.out.1).mono ?_
      rintro e w' ⟨⟨g2, cap2, rfl, hwf⟩, hbe⟩
      have HN2 : Hid (Wf w' g2 (rst s (j + 1)) ∧ Below g w w') := Lib.hid ⟨by rw [← HRS.out]; exact hwf, HK.out.2.trans (hbe.mono (by have := HK.out.2.size; have := HGS.out; omega))⟩
      clear hwf hbe HK HC HRS
      go_wp2_with fail
      go_roundw
      case rel => exact ⟨j + 1, g2, cap2, HD2.out.2.1, rfl, by rw [HD2.out.1], HN2⟩
      case measure => simp [intOf]; have := HD2.out.2.2; omega
    · have dl : decide ((d : Int) < (n : Int)) = false := decide_eq_false (by omega)
      have hjn : j = nb n := by have := HDD.out; have := HNB.out; have := HJ.out; omega
      obtain ⟨l, hl⟩ : ∃ l, rst s j = l := ⟨_, rfl⟩
      have HO : Hid (outL l = sums s) := Lib.hid (by rw [← hl]; exact rst_last s j (by rw [HDD.out, HN.out]; omega) (by rw [HN.out]; exact hjn))
      have HWD := Lib.hid (fun k (hk : k < 8) => rst_word s j k hk)
      have HLL : Hid (l.length = 8) := Lib.hid (by rw [← hl]; exact rst_length s j)
      rw [hl] at HK HWD
      clear hl hjn HJ HNB HDD
      obtain ⟨B, hB⟩ : ∃ B, wr.heap.size = B := ⟨_, rfl⟩
      have HBB : Hid (g1 < B ∧ g ≤ B) := Lib.hid (by rw [← hB]; exact ⟨HK.out.1.2.2, by have := HK.out.2.size; have := HGS.out; omega⟩)
      have HK1 : Hid (Wf wr g1 l ∧ Below g w wr ∧ B ≤ wr.heap.size) := Lib.hid ⟨HK.out.1, HK.out.2, Nat.le_of_eq hB.symm⟩
      clear hB HK
      go_wp2_with fail
      go_loopw [5, 6] (fun v i wr => ∃ k : Nat, k ≤ 8 ∧ i = .int .i64 k ∧ Hid (Wf wr g1 l ∧ wr.ownsRow B 5 1 v (4 * k) (bc ((outL l).take (4 * k))) ∧ Below g w wr ∧ B ≤ wr.heap.size)) (fun _ i _ => 8 - (intOf i).toNat)
      case atStart => exact ⟨0, Nat.zero_le _, rfl, Lib.hid ⟨HK1.out.1, ⟨rfl, .inl ⟨rfl, rfl⟩⟩, HK1.out.2.1, HK1.out.2.2⟩⟩
      case round =>
        clear HK1 hlt dl
        obtain ⟨k, hk, rfl, HK⟩ := hrel
        by_cases hlt : k < 8
        · have dl : decide ((k : Int) < 8) = true := decide_eq_true (by omega)
          obtain ⟨X, hX, hXl⟩ := HWD.out k hlt
          have hcell : wr.cell? ⟨g1, k, none⟩ = some (.int .u32 (X : Int)) := (HK.out.1.1 k (by rw [HLL.out]; exact hlt)).trans (by rw [hX])
          obtain ⟨v0, v1, v2, v3⟩ := bt_val l k X hX
          have HT := Lib.hid (out_take4 l k hlt)
          obtain ⟨b0, hb0⟩ : ∃ b, bt l (4 * k) = b := ⟨_, rfl⟩
          obtain ⟨b1, hb1⟩ : ∃ b, bt l (4 * k + 1) = b := ⟨_, rfl⟩
          obtain ⟨b2, hb2⟩ : ∃ b, bt l (4 * k + 2) = b := ⟨_, rfl⟩
          obtain ⟨b3, hb3⟩ : ∃ b, bt l (4 * k + 3) = b := ⟨_, rfl⟩
          rw [hb0] at v0 HT
          rw [hb1] at v1 HT
          rw [hb2] at v2 HT
          rw [hb3] at v3 HT
          have u0 := byte_lt b0
          have u1 := byte_lt b1
          have u2 := byte_lt b2
          have u3 := byte_lt b3
          obtain ⟨q1, hq1⟩ : ∃ q : Nat, X / 256 = q := ⟨_, rfl⟩
          obtain ⟨q2, hq2⟩ : ∃ q : Nat, X / 65536 = q := ⟨_, rfl⟩
          have t0 : (X : Int) % 256 = (b0.toNat : Int) := by omega
          have t1 : (X : Int) / 256 = (q1 : Int) := by omega
          have t2 : (q1 : Int) % 256 = (b1.toNat : Int) := by omega
          have t3 : (X : Int) / 65536 = (q2 : Int) := by omega
          have t4 : (q2 : Int) % 256 = (b2.toNat : Int) := by omega
          have t5 : (X : Int) / 16777216 = (b3.toNat : Int) := by omega
          have s0 : Int.tmod (X : Int) 256 = (b0.toNat : Int) := by rw [Int.tmod_eq_emod_of_nonneg (by omega)]; exact t0
          have s1 : Int.tdiv (X : Int) 256 = (q1 : Int) := by rw [Int.tdiv_eq_ediv_of_nonneg (by omega)]; exact t1
          have s2 : Int.tmod (q1 : Int) 256 = (b1.toNat : Int) := by rw [Int.tmod_eq_emod_of_nonneg (by omega)]; exact t2
          have s3 : Int.tdiv (X : Int) 65536 = (q2 : Int) := by rw [Int.tdiv_eq_ediv_of_nonneg (by omega)]; exact t3
          have s4 : Int.tmod (q2 : Int) 256 = (b2.toNat : Int) := by rw [Int.tmod_eq_emod_of_nonneg (by omega)]; exact t4
          have s5 : Int.tdiv (X : Int) 16777216 = (b3.toNat : Int) := by rw [Int.tdiv_eq_ediv_of_nonneg (by omega)]; exact t5
          have i1 : (k : Int) < 8 := by omega
          clear hX hb0 hb1 hb2 hb3 v0 v1 v2 v3 hq1 hq2
          obtain ⟨c4, hc4⟩ : ∃ c, 4 * k = c := ⟨_, rfl⟩
          have HE : Hid (4 * (k + 1) = c4 + 4 ∧ c4 ≤ 32) := Lib.hid (by omega)
          rw [hc4] at HK HT
          clear hc4
          go_wp2_with (at_builtin; go_loud (refine wpList_append_lies _ rfl (.tmp 36) (.tmp 51) 56 rfl B 5 i0 (.int .u8 0) 1 1 Tryd.underlying56 hi0 hz0 hz1 hz2 rfl (by decide) u5 c4 (bc ((outL l).take c4)) rfl (HK.out.2.1.alloc _) ⟨wr.heap.size, 0, none⟩ 4 4 (bc [b0, b1, b2, b3]) rfl rfl (fun j u hj => row_cell rfl j hj) (bc_one _) (by decide) (by unfold maxLen; have := HE.out; omega) (by have := HE.out; omega) (by have := HK.out.2.2.2; simp; omega) _ rfl ?_); intro g2 cap w1 hown1 hgrow1 hwh hgl)
          have HN2 : Hid (Wf w1 g1 l ∧ w1.ownsRow B 5 1 (.slice (some ⟨g2, 0, none⟩) (c4 + 4) cap) (4 * (k + 1)) (bc ((outL l).take (4 * (k + 1)))) ∧ Below g w w1 ∧ B ≤ w1.heap.size) := Lib.hid (by
            obtain ⟨h1, h2, h3, h4⟩ := HK.out
            have h1' := h1.below (below_alloc wr (.cells (bc [b0, b1, b2, b3]).toArray 5)) h1.2.2
            have h5 := hgrow1.size
            simp at h5
            refine ⟨h1'.only hgrow1 (fun e => ?_), by rw [HT.out, bc_append, HE.out.1]; exact hown1, (h3.alloc (by have := HBB.out.2; omega) _).grown hgrow1 (by have := HBB.out.2; simp; omega) (fun q e => Nat.le_trans HBB.out.2 (h2.lt q e).1), by omega⟩
            have := (h2.lt _ e.symm).1; have := HBB.out.1; omega)
          clear hown1 hgrow1 hwh hgl HK HT
          go_wp2_with fail
          go_roundw
          case rel => exact ⟨k + 1, by omega, by go_num, HN2⟩
          case measure => simp [intOf]; omega
        · obtain rfl : k = 8 := by omega
          have dl : decide (((8 : Nat) : Int) < 8) = false := by decide
          have hconv := back_own HK.out.2.1
          have hall : (outL l).take (4 * 8) = sums s := by rw [← HO.out]; exact List.take_of_length_le (by simp [outL])
          rw [hall] at hconv
          clear hall
          go_wp2_with fail
          go_ret
          exact ⟨rfl, by rw [HGS.out]; exact HK.out.2.2.1⟩
end Go.Proofs.YtfmjankmfddefaaDoor.Dg
