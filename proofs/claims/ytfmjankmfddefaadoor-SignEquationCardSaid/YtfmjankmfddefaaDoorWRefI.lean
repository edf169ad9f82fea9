/- The reference's Int, Num and Text: the same encodings. Conditions: texts of bounded length. -/
import Derived.Test.YtfmjankmfddefaaDoorWRefW
namespace Go.Proofs.YtfmjankmfddefaaDoor.Wr
open Go.RowKit Wm
set_option linter.unusedVariables false

theorem neg_byte (m : Int) (h : 0 ≤ m) (i : Nat) : ((byt (-(m + 1) / 256 ^ i)).toNat : Int) = 255 - ((byt (m / 256 ^ i)).toNat : Int) := by
  rw [byt_toNat, byt_toNat]
  have hp := pow_pos i
  have h1 : -(m + 1) / 256 ^ i = -(m / 256 ^ i + 1) := by
    have hd := Int.mul_ediv_add_emod m (256 ^ i)
    have hm1 := Int.emod_nonneg m (Int.ne_of_gt hp)
    have hm2 := Int.emod_lt_of_pos m hp
    refine (Int.ediv_eq_iff_of_pos hp).2 ⟨?_, ?_⟩
    · rw [Int.neg_mul, Int.add_mul, Int.one_mul, Int.mul_comm]; omega
    · rw [Int.neg_mul, Int.add_mul, Int.one_mul, Int.mul_comm]; omega
  rw [h1]
  have := Int.ediv_nonneg h (Int.le_of_lt hp)
  omega
theorem own_at {w : World} {A : Option Addr} {n : Nat} {l : Bs} {k : Nat} (h : Rd w A n (bc l)) (hk : k < n) : ∃ ad x, A = some ad ∧ l[k]? = some x ∧ w.cell? (ad.add k) = some (.int .u8 (x.toNat : Int)) := by
  obtain ⟨ad, u, e, _, hx, hc⟩ := h.at_ hk
  rw [bc, List.getElem?_map] at hx
  obtain ⟨x, hx2, rfl⟩ := Option.map_eq_some_iff.1 hx
  exact ⟨ad, x, e, hx2, hc⟩
theorem be_get (k j : Nat) (v : Int) (h : j < k) : (be k v)[j]? = some (byt (v / 256 ^ (k - 1 - j))) := by
  have hs := be_snoc k j v h
  have hl : ((be k v).take j).length = j := by rw [List.length_take, be_length]; omega
  have : ((be k v).take (j + 1))[j]? = some (byt (v / 256 ^ (k - 1 - j))) := by
    rw [hs, List.getElem?_append_right (by omega), hl]; simp
  rwa [List.getElem?_take_of_lt (by omega)] at this

set_option maxHeartbeats 2000000 in
set_option maxRecDepth 100000 in
theorem rf_int_pos (n : Int) (h0 : 0 ≤ n) (hn : J64 n) (w : World) : Calls Tryd.prog 52 #[.int .i64 n] w fun e w' => e = .returned (.string (sv (encI n))) ∧ Below w.heap.size w w' := by
  obtain ⟨i0, hi0, hz0, hz1, hz2⟩ := info_parts infoByte
  obtain ⟨m, rfl⟩ := Int.eq_ofNat_of_zero_le h0
  have hm : m ≤ 9223372036854775807 := by unfold J64 at hn; omega
  have C1 := Lib.hid (digits_any m (by omega) w)
  have hmag : kOf (m : Int) = nby m := by unfold kOf mag; rw [if_neg (by omega)]; rfl
  have hk := kOf_le (m : Int)
  have hE : encI (m : Int) = UInt8.ofNat (128 + nby m) :: be (nby m) m := by unfold encI headN; rw [if_neg (by omega), hmag]
  have hH : ((128 + nby m : Nat) : Int) = ((UInt8.ofNat (128 + nby m)).toNat : Int) := by rw [UInt8.toNat_ofNat']; omega
  have hkm : nby m ≤ 8 := by omega
  have HE := Lib.hid hE
  have HH := Lib.hid hH
  have d0 : decide ((0 : Int) ≤ (m : Int)) = true := decide_eq_true (by omega)
  clear hE hH hmag hn
  go_enter Tryd.func52, Tryd.ntmps52
  go_wp2_with fail
  refine C1.out.mono ?_
  rintro e w1 ⟨v, rfl, ho, hb⟩
  obtain ⟨A, c, rfl, hrd⟩ := own_rd ho
  have hs1 := hb.size
  have HB := Lib.hid hb
  have hrd2 := hrd.below (below_alloc w1 (.cells #[.int .u8 (128 + (nby m : Int))] 5))
  clear ho hb hrd C1
  generalize UInt8.ofNat (128 + nby m) = hd at *
  generalize nby m = K at *
  go_wp2_with (first
    | (at_builtin; go_loud (refine wpList_append_rd _ rfl (.tmp 16) (.tmp 17) 56 rfl w.heap.size 5 i0 (.int .u8 0) 1 Tryd.underlying56 hi0 hz0 hz1 hz2 rfl _ 1 _ rfl (own_new w1 w.heap.size 5 (.int .u8 (128 + (K : Int))) hs1) A K c (bc (be K m)) rfl hrd2 (bc_one _) (by unfold maxLen; omega) (by omega) (by simp; omega) ?_); intro v2 w2 hown2 hgrow2; have hown3 : w2.ownsRow w.heap.size 5 1 v2 (1 + K) (bc (hd :: be K m)) := (by rw [show bc (hd :: be K m) = [Value.int .u8 (hd.toNat : Int)] ++ bc (be K m) from rfl, ← HH.out]; exact hown2); obtain ⟨A2, c2, rfl, hconv⟩ := own_conv hown3; have HB2 : Hid (Below w.heap.size w w2) := Lib.hid ((HB.out.alloc hs1 _).grown hgrow2 (by simp; omega) (fun k e => by have e' : w1.heap.size = k := Option.some.inj e; omega)); clear hown2 hgrow2 hown3))
  go_ret
  exact ⟨ret_s (by rw [HE.out]), HB2.out⟩

set_option maxHeartbeats 4000000 in
set_option maxRecDepth 100000 in
theorem rf_int_neg (n : Int) (h0 : n < 0) (hn : J64 n) (w : World) : Calls Tryd.prog 52 #[.int .i64 n] w fun e w' => e = .returned (.string (sv (encI n))) ∧ Below w.heap.size w w' := by
  obtain ⟨i0, hi0, hz0, hz1, hz2⟩ := info_parts infoByte
  obtain ⟨m, hm⟩ : ∃ m : Nat, n = -((m : Int) + 1) := ⟨(-(n + 1)).toNat, by omega⟩
  have hm63 : m ≤ 9223372036854775807 := by unfold J64 at hn; omega
  have C1 := Lib.hid (digits_any m (by omega) w)
  have hmag : kOf n = nby m := by unfold kOf mag; rw [if_pos h0]; congr 1; omega
  have hk := kOf_le n
  have hE : encI n = UInt8.ofNat (127 - nby m) :: be (nby m) n := by unfold encI headN; rw [if_pos h0, hmag]
  have hkm : nby m ≤ 8 := by omega
  have hH : (127 - (nby m : Int)) = ((UInt8.ofNat (127 - nby m)).toNat : Int) := by rw [UInt8.toNat_ofNat']; omega
  have hB : ∀ j, j < nby m → ∀ x, (be (nby m) m)[j]? = some x → (255 - (x.toNat : Int)) = ((byt (n / 256 ^ (nby m - 1 - j))).toNat : Int) := fun j hj x hx => by
    rw [be_get _ _ _ hj] at hx
    obtain rfl := Option.some.inj hx
    rw [hm, neg_byte _ (by omega)]
  have HE := Lib.hid hE
  have HH := Lib.hid hH
  have HBY := Lib.hid hB
  have d0 : decide ((0 : Int) ≤ n) = false := decide_eq_false (by omega)
  have hneg : -(n + 1) = (m : Int) := by omega
  have hn64 : -9223372036854775808 ≤ n := hn.1
  clear hE hH hmag hn hk hB hm
  go_enter Tryd.func52, Tryd.ntmps52
  go_wp2_with fail
  refine C1.out.mono ?_
  rintro e w1 ⟨v, rfl, ho, hb⟩
  obtain ⟨A, c, rfl, hrd⟩ := own_rd ho
  have hs1 := hb.size
  have HB := Lib.hid hb
  have HRD := Lib.hid hrd
  clear ho hb hrd C1 hneg
  generalize UInt8.ofNat (127 - nby m) = hd at *
  generalize nby m = K at *
  go_wp2_with fail
  have H0 : Hid ((w1.alloc (.cells #[.int .u8 (127 - (K : Int))] 5)).ownsRow w1.heap.size 5 1 (.slice (some ⟨w1.heap.size, 0, none⟩) 1 1) (1 + 0) (bc (hd :: (be K n).take 0))) := Lib.hid (by
    have := own_new w1 w1.heap.size 5 (.int .u8 (127 - (K : Int))) (Nat.le_refl _)
    rw [HH.out] at this ⊢
    simpa [bc] using this)
  go_loopw [5, 6] (fun v i wr => ∃ j : Nat, j ≤ K ∧ i = .int .i64 j ∧ wr.ownsRow w1.heap.size 5 1 v (1 + j) (bc (hd :: (be K n).take j)) ∧ Below w1.heap.size w1 wr) (fun _ i _ => K - (intOf i).toNat)
  case atStart => exact ⟨0, Nat.zero_le _, rfl, H0.out, below_alloc _ _⟩
  case round =>
    obtain ⟨j, hj, rfl, hown, hbel⟩ := hrel
    have hsz := hbel.size
    by_cases hlt : j < K
    · obtain ⟨ad, x, e, hx, hc⟩ := own_at (HRD.out.below hbel) hlt
      have hby := HBY.out j hlt x hx
      have hsn := be_snoc K j n hlt
      have hxl := x.toNat_lt
      have HB2 := Lib.hid hby
      have HS := Lib.hid hsn
      subst e
      clear hx hby hsn
      generalize x.toNat = X at *
      go_wp2_with (first
        | (at_builtin; go_loud (refine wpList_append_own _ rfl (.tmp 36) (.tmp 42) 56 rfl w1.heap.size 5 i0 (.int .u8 0) 1 1 Tryd.underlying56 hi0 hz0 hz1 hz2 rfl (by decide) _ _ _ rfl (hown.alloc _) ⟨wr.heap.size, 0, none⟩ 1 1 [.int .u8 (255 - (X : Int))] rfl rfl (fun j u hj => one_cell rfl j hj) (one_byte _) (by unfold maxLen; omega) (by omega) (by simp; omega) ?_); intro v2 w2 hown2 hgrow2 _))
      have hb2 : Below w1.heap.size w1 w2 := (hbel.alloc hsz _).grown hgrow2 (by simp; omega) (fun k e => (hown.lt k e).1)
      have hown3 : w2.ownsRow w1.heap.size 5 1 v2 (1 + (j + 1)) (bc (hd :: (be K n).take (j + 1))) := by
        rw [HS.out]
        have := hown2
        rw [HB2.out, show [Value.int .u8 ((byt (n / 256 ^ (K - 1 - j))).toNat : Int)] = bc [byt (n / 256 ^ (K - 1 - j))] from rfl, ← bc_append] at this
        exact this
      have H3 := Lib.hid hown3
      have HBB := Lib.hid hb2
      clear hown hbel hown2 hgrow2 hown3 hb2
      go_wp2_with fail
      go_roundw
      case rel => exact ⟨j + 1, by omega, by go_num, H3.out, HBB.out⟩
      case measure => simp [intOf]; omega
    · obtain rfl : j = K := by omega
      have hl := be_length j n
      rw [List.take_of_length_le (by omega)] at hown
      obtain ⟨A2, c2, rfl, hconv⟩ := own_conv hown
      have HBB : Hid (Below w.heap.size w wr) := Lib.hid (below_trans HB.out hbel)
      clear hown hbel hl
      go_wp2_with fail
      go_ret
      exact ⟨ret_s (by rw [HE.out]), HBB.out⟩
theorem rf_int (n : Int) (hn : J64 n) (w : World) : Calls Tryd.prog 52 #[.int .i64 n] w fun e w' => e = .returned (.string (sv (encI n))) ∧ Below w.heap.size w w' := by
  by_cases h : 0 ≤ n
  · exact rf_int_pos n h hn w
  · exact rf_int_neg n (by omega) hn w
theorem rf_num_neg (n : Int) (h : n < 0) (w : World) : Calls Tryd.prog 37 #[.int .i64 n] w fun e w' => e = .returned (.string (sv [])) ∧ Below w.heap.size w w' := by
  have d1 : decide (n < 0) = true := decide_eq_true h
  go_enter Tryd.func37, Tryd.ntmps37
  go_wp2_with fail
  go_ret
  exact ⟨rfl, Below.refl _ _⟩
theorem rf_num_pos (n : Int) (h : 0 ≤ n) (hn : J64 n) (w : World) : Calls Tryd.prog 37 #[.int .i64 n] w fun e w' => e = .returned (.string (sv (encI n))) ∧ Below w.heap.size w w' := by
  have d1 : decide (n < 0) = false := decide_eq_false (by omega)
  go_enter Tryd.func37, Tryd.ntmps37
  go_wp2_with fail
  refine (rf_int n hn _).mono ?_
  rintro e w' ⟨rfl, hb⟩
  go_wp2_with fail
  go_ret
  exact ⟨rfl, hb⟩
end Go.Proofs.YtfmjankmfddefaaDoor.Wr

namespace Go.Proofs.YtfmjankmfddefaaDoor.Wr
open Go.RowKit Wm
set_option linter.unusedVariables false

theorem esc_take (s : Bs) (k : Nat) (x : UInt8) (h : s[k]? = some x) : esc (s.take (k + 1)) = esc (s.take k) ++ (if x = 0 then [0, 255] else [x]) := by
  obtain ⟨hk, rfl⟩ := List.getElem?_eq_some_iff.1 h
  rw [List.take_succ_eq_append_getElem hk, esc_append]
  congr 1
theorem two_cells {w : World} {g : Nat} {t : TypeId} (hg : w.heap.size = g) (a b : Value) (j : Nat) (u : Value) (h : [a, b][j]? = some u) : (w.alloc (.cells #[a, b] t)).cell? ((⟨g, 0, none⟩ : Addr).add j) = some u := by
  subst hg
  match j, h with
  | 0, h => simp at h; subst h; simp [Addr.add]
  | 1, h => simp at h; subst h; simp [Addr.add]
theorem sv_getD (s : Bs) (k : Nat) (h : k < (sv s).size) : s[k]? = some ((sv s)[k]) := by
  rw [sv_get]
  exact List.getElem?_eq_getElem _

set_option maxHeartbeats 4000000 in
set_option maxRecDepth 100000 in
theorem rf_text (s : Bs) (hs : s.length ≤ 1048576) (w : World) : Calls Tryd.prog 30 #[.string (sv s)] w fun e w' => e = .returned (.string (sv (encT s))) ∧ Below w.heap.size w w' := by
  obtain ⟨i0, hi0, hz0, hz1, hz2⟩ := info_parts infoByte
  have hsz : (sv s).size = s.length := rfl
  have hget := fun k (h : k < (sv s).size) => esc_take s k _ (sv_getD s k h)
  have hel := fun k => (esc_length (s.take k)).2
  have HG := Lib.hid hget
  have HSZ := Lib.hid hsz
  have HEL := Lib.hid hel
  have hS : (sv s).size ≤ 1048576 := by omega
  clear hget hsz hel
  generalize sv s = S at *
  go_enter Tryd.func30, Tryd.ntmps30
  go_wp2_with fail
  go_loopw [3, 4] (fun v i wr => ∃ k : Nat, k ≤ S.size ∧ i = .int .i64 k ∧ wr.ownsRow w.heap.size 5 1 v (esc (s.take k)).length (bc (esc (s.take k))) ∧ Below w.heap.size w wr) (fun _ i _ => S.size - (intOf i).toNat)
  case atStart => exact ⟨0, Nat.zero_le _, rfl, ⟨rfl, .inl ⟨rfl, rfl⟩⟩, Below.refl _ _⟩
  case round =>
    obtain ⟨k, hk, rfl, hown, hbel⟩ := hrel
    have hsz := hbel.size
    have hle := HEL.out k
    have hlk : (s.take k).length ≤ s.length := List.length_take_le' _ _
    have hEl : (esc (s.take k)).length ≤ 2097152 := by omega
    by_cases hlt : k < S.size
    · have hsn := HG.out k hlt
      have HSN := Lib.hid hsn
      have hx256 := (S[k]).toNat_lt
      clear hsn hle hlk
      generalize esc (s.take k) = E at *
      by_cases hx : S[k] = 0
      · have e0 : ((S[k].toNat : Int) == 0) = true := by rw [hx]; rfl
        have hsn2 : esc (s.take (k + 1)) = E ++ [0] ++ [255] := by rw [HSN.out, if_pos hx]; simp
        have HS2 := Lib.hid hsn2
        have hx0 : S[k].toNat = 0 := by rw [hx]; rfl
        clear hsn2 hx
        go_wp2_with (first
          | (at_builtin; go_loud (refine wpList_append_own _ rfl (.tmp 11) (.tmp 15) 56 rfl w.heap.size 5 i0 (.int .u8 0) 1 1 Tryd.underlying56 hi0 hz0 hz1 hz2 rfl (by decide) _ _ _ rfl (hown.alloc _) ⟨wr.heap.size, 0, none⟩ 1 1 [.int .u8 0] rfl rfl (fun j u hj => one_cell rfl j hj) (one_byte _) (by unfold maxLen; omega) (by omega) (by simp; omega) ?_); intro v2 w2 hown2 hgrow2 _; have hb2 : Below w.heap.size w w2 := (hbel.alloc hsz _).grown hgrow2 (by simp; omega) (fun k e => (hown.lt k e).1); have hs2 := hb2.size)
          | (at_builtin; go_loud (refine wpList_append_own _ rfl (.tmp 21) (.tmp 22) 56 rfl w.heap.size 5 i0 (.int .u8 0) 1 1 Tryd.underlying56 hi0 hz0 hz1 hz2 rfl (by decide) _ _ _ rfl (hown2.alloc _) ⟨w2.heap.size, 0, none⟩ 1 1 [.int .u8 255] rfl rfl (fun j u hj => one_cell rfl j hj) (one_byte _) (by unfold maxLen; omega) (by omega) (by simp; omega) ?_); intro v3 w3 hown3 hgrow3 _; have hb3 : Below w.heap.size w w3 := (hb2.alloc hs2 _).grown hgrow3 (by simp; omega) (fun k e => (hown2.lt k e).1)))
        have HO : Hid (w3.ownsRow w.heap.size 5 1 v3 (esc (s.take (k + 1))).length (bc (esc (s.take (k + 1))))) := Lib.hid (by
          rw [HS2.out, bc_append, bc_append]
          simpa [bc] using hown3)
        have HBB := Lib.hid hb3
        clear hown hbel hown2 hgrow2 hown3 hgrow3 hb2 hb3
        go_roundw
        case rel => exact ⟨k + 1, by omega, by go_num, HO.out, HBB.out⟩
        case measure => simp [intOf]; omega
      · have hxn : S[k].toNat ≠ 0 := fun e => hx (UInt8.toNat_inj.1 e)
        have e0 : ((S[k].toNat : Int) == 0) = false := by simp; omega
        have hsn2 : esc (s.take (k + 1)) = E ++ [S[k]] := by rw [HSN.out, if_neg hx]
        have HS2 := Lib.hid hsn2
        clear hsn2 hx hxn
        go_wp2_with (first
          | (at_builtin; go_loud (refine wpList_append_own _ rfl (.tmp 11) (.tmp 15) 56 rfl w.heap.size 5 i0 (.int .u8 0) 1 1 Tryd.underlying56 hi0 hz0 hz1 hz2 rfl (by decide) _ _ _ rfl (hown.alloc _) ⟨wr.heap.size, 0, none⟩ 1 1 [.int .u8 (S[k].toNat : Int)] rfl rfl (fun j u hj => one_cell rfl j hj) (one_byte _) (by unfold maxLen; omega) (by omega) (by simp; omega) ?_); intro v2 w2 hown2 hgrow2 _; have hb2 : Below w.heap.size w w2 := (hbel.alloc hsz _).grown hgrow2 (by simp; omega) (fun k e => (hown.lt k e).1)))
        have HO : Hid (w2.ownsRow w.heap.size 5 1 v2 (esc (s.take (k + 1))).length (bc (esc (s.take (k + 1))))) := Lib.hid (by
          rw [HS2.out, bc_append]
          simpa [bc] using hown2)
        have HBB := Lib.hid hb2
        clear hown hbel hown2 hgrow2 hb2
        go_roundw
        case rel => exact ⟨k + 1, by omega, by go_num, HO.out, HBB.out⟩
        case measure => simp [intOf]; omega
    · obtain rfl : k = S.size := by omega
      rw [List.take_of_length_le (by have := HSZ.out; omega)] at hown hEl
      have he : encT s = esc s ++ [0, 1] := rfl
      have HE := Lib.hid he
      clear he hle hlk
      generalize esc s = E at *
      go_wp2_with (first
        | (at_builtin; go_loud (refine wpList_append_own _ rfl (.tmp 24) (.tmp 25) 56 rfl w.heap.size 5 i0 (.int .u8 0) 1 1 Tryd.underlying56 hi0 hz0 hz1 hz2 rfl (by decide) _ _ _ rfl (hown.alloc _) ⟨wr.heap.size, 0, none⟩ 2 2 [.int .u8 0, .int .u8 1] rfl rfl (fun j u hj => two_cells rfl _ _ j u hj) (by intro u hu; simp at hu; rcases hu with rfl | rfl <;> rfl) (by unfold maxLen; omega) (by omega) (by simp; omega) ?_); intro v2 w2 hown2 hgrow2 _; have hb2 : Below w.heap.size w w2 := (hbel.alloc hsz _).grown hgrow2 (by simp; omega) (fun k e => (hown.lt k e).1); have hown3 : w2.ownsRow w.heap.size 5 1 v2 (E.length + 2) (bc (E ++ [0, 1])) := (by rw [bc_append]; exact hown2); obtain ⟨A2, c2, rfl, hconv⟩ := own_conv hown3; have HBB := Lib.hid hb2; clear hown hbel hown2 hgrow2 hown3 hb2))
      go_ret
      exact ⟨ret_s (by rw [HE.out]), HBB.out⟩

end Go.Proofs.YtfmjankmfddefaaDoor.Wr
