/- The reference's Text, Nums and Texts: the same encodings. Conditions: lists and texts of bounded length. -/
import Derived.Test.YtocbodjmdgoaiaaDoorWRefI
namespace Go.Proofs.YtocbodjmdgoaiaaDoor
open Go.RowKit Wm
set_option linter.unusedVariables false

theorem esc_take (s : Bs) (k : Nat) (x : UInt8) (h : s[k]? = some x) : esc (s.take (k + 1)) = esc (s.take k) ++ (if x = 0 then [0, 255] else [x]) := by
  obtain ⟨hk, rfl⟩ := List.getElem?_eq_some_iff.1 h
  rw [List.take_succ_eq_append_getElem hk, esc_append]
  congr 1
theorem two_cells {w : World} {g : Nat} {t : TypeId} (hg : w.heap.size = g) (a b : Value) (j : Nat) (u : Value) (h : [a, b][j]? = some u) : (w.alloc (.cells #[a, b] t)).cell? ((⟨g, 0, none⟩ : Addr).add j) = some u := by
  subst hg
  match j, h with
  | 0, h => simp at h; subst h; simp [Addr.add]
  | 1, h => simp at h; subst h; simp [Addr.add]
theorem sv_getD (s : Bs) (k : Nat) (h : k < (sv s).size) : s[k]? = some ((sv s)[k]) := by
  rw [sv_get]
  exact List.getElem?_eq_getElem _

set_option maxHeartbeats 4000000 in
set_option maxRecDepth 100000 in
theorem rf_text (s : Bs) (hs : s.length ≤ 1048576) (w : World) : Calls Tryd.prog 15 #[.string (sv s)] w fun e w' => e = .returned (.string (sv (encT s))) ∧ Below w.heap.size w w' := by
  obtain ⟨i0, hi0, hz0, hz1, hz2⟩ := info_parts infoByte
  have hsz : (sv s).size = s.length := rfl
  have hget := fun k (h : k < (sv s).size) => esc_take s k _ (sv_getD s k h)
  have hel := fun k => (esc_length (s.take k)).2
  have HG := Lib.hid hget
  have HSZ := Lib.hid hsz
  have HEL := Lib.hid hel
  have hS : (sv s).size ≤ 1048576 := by omega
  clear hget hsz hel
  generalize sv s = S at *
  go_enter Tryd.func15, Tryd.ntmps15
  go_wp2_with fail
  go_loopw [3, 4] (fun v i wr => ∃ k : Nat, k ≤ S.size ∧ i = .int .i64 k ∧ wr.ownsRow w.heap.size 5 1 v (esc (s.take k)).length (bc (esc (s.take k))) ∧ Below w.heap.size w wr) (fun _ i _ => S.size - (intOf i).toNat)
  case atStart => exact ⟨0, Nat.zero_le _, rfl, ⟨rfl, .inl ⟨rfl, rfl⟩⟩, Below.refl _ _⟩
  case round =>
    obtain ⟨k, hk, rfl, hown, hbel⟩ := hrel
    have hsz := hbel.size
    have hle := HEL.out k
    have hlk : (s.take k).length ≤ s.length := List.length_take_le' _ _
    have hEl : (esc (s.take k)).length ≤ 2097152 := by omega
    by_cases hlt : k < S.size
    · have hsn := HG.out k hlt
      have HSN := Lib.hid hsn
      have hx256 := (S[k]).toNat_lt
      clear hsn hle hlk
      generalize esc (s.take k) = E at *
      by_cases hx : S[k] = 0
      · have e0 : ((S[k].toNat : Int) == 0) = true := by rw [hx]; rfl
        have hsn2 : esc (s.take (k + 1)) = E ++ [0] ++ [255] := by rw [HSN.out, if_pos hx]; simp
        have HS2 := Lib.hid hsn2
        have hx0 : S[k].toNat = 0 := by rw [hx]; rfl
        clear hsn2 hx
        go_wp2_with (first
          | (at_builtin; go_loud (refine wpList_append_own _ rfl (.tmp 11) (.tmp 15) 34 rfl w.heap.size 5 i0 (.int .u8 0) 1 1 Tryd.underlying34 hi0 hz0 hz1 hz2 rfl (by decide) _ _ _ rfl (hown.alloc _) ⟨wr.heap.size, 0, none⟩ 1 1 [.int .u8 0] rfl rfl (fun j u hj => one_cell rfl j hj) (one_byte _) (by unfold maxLen; omega) (by omega) (by simp; omega) ?_); intro v2 w2 hown2 hgrow2 _; have hb2 : Below w.heap.size w w2 := (hbel.alloc hsz _).grown hgrow2 (by simp; omega) (fun k e => (hown.lt k e).1); have hs2 := hb2.size)
          | (at_builtin; go_loud (refine wpList_append_own _ rfl (.tmp 21) (.tmp 22) 34 rfl w.heap.size 5 i0 (.int .u8 0) 1 1 Tryd.underlying34 hi0 hz0 hz1 hz2 rfl (by decide) _ _ _ rfl (hown2.alloc _) ⟨w2.heap.size, 0, none⟩ 1 1 [.int .u8 255] rfl rfl (fun j u hj => one_cell rfl j hj) (one_byte _) (by unfold maxLen; omega) (by omega) (by simp; omega) ?_); intro v3 w3 hown3 hgrow3 _; have hb3 : Below w.heap.size w w3 := (hb2.alloc hs2 _).grown hgrow3 (by simp; omega) (fun k e => (hown2.lt k e).1)))
        have HO : Hid (w3.ownsRow w.heap.size 5 1 v3 (esc (s.take (k + 1))).length (bc (esc (s.take (k + 1))))) := Lib.hid (by
          rw [HS2.out, bc_append, bc_append]
          simpa [bc] using hown3)
        have HBB := Lib.hid hb3
        clear hown hbel hown2 hgrow2 hown3 hgrow3 hb2 hb3
        go_roundw
        case rel => exact ⟨k + 1, by omega, by go_num, HO.out, HBB.out⟩
        case measure => simp [intOf]; omega
      · have hxn : S[k].toNat ≠ 0 := fun e => hx (UInt8.toNat_inj.1 e)
        have e0 : ((S[k].toNat : Int) == 0) = false := by simp; omega
        have hsn2 : esc (s.take (k + 1)) = E ++ [S[k]] := by rw [HSN.out, if_neg hx]
        have HS2 := Lib.hid hsn2
        clear hsn2 hx hxn
        go_wp2_with (first
          | (at_builtin; go_loud (refine wpList_append_own _ rfl (.tmp 11) (.tmp 15) 34 rfl w.heap.size 5 i0 (.int .u8 0) 1 1 Tryd.underlying34 hi0 hz0 hz1 hz2 rfl (by decide) _ _ _ rfl (hown.alloc _) ⟨wr.heap.size, 0, none⟩ 1 1 [.int .u8 (S[k].toNat : Int)] rfl rfl (fun j u hj => one_cell rfl j hj) (one_byte _) (by unfold maxLen; omega) (by omega) (by simp; omega) ?_); intro v2 w2 hown2 hgrow2 _; have hb2 : Below w.heap.size w w2 := (hbel.alloc hsz _).grown hgrow2 (by simp; omega) (fun k e => (hown.lt k e).1)))
        have HO : Hid (w2.ownsRow w.heap.size 5 1 v2 (esc (s.take (k + 1))).length (bc (esc (s.take (k + 1))))) := Lib.hid (by
          rw [HS2.out, bc_append]
          simpa [bc] using hown2)
        have HBB := Lib.hid hb2
        clear hown hbel hown2 hgrow2 hb2
        go_roundw
        case rel => exact ⟨k + 1, by omega, by go_num, HO.out, HBB.out⟩
        case measure => simp [intOf]; omega
    · obtain rfl : k = S.size := by omega
      rw [List.take_of_length_le (by have := HSZ.out; omega)] at hown hEl
      have he : encT s = esc s ++ [0, 1] := rfl
      have HE := Lib.hid he
      clear he hle hlk
      generalize esc s = E at *
      go_wp2_with (first
        | (at_builtin; go_loud (refine wpList_append_own _ rfl (.tmp 24) (.tmp 25) 34 rfl w.heap.size 5 i0 (.int .u8 0) 1 1 Tryd.underlying34 hi0 hz0 hz1 hz2 rfl (by decide) _ _ _ rfl (hown.alloc _) ⟨wr.heap.size, 0, none⟩ 2 2 [.int .u8 0, .int .u8 1] rfl rfl (fun j u hj => two_cells rfl _ _ j u hj) (by intro u hu; simp at hu; rcases hu with rfl | rfl <;> rfl) (by unfold maxLen; omega) (by omega) (by simp; omega) ?_); intro v2 w2 hown2 hgrow2 _; have hb2 : Below w.heap.size w w2 := (hbel.alloc hsz _).grown hgrow2 (by simp; omega) (fun k e => (hown.lt k e).1); have hown3 : w2.ownsRow w.heap.size 5 1 v2 (E.length + 2) (bc (E ++ [0, 1])) := (by rw [bc_append]; exact hown2); obtain ⟨A2, c2, rfl, hconv⟩ := own_conv hown3; have HBB := Lib.hid hb2; clear hown hbel hown2 hgrow2 hown3 hb2))
      go_ret
      exact ⟨ret_s (by rw [HE.out]), HBB.out⟩

set_option maxHeartbeats 2000000 in
set_option maxRecDepth 100000 in
theorem rf_nums {A : Option Addr} {n c : Nat} {zs : List Int} {w : World} (hr : Rd w A n (iv zs)) (hn : n ≤ 1048576) (hz : ∀ z ∈ zs, J64 z) :
    Calls Tryd.prog 17 #[.slice A n c] w fun e w' => e = .returned (.string (sv (encL encI zs))) ∧ Below w.heap.size w w' := by
  have hlen : zs.length = n := by simpa [iv] using hr.1
  have hal : ∀ k, (pre encI (zs.take k)).length ≤ 20000000 := fun k => by
    have h1 := pre_le encI (zs.take k) 9 (fun x hx => encI_le x)
    have h2 : (zs.take k).length ≤ zs.length := List.length_take_le' _ _
    omega
  have HR := Lib.hid hr
  have HL := Lib.hid hlen
  have HZ := Lib.hid hz
  have HAL := Lib.hid hal
  clear hr hlen hz hal
  go_enter Tryd.func17, Tryd.ntmps17
  go_wp2_with fail
  go_loopw [3, 4] (fun s i wr => ∃ k : Nat, k ≤ n ∧ i = .int .i64 k ∧ s = .string (sv (pre encI (zs.take k))) ∧ Below w.heap.size w wr) (fun _ i _ => n - (intOf i).toNat)
  case atStart => exact ⟨0, Nat.zero_le _, rfl, rfl, Below.refl _ _⟩
  case round =>
    obtain ⟨k, hk, rfl, rfl, hbel⟩ := hrel
    have HBE := Lib.hid hbel
    clear hbel
    by_cases hlt : k < n
    · obtain ⟨ad, u, e, _, hx, hc⟩ := (HR.out.below HBE.out).at_ hlt
      obtain ⟨z, hz, rfl⟩ : ∃ z, zs[k]? = some z ∧ u = .int .i64 z := by
        rw [iv, List.getElem?_map] at hx
        obtain ⟨z, hz, rfl⟩ := Option.map_eq_some_iff.1 hx
        exact ⟨z, hz, rfl⟩
      subst e
      have hJ := HZ.out z (List.mem_of_getElem? hz)
      have hp := pre_take encI zs k z hz
      have hle := HAL.out k
      have hel : (encI z).length ≤ 9 := encI_le z
      have hc1 : sv (pre encI (zs.take k)) ++ (⟨#[1]⟩ : ByteArray) = sv (pre encI (zs.take k) ++ [1]) := sv_append _ [1]
      have hc2 : sv (pre encI (zs.take k) ++ [1]) ++ sv (encI z) = sv (pre encI (zs.take k) ++ [1] ++ encI z) := sv_append _ _
      have hz1 : (sv (pre encI (zs.take k))).size ≤ 20000000 := hle
      have hz2 : (sv (encI z)).size ≤ 9 := hel
      have C1 := Lib.hid (fun W => rf_int z hJ W)
      have HP := Lib.hid hp
      rw [← hc1] at hc2
      have HC := Lib.hid hc2
      clear hx hz hJ hp hle hel hc1 hc2
      generalize sv (pre encI (zs.take k)) = S at *
      generalize sv (encI z) = E at *
      go_wp2_with fail
      refine (C1.out _).mono ?_
      rintro e w1 ⟨rfl, hb⟩
      have HB := Lib.hid (HBE.out.trans (hb.mono HBE.out.size))
      clear hb
      go_wp2_with fail
      go_roundw
      case rel => exact ⟨k + 1, by omega, by go_num, by rw [HP.out, ← HC.out], HB.out⟩
      case measure => simp [intOf]; omega
    · obtain rfl : k = n := by omega
      have hle := HAL.out k
      rw [List.take_of_length_le (by have := HL.out; omega)] at hle ⊢
      have hc1 : sv (pre encI zs) ++ (⟨#[0]⟩ : ByteArray) = sv (encL encI zs) := sv_append _ [0]
      have HC := Lib.hid hc1
      have hz1 : (sv (pre encI zs)).size ≤ 20000000 := hle
      clear hc1 hle
      generalize sv (pre encI zs) = S at *
      go_wp2_with fail
      go_ret
      exact ⟨ret_s (by rw [← HC.out]), HBE.out⟩

set_option maxHeartbeats 2000000 in
set_option maxRecDepth 100000 in
theorem rf_texts {A : Option Addr} {n c : Nat} {zs : List Bs} {w : World} (hr : Rd w A n (tv zs)) (hn : n ≤ 1048576) (hz : ∀ z ∈ zs, z.length ≤ 1000) :
    Calls Tryd.prog 19 #[.slice A n c] w fun e w' => e = .returned (.string (sv (encL encT zs))) ∧ Below w.heap.size w w' := by
  have hlen : zs.length = n := by simpa [tv] using hr.1
  have hal : ∀ k, (pre encT (zs.take k)).length ≤ 2200000000 := fun k => by
    have h1 := pre_le encT (zs.take k) 2002 (fun x hx => by have := encT_le x; have := hz x (List.mem_of_mem_take hx); omega)
    have h2 : (zs.take k).length ≤ zs.length := List.length_take_le' _ _
    omega
  have HR := Lib.hid hr
  have HL := Lib.hid hlen
  have HZ := Lib.hid hz
  have HAL := Lib.hid hal
  clear hr hlen hz hal
  go_enter Tryd.func19, Tryd.ntmps19
  go_wp2_with fail
  go_loopw [3, 4] (fun s i wr => ∃ k : Nat, k ≤ n ∧ i = .int .i64 k ∧ s = .string (sv (pre encT (zs.take k))) ∧ Below w.heap.size w wr) (fun _ i _ => n - (intOf i).toNat)
  case atStart => exact ⟨0, Nat.zero_le _, rfl, rfl, Below.refl _ _⟩
  case round =>
    obtain ⟨k, hk, rfl, rfl, hbel⟩ := hrel
    have HBE := Lib.hid hbel
    clear hbel
    by_cases hlt : k < n
    · obtain ⟨ad, u, e, _, hx, hc⟩ := (HR.out.below HBE.out).at_ hlt
      obtain ⟨z, hz, rfl⟩ : ∃ z, zs[k]? = some z ∧ u = .string (sv z) := by
        rw [tv, List.getElem?_map] at hx
        obtain ⟨z, hz, rfl⟩ := Option.map_eq_some_iff.1 hx
        exact ⟨z, hz, rfl⟩
      subst e
      have hJ := HZ.out z (List.mem_of_getElem? hz)
      have hp := pre_take encT zs k z hz
      have hle := HAL.out k
      have hel : (encT z).length ≤ 2002 := by have := encT_le z; omega
      have hc1 : sv (pre encT (zs.take k)) ++ (⟨#[1]⟩ : ByteArray) = sv (pre encT (zs.take k) ++ [1]) := sv_append _ [1]
      have hc2 : sv (pre encT (zs.take k) ++ [1]) ++ sv (encT z) = sv (pre encT (zs.take k) ++ [1] ++ encT z) := sv_append _ _
      have hz1 : (sv (pre encT (zs.take k))).size ≤ 2200000000 := hle
      have hz2 : (sv (encT z)).size ≤ 2002 := hel
      have C1 := Lib.hid (fun W => rf_text z (by omega) W)
      have HP := Lib.hid hp
      rw [← hc1] at hc2
      have HC := Lib.hid hc2
      clear hx hz hJ hp hle hel hc1 hc2
      generalize sv (pre encT (zs.take k)) = S at *
      generalize sv (encT z) = E at *
      go_wp2_with fail
      refine (C1.out _).mono ?_
      rintro e w1 ⟨rfl, hb⟩
      have HB := Lib.hid (HBE.out.trans (hb.mono HBE.out.size))
      clear hb
      go_wp2_with fail
      go_roundw
      case rel => exact ⟨k + 1, by omega, by go_num, by rw [HP.out, ← HC.out], HB.out⟩
      case measure => simp [intOf]; omega
    · obtain rfl : k = n := by omega
      have hle := HAL.out k
      rw [List.take_of_length_le (by have := HL.out; omega)] at hle ⊢
      have hc1 : sv (pre encT zs) ++ (⟨#[0]⟩ : ByteArray) = sv (encL encT zs) := sv_append _ [0]
      have HC := Lib.hid hc1
      have hz1 : (sv (pre encT zs)).size ≤ 2200000000 := hle
      clear hc1 hle
      generalize sv (pre encT zs) = S at *
      go_wp2_with fail
      go_ret
      exact ⟨ret_s (by rw [← HC.out]), HBE.out⟩
end Go.Proofs.YtocbodjmdgoaiaaDoor
