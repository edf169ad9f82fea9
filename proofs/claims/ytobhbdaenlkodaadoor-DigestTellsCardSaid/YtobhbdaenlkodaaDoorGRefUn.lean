/- bourneref03.value and Unhex: the same texts. Conditions: the string has at most 2000 bytes. -/
import Derived.Test.YtobhbdaenlkodaaDoorGUnhex
import Derived.Test.YtobhbdaenlkodaaDoorGRefHex
namespace Go.Proofs.YtobhbdaenlkodaaDoor
open Go.RowKit Gm
set_option linter.unusedVariables false

set_option maxHeartbeats 4000000 in
set_option maxRecDepth 20000 in
theorem rvalue_any (b : UInt8) (w : World) : Calls Tryd.prog 22 #[.int .u8 (b.toNat : Int)] w fun e w' => e = .returned (.int .i64 (dval b)) ∧ w = w' := by
  obtain ⟨d, hd⟩ : ∃ d, dval b = d := ⟨_, rfl⟩
  have HD : Hid (dval b = d) := Lib.hid hd
  rw [hd]
  clear hd
  have hb := byte_lt b
  obtain ⟨n, hn⟩ : ∃ n, b.toNat = n := ⟨_, rfl⟩
  rw [hn] at hb ⊢
  have HN := Lib.hid hn
  clear hn
  go_enter Tryd.func22, Tryd.ntmps22
  have hcs : n < 48 ∨ (¬ n < 48 ∧ n ≤ 57) ∨ (57 < n ∧ n < 97) ∨ (97 ≤ n ∧ n ≤ 102) ∨ 102 < n := by omega
  rcases hcs with hc | hc | hc | hc | hc
  · have hv : d = -1 := by
      rw [← HD.out]; unfold dval; rw [HN.out]; (repeat' split) <;> omega
    clear HD HN
    have d0 : decide ((48 : Int) ≤ (n : Int)) = false := decide_eq_false (by omega)
    have d1 : decide ((n : Int) ≤ 57) = true := decide_eq_true (by omega)
    have d2 : decide ((97 : Int) ≤ (n : Int)) = false := decide_eq_false (by omega)
    have d3 : decide ((n : Int) ≤ 102) = true := decide_eq_true (by omega)
    rw [hv]
    clear hv
    go_wp2_with fail
    go_ret
    exact ⟨rfl, rfl⟩
  · have hv : d = (n : Int) - 48 := by
      rw [← HD.out]; unfold dval; rw [HN.out]; (repeat' split) <;> omega
    clear HD HN
    have d0 : decide ((48 : Int) ≤ (n : Int)) = true := decide_eq_true (by omega)
    have d1 : decide ((n : Int) ≤ 57) = true := decide_eq_true (by omega)
    have d2 : decide ((97 : Int) ≤ (n : Int)) = false := decide_eq_false (by omega)
    have d3 : decide ((n : Int) ≤ 102) = true := decide_eq_true (by omega)
    rw [hv]
    clear hv
    go_wp2_with fail
    go_ret
    exact ⟨rfl, rfl⟩
  · have hv : d = -1 := by
      rw [← HD.out]; unfold dval; rw [HN.out]; (repeat' split) <;> omega
    clear HD HN
    have d0 : decide ((48 : Int) ≤ (n : Int)) = true := decide_eq_true (by omega)
    have d1 : decide ((n : Int) ≤ 57) = false := decide_eq_false (by omega)
    have d2 : decide ((97 : Int) ≤ (n : Int)) = false := decide_eq_false (by omega)
    have d3 : decide ((n : Int) ≤ 102) = true := decide_eq_true (by omega)
    rw [hv]
    clear hv
    go_wp2_with fail
    go_ret
    exact ⟨rfl, rfl⟩
  · have hv : d = (n : Int) - 97 + 10 := by
      rw [← HD.out]; unfold dval; rw [HN.out]; (repeat' split) <;> omega
    clear HD HN
    have d0 : decide ((48 : Int) ≤ (n : Int)) = true := decide_eq_true (by omega)
    have d1 : decide ((n : Int) ≤ 57) = false := decide_eq_false (by omega)
    have d2 : decide ((97 : Int) ≤ (n : Int)) = true := decide_eq_true (by omega)
    have d3 : decide ((n : Int) ≤ 102) = true := decide_eq_true (by omega)
    rw [hv]
    clear hv
    go_wp2_with fail
    go_ret
    exact ⟨rfl, rfl⟩
  · have hv : d = -1 := by
      rw [← HD.out]; unfold dval; rw [HN.out]; (repeat' split) <;> omega
    clear HD HN
    have d0 : decide ((48 : Int) ≤ (n : Int)) = true := decide_eq_true (by omega)
    have d1 : decide ((n : Int) ≤ 57) = false := decide_eq_false (by omega)
    have d2 : decide ((97 : Int) ≤ (n : Int)) = true := decide_eq_true (by omega)
    have d3 : decide ((n : Int) ≤ 102) = false := decide_eq_false (by omega)
    rw [hv]
    clear hv
    go_wp2_with fail
    go_ret
    exact ⟨rfl, rfl⟩
theorem pairs_snoc (a b : UInt8) : ∀ l : Bs, l.length % 2 = 0 → pairs (l ++ [a, b]) = pairs l ++ [UInt8.ofNat (16 * (dval a).toNat + (dval b).toNat)]
  | [], _ => rfl
  | [_], h => by simp at h
  | x :: y :: l, h => by
    have ih := pairs_snoc a b l (by simp only [List.length_cons] at h; omega)
    simp only [List.cons_append, pairs, ih]
theorem take_two (s : Bs) (i : Nat) (h : i + 1 < s.length) : s.take (i + 2) = s.take i ++ [s.getD i 0, s.getD (i + 1) 0] := by
  have e : s.getD i 0 = s[i] := by rw [List.getD_eq_getElem?_getD, List.getElem?_eq_getElem (by omega)]; rfl
  have e1 : s.getD (i + 1) 0 = s[i + 1] := by rw [List.getD_eq_getElem?_getD, List.getElem?_eq_getElem h]; rfl
  rw [e, e1, List.take_succ_eq_append_getElem h, List.take_succ_eq_append_getElem (by omega), List.append_assoc]
  rfl
theorem pairs_two (s : Bs) (i : Nat) (h : i + 1 < s.length) (he : i % 2 = 0) : pairs (s.take (i + 2)) = pairs (s.take i) ++ [UInt8.ofNat (16 * (dval (s.getD i 0)).toNat + (dval (s.getD (i + 1) 0)).toNat)] := by
  rw [take_two s i h, pairs_snoc _ _ _ (by rw [List.length_take, Nat.min_eq_left (by omega)]; exact he)]
theorem wrap64_2000 (h : Nat) (hh : h ≤ 10000) : wrap64 (h : Int) = (h : Int) := by unfold wrap64; omega

set_option maxHeartbeats 4000000 in
set_option maxRecDepth 100000 in
theorem runhex_any (s : Bs) (hs : s.length ≤ 2000) (w : World) : Calls Tryd.prog 11 #[.string (sv s)] w fun e w' => e = unres (unhexs s) ∧ Below w.heap.size w w' := by
  obtain ⟨i0, hi0, hz0, hz1, hz2⟩ := info_parts infoByte
  obtain ⟨n, hn⟩ : ∃ n, s.length = n := ⟨_, rfl⟩
  have hsz : (sv s).size = n := hn
  have HN := Lib.hid hn
  have hrem : Int.tmod (n : Int) 2 = ((n % 2 : Nat) : Int) := by rw [Int.tmod_eq_emod_of_nonneg (by omega)]; omega
  have hrem2 : (n : Int) % 2 = ((n % 2 : Nat) : Int) := by omega
  rw [hn] at hs
  rcases Nat.mod_two_eq_zero_or_one n with hp | hp
  · have HP : Hid (n % 2 = 0) := Lib.hid hp
    have HU : Hid (unhexs s = if okB s = true then some (pairs s) else none) := Lib.hid (by rw [unhexs_eq, hn, hp]; simp)
    have HG := Lib.hid (fun k (h : k < (sv s).size) => sv_get s k h)
    obtain ⟨R, hR⟩ : ∃ R, unhexs s = R := ⟨_, rfl⟩
    rw [hR] at HU ⊢
    rw [hp] at hrem hrem2
    clear hR hn hp
    go_enter Tryd.func11, Tryd.ntmps11
    go_wp2_with fail
    go_loopw [4, 5] (fun v i wr => ∃ k : Nat, k ≤ n ∧ i = .int .i64 k ∧ Hid (k % 2 = 0 ∧ okB (s.take k) = true ∧ wr.ownsRow w.heap.size 5 1 v (k / 2) (bc (pairs (s.take k))) ∧ Below w.heap.size w wr)) (fun _ i _ => n - (intOf i).toNat)
    case atStart => exact ⟨0, Nat.zero_le _, rfl, Lib.hid ⟨rfl, rfl, ⟨rfl, .inl ⟨rfl, rfl⟩⟩, Below.refl _ _⟩⟩
    case round =>
      obtain ⟨k, hk, rfl, HK⟩ := hrel
      by_cases hlt : k < n
      · have dl : decide ((k : Int) < (n : Int)) = true := decide_eq_true (by omega)
        have hkn : k + 1 < n := by have := HK.out.1; have := HP.out; omega
        obtain ⟨k1, hk1⟩ : ∃ e, k + 1 = e := ⟨_, rfl⟩
        have hka : (k : Int) + 1 = (k1 : Int) := by omega
        have hkb : wrap64 (k1 : Int) = (k1 : Int) := wrap64_2000 k1 (by omega)
        obtain ⟨b, hb⟩ : ∃ b, (s.getD k 0) = b := ⟨_, rfl⟩
        obtain ⟨c, hc⟩ : ∃ b, (s.getD k1 0) = b := ⟨_, rfl⟩
        have hks : k < (sv s).size := by omega
        have hks1 : k1 < (sv s).size := by omega
        have hget : (sv s)[k]'hks = b := (HG.out k hks).trans hb
        have hget1 : (sv s)[k1]'hks1 = c := (HG.out k1 hks1).trans hc
        have HPT : Hid (pairs (s.take (k + 2)) = pairs (s.take k) ++ [UInt8.ofNat (16 * (dval b).toNat + (dval c).toNat)]) := Lib.hid (by rw [pairs_two s k (by have := HN.out; omega) HK.out.1, hk1, hb, hc])
        have HOK : Hid (okB (s.take (k + 2)) = (okB (s.take k) && decide (0 ≤ dval b) && decide (0 ≤ dval c))) := Lib.hid (by rw [okB_take s (k + 1) (by have := HN.out; omega), okB_take s k (by have := HN.out; omega), hk1, hb, hc])
        have HBB : Hid (dval b < 0 → R = none) := Lib.hid (fun h => by rw [HU.out, okB_not s k (by have := HN.out; omega) (by rw [hb]; exact h)]; rfl)
        have HBC : Hid (dval c < 0 → R = none) := Lib.hid (fun h => by rw [HU.out, okB_not s k1 (by have := HN.out; omega) (by rw [hc]; exact h)]; rfl)
        have H1 := Lib.hid (fun W => rvalue_any b W)
        have H2 := Lib.hid (fun W => rvalue_any c W)
        have hbb := dval_bd b
        have hbc := dval_bd c
        obtain ⟨d1, hd1⟩ : ∃ d, dval b = d := ⟨_, rfl⟩
        obtain ⟨d2, hd2⟩ : ∃ d, dval c = d := ⟨_, rfl⟩
        rw [hd1] at HPT HOK HBB H1 hbb
        rw [hd2] at HPT HOK HBC H2 hbc
        clear hb hc hd1 hd2 hkn hk1
        by_cases hn1 : d1 < 0
        · have dn1 : decide (d1 < 0) = true := decide_eq_true hn1
          have HRN := Lib.hid (HBB.out hn1)
          clear hbb hbc hn1
          go_wp2_with fail
          refine (H1.out _).mono ?_
          rintro e w' ⟨rfl, rfl⟩
          go_wp2_with fail
          refine (H2.out _).mono ?_
          rintro e w' ⟨rfl, rfl⟩
          go_wp2_with fail
          go_ret2
          exact ⟨by rw [HRN.out]; rfl, HK.out.2.2.2⟩
        · have dn1 : decide (d1 < 0) = false := decide_eq_false hn1
          by_cases hn2 : d2 < 0
          · have dn2 : decide (d2 < 0) = true := decide_eq_true hn2
            have HRN := Lib.hid (HBC.out hn2)
            clear hbb hbc hn1 hn2
            go_wp2_with fail
            refine (H1.out _).mono ?_
            rintro e w' ⟨rfl, rfl⟩
            go_wp2_with fail
            refine (H2.out _).mono ?_
            rintro e w' ⟨rfl, rfl⟩
            go_wp2_with fail
            go_ret2
            exact ⟨by rw [HRN.out]; rfl, HK.out.2.2.2⟩
          · have dn2 : decide (d2 < 0) = false := decide_eq_false hn2
            obtain ⟨p, hp⟩ : ∃ p : UInt8, UInt8.ofNat (16 * d1.toNat + d2.toNat) = p := ⟨_, rfl⟩
            have hpv : (16 : Int) * d1 + d2 = (p.toNat : Int) := by rw [← hp, UInt8.toNat_ofNat']; omega
            rw [hp] at HPT
            have HOT : Hid (okB (s.take (k + 2)) = true) := Lib.hid (by rw [HOK.out, HK.out.2.1, decide_eq_true (show 0 ≤ d1 by omega), decide_eq_true (show 0 ≤ d2 by omega)]; rfl)
            have HE : Hid ((k + 2) % 2 = 0 ∧ (k + 2) / 2 = k / 2 + 1 ∧ k + 2 ≤ n ∧ k / 2 ≤ 2000) := Lib.hid (by have := HK.out.1; have := HP.out; omega)
            have hpl := byte_lt p
            obtain ⟨z, hz⟩ : ∃ z, (16 : Int) * d1 = z := ⟨_, rfl⟩
            have hz0' : 0 ≤ z := by omega
            have hz1' : z ≤ 240 := by omega
            rw [hz] at hpv
            have d1a : 0 ≤ d1 := by omega
            have d1b : d1 < 16 := by omega
            clear hp HOK HBB HBC hbb hn1 hn2
            obtain ⟨h, hh⟩ : ∃ h, k / 2 = h := ⟨_, rfl⟩
            have HH2 : Hid (h ≤ 2000) := Lib.hid (by omega)
            rw [hh] at HE HK
            clear hh
            go_wp2_with fail
            refine (H1.out _).mono ?_
            rintro e w' ⟨rfl, rfl⟩
            go_wp2_with fail
            refine (H2.out _).mono ?_
            rintro e w' ⟨rfl, rfl⟩
            go_wp2_with (at_builtin; go_loud (refine wpList_append_lies _ rfl (.tmp 33) (.tmp 39) 30 rfl w.heap.size 5 i0 (.int .u8 0) 1 1 Tryd.underlying30 hi0 hz0 hz1 hz2 rfl (by decide) u4 h (bc (pairs (s.take k))) rfl (HK.out.2.2.1.alloc _) ⟨wr.heap.size, 0, none⟩ 1 1 (bc [p]) rfl rfl (fun j u hj => row_cell rfl j hj) (bc_one _) (by decide) (by unfold maxLen; have := HH2.out; omega) (by have := HH2.out; omega) (by have := HK.out.2.2.2.size; simp; omega) _ rfl ?_); intro g cap w1 hown1 hgrow1 hwh hgl)
            have HN2 : Hid ((k + 2) % 2 = 0 ∧ okB (s.take (k + 2)) = true ∧ w1.ownsRow w.heap.size 5 1 (.slice (some ⟨g, 0, none⟩) (h + 1) cap) ((k + 2) / 2) (bc (pairs (s.take (k + 2)))) ∧ Below w.heap.size w w1) := Lib.hid ⟨HE.out.1, HOT.out, by rw [HPT.out, bc_append, HE.out.2.1]; exact hown1, (HK.out.2.2.2.alloc HK.out.2.2.2.size _).grown hgrow1 (by have := HK.out.2.2.2.size; simp; omega) (fun q e => (HK.out.2.2.1.lt q e).1)⟩
            clear hown1 hgrow1 hwh hgl HK HPT HOT
            go_wp2_with fail
            go_roundw
            case rel => exact ⟨k + 2, HE.out.2.2.1, by go_num, HN2⟩
            case measure => simp [intOf]; omega
      · obtain rfl : k = n := by omega
        have dl : decide ((k : Int) < (k : Int)) = false := decide_eq_false (by omega)
        have hall : s.take k = s := by rw [← HN.out, List.take_length]
        have HRR : Hid (R = some (pairs s)) := Lib.hid (by have := HK.out.2.1; rw [hall] at this; rw [HU.out, this]; rfl)
        have hconv := back_own HK.out.2.2.1
        rw [hall] at hconv
        clear hall
        generalize pairs s = P at *
        go_wp2_with fail
        go_ret2
        exact ⟨by rw [HRR.out]; rfl, HK.out.2.2.2⟩
  · have HU : Hid (unhexs s = none) := Lib.hid (by rw [unhexs_eq, hn, hp]; simp)
    obtain ⟨R, hR⟩ : ∃ R, unhexs s = R := ⟨_, rfl⟩
    rw [hR] at HU ⊢
    rw [hp] at hrem hrem2
    clear hR hn hp
    go_enter Tryd.func11, Tryd.ntmps11
    go_wp2_with fail
    go_ret2
    exact ⟨by rw [HU.out]; rfl, below_self _⟩
end Go.Proofs.YtobhbdaenlkodaaDoor
