/- bourneref03.digit and Hex: the same digits. Conditions: the string has at most 2000 bytes. -/
import Derived.Test.YtobhbdaenlkodaaDoorGHex
namespace Go.Proofs.YtobhbdaenlkodaaDoor
open Go.RowKit Gm
set_option linter.unusedVariables false

set_option maxHeartbeats 2000000 in
set_option maxRecDepth 20000 in
theorem rdigit_any (n : Nat) (hn : n < 16) (w : World) : Calls Tryd.prog 28 #[.int .i64 n] w fun e w' => e = .returned (.int .u8 ((hexd n).toNat : Int)) ∧ w = w' := by
  obtain ⟨d, hd⟩ : ∃ d, hexd n = d := ⟨_, rfl⟩
  have HD : Hid (hexd n = d) := Lib.hid hd
  rw [hd]
  clear hd
  go_enter Tryd.func28, Tryd.ntmps28
  by_cases hl : n < 10
  · have dl : decide ((n : Int) < 10) = true := decide_eq_true (by omega)
    have h1 : (48 : Int) + (n : Int) = (d.toNat : Int) := by
      rw [← HD.out]; unfold hexd; rw [if_pos hl, UInt8.toNat_ofNat']; omega
    go_wp2_with fail
    go_ret
    exact ⟨rfl, rfl⟩
  · have dl : decide ((n : Int) < 10) = false := decide_eq_false (by omega)
    have h1 : (97 : Int) + (n : Int) - 10 = (d.toNat : Int) := by
      rw [← HD.out]; unfold hexd; rw [if_neg hl, UInt8.toNat_ofNat']; omega
    go_wp2_with fail
    go_ret
    exact ⟨rfl, rfl⟩

set_option maxHeartbeats 2000000 in
set_option maxRecDepth 100000 in
theorem rhex_any (s : Bs) (hs : s.length ≤ 2000) (w : World) : Calls Tryd.prog 19 #[.string (sv s)] w fun e w' => e = .returned (.string (sv (hexs s))) ∧ Below w.heap.size w w' := by
  obtain ⟨i0, hi0, hz0, hz1, hz2⟩ := info_parts infoByte
  obtain ⟨n, hn⟩ : ∃ n, s.length = n := ⟨_, rfl⟩
  have hsz : (sv s).size = n := hn
  have HC := Lib.hid (show hexs s = hexs (s.take n) by rw [← hn, List.take_length])
  have HX := Lib.hid (fun k (h : k < n) => hexs_take s k (by omega))
  have HG := Lib.hid (fun k (h : k < (sv s).size) => sv_get s k h)
  obtain ⟨c, hc⟩ : ∃ c, hexs s = c := ⟨_, rfl⟩
  rw [hc] at HC ⊢
  rw [hn] at hs
  clear hc hn
  go_enter Tryd.func19, Tryd.ntmps19
  go_wp2_with fail
  go_loopw [3, 4] (fun v i wr => ∃ k : Nat, k ≤ n ∧ i = .int .i64 k ∧ Hid (wr.ownsRow w.heap.size 5 1 v (2 * k) (bc (hexs (s.take k))) ∧ Below w.heap.size w wr)) (fun _ i _ => n - (intOf i).toNat)
  case atStart => exact ⟨0, Nat.zero_le _, rfl, Lib.hid ⟨⟨rfl, .inl ⟨rfl, rfl⟩⟩, Below.refl _ _⟩⟩
  case round =>
    obtain ⟨k, hk, rfl, HK⟩ := hrel
    by_cases hlt : k < n
    · have dl : decide ((k : Int) < (n : Int)) = true := decide_eq_true (by omega)
      obtain ⟨b, hb⟩ : ∃ b, (s.getD k 0) = b := ⟨_, rfl⟩
      have hks : k < (sv s).size := by omega
      have hget : (sv s)[k]'hks = b := (HG.out k hks).trans hb
      have HXk := Lib.hid (HX.out k hlt)
      rw [hb] at HXk
      obtain ⟨m, hm⟩ : ∃ m : Nat, b.toNat = m := ⟨_, rfl⟩
      have hmb := byte_lt b
      rw [hm] at HXk hmb
      obtain ⟨a, ha⟩ : ∃ a : Nat, m / 16 = a := ⟨_, rfl⟩
      obtain ⟨c', hc'⟩ : ∃ a : Nat, m % 16 = a := ⟨_, rfl⟩
      have ha16 : a < 16 := by omega
      have hc16 : c' < 16 := by omega
      rw [ha, hc'] at HXk
      have hsh : (m : Int) / 16 = (a : Int) := by omega
      have hmo : (m : Int) % 16 = (c' : Int) := by omega
      have hsh' : Int.tdiv (m : Int) 16 = (a : Int) := by rw [Int.tdiv_eq_ediv_of_nonneg (by omega)]; exact hsh
      have hmo' : Int.tmod (m : Int) 16 = (c' : Int) := by rw [Int.tmod_eq_emod_of_nonneg (by omega)]; exact hmo
      have hi1 := Lib.hid (fun W => rdigit_any a ha16 W)
      have hi2 := Lib.hid (fun W => rdigit_any c' hc16 W)
      obtain ⟨d1, hd1⟩ : ∃ d, hexd a = d := ⟨_, rfl⟩
      obtain ⟨d2, hd2⟩ : ∃ d, hexd c' = d := ⟨_, rfl⟩
      rw [hd1] at hi1 HXk
      rw [hd2] at hi2 HXk
      have hwm : IntKind.i64.wrap (m : Int) = (m : Int) := by rw [IntKind.wrap_i64]; omega
      have hwa : IntKind.i64.wrap (a : Int) = (a : Int) := by rw [IntKind.wrap_i64]; omega
      have HF := Lib.hid (And.intro hwm (And.intro hsh' (And.intro hwa hmo')))
      clear hb hmb ha hc' hd1 hd2 hsh hmo hsh' hmo' hwa hwm
      go_wp2_with fail
      have hS : True := trivial
      refine wp_region_T 14 (fun _ => True) (by kernel_rfl) ?_
      refine wpAnyT_take (i := 0) (v := ?_) rfl (by kernel_rfl) (fun _ _ _ h => h) (Or.inl ⟨by rfl, ?_⟩) hS ?_
      rotate_left
      · intro w2 _
        go_simp
        first | done | with_reducible rfl
      try simp only [Act.put, List.getElem_toArray, List.getElem_cons_zero, List.setIfInBounds_toArray, List.set_cons_zero, List.set_cons_succ]
      refine wpAnyT_take (i := 1) (v := ?_) rfl (by kernel_rfl) (fun _ _ _ h => h) (Or.inl ⟨by rfl, ?_⟩) hS ?_
      rotate_left
      · intro w2 _
        go_simp
        first | done | with_reducible rfl
      try simp only [Act.put, List.getElem_toArray, List.getElem_cons_succ, List.getElem_cons_zero, List.setIfInBounds_toArray, List.set_cons_zero, List.set_cons_succ]
      refine wpAnyT_take (i := 2) (v := ?_) rfl (by kernel_rfl) (fun _ _ _ h => h) (Or.inl ⟨by rfl, ?_⟩) hS ?_
      rotate_left
      · intro w2 _
        go_simp
        first | done | with_reducible rfl
      try simp only [Act.put, List.getElem_toArray, List.getElem_cons_succ, List.getElem_cons_zero, List.setIfInBounds_toArray, List.set_cons_zero, List.set_cons_succ]
      refine wpAnyT_take (i := 3) (v := ?_) rfl (by kernel_rfl) (fun _ _ _ h => h) (Or.inl ⟨by rfl, ?_⟩) hS ?_
      rotate_left
      · intro w2 _
        go_simp
        first | done | with_reducible rfl
      try simp only [Act.put, List.getElem_toArray, List.getElem_cons_succ, List.getElem_cons_zero, List.setIfInBounds_toArray, List.set_cons_zero, List.set_cons_succ]
      refine wpAnyT_take (i := 4) (v := ?_) rfl (by kernel_rfl) (fun _ _ _ h => h) (Or.inl ⟨by rfl, ?_⟩) hS ?_
      rotate_left
      · intro w2 _
        go_simp
        first | done | with_reducible rfl
      try simp only [Act.put, List.getElem_toArray, List.getElem_cons_succ, List.getElem_cons_zero, List.setIfInBounds_toArray, List.set_cons_zero, List.set_cons_succ]
      refine wpAnyT_take (i := 5) (v := ?_) rfl (by kernel_rfl) (fun _ _ _ h => h) (Or.inl ⟨by rfl, ?_⟩) hS ?_
      rotate_left
      · intro w2 _
        go_simp
        first | done | with_reducible rfl
      try simp only [Act.put, List.getElem_toArray, List.getElem_cons_succ, List.getElem_cons_zero, List.setIfInBounds_toArray, List.set_cons_zero, List.set_cons_succ]
      refine wpAnyT_take (i := 7) (v := ?_) rfl (by kernel_rfl) (fun _ _ _ h => h) (Or.inl ⟨by rfl, ?_⟩) hS ?_
      rotate_left
      · intro w2 _
        go_simp
        first | done | with_reducible rfl
      try simp only [Act.put, List.getElem_toArray, List.getElem_cons_succ, List.getElem_cons_zero, List.setIfInBounds_toArray, List.set_cons_zero, List.set_cons_succ]
      refine wpAnyT_take (i := 8) (v := ?_) rfl (by kernel_rfl) (fun _ _ _ h => h) (Or.inl ⟨by rfl, ?_⟩) hS ?_
      rotate_left
      · intro w2 _
        go_simp
        first | done | with_reducible rfl
      try simp only [Act.put, List.getElem_toArray, List.getElem_cons_succ, List.getElem_cons_zero, List.setIfInBounds_toArray, List.set_cons_zero, List.set_cons_succ]
      refine wpAnyT_take (i := 9) (v := ?_) rfl (by kernel_rfl) (fun _ _ _ h => h) (Or.inl ⟨by rfl, ?_⟩) hS ?_
      rotate_left
      · intro w2 _
        go_simp
        first | done | with_reducible rfl
      try simp only [Act.put, List.getElem_toArray, List.getElem_cons_succ, List.getElem_cons_zero, List.setIfInBounds_toArray, List.set_cons_zero, List.set_cons_succ]
      refine wpAnyT_take (i := 10) (v := ?_) rfl (by kernel_rfl) (fun _ _ _ h => h) (Or.inl ⟨by rfl, ?_⟩) hS ?_
      rotate_left
      · intro w2 _
        go_simp
        first | done | with_reducible rfl
      try simp only [Act.put, List.getElem_toArray, List.getElem_cons_succ, List.getElem_cons_zero, List.setIfInBounds_toArray, List.set_cons_zero, List.set_cons_succ]
      refine wpAnyT_take (i := 11) (v := ?_) rfl (by kernel_rfl) (fun _ _ _ h => h) (Or.inl ⟨by rfl, ?_⟩) hS ?_
      rotate_left
      · intro w2 _
        go_simp
        first | done | with_reducible rfl
      try simp only [Act.put, List.getElem_toArray, List.getElem_cons_succ, List.getElem_cons_zero, List.setIfInBounds_toArray, List.set_cons_zero, List.set_cons_succ]
      refine wpAnyT_one (i := 6) rfl (by kernel_rfl) (fun K hK => ?_)
      go_simp
      simp only [HF.out.1, HF.out.2.1, HF.out.2.2.1, HF.out.2.2.2]
      refine (hi1.out _).mono ?_
      rintro e w' ⟨rfl, rfl⟩
      refine hK.out _ _ trivial ?_
      clear hK K
      try simp only [Act.put, List.getElem_toArray, List.getElem_cons_succ, List.getElem_cons_zero, List.setIfInBounds_toArray, List.set_cons_zero, List.set_cons_succ]
      refine wpAnyT_one (i := 12) rfl (by kernel_rfl) (fun K hK => ?_)
      go_simp
      refine (hi2.out _).mono ?_
      rintro e w' ⟨rfl, rfl⟩
      refine hK.out _ _ trivial ?_
      clear hK K
      try simp only [Act.put, List.getElem_toArray, List.getElem_cons_succ, List.getElem_cons_zero, List.setIfInBounds_toArray, List.set_cons_zero, List.set_cons_succ]
      refine wpAnyT_one (i := 13) rfl (by kernel_rfl) (fun K hK => ?_)
      go_simp
      refine hK.out _ _ trivial ?_
      clear hK K
      try simp only [Act.put, List.getElem_toArray, List.getElem_cons_succ, List.getElem_cons_zero, List.setIfInBounds_toArray, List.set_cons_zero, List.set_cons_succ]
      refine hide_T (X := fun W => Hid (W.ownsRow w.heap.size 5 1 u3 (2 * k) (bc (hexs (s.take k))) ∧ (∀ j u, (bc [d1, d2])[j]? = some u → W.cell? ((⟨wr.heap.size, 0, none⟩ : Addr).add j) = some u) ∧ Below w.heap.size w W)) (Lib.hid ⟨(HK.out.1.alloc _).drew, fun j u hj => (row_cell (w := wr) (vs := bc [d1, d2]) (t := 5) rfl j hj), below_drew (HK.out.2.alloc HK.out.2.size _) 1⟩) ?_
      obtain ⟨y, hy⟩ : ∃ y, wr.heap.size = y := ⟨_, rfl⟩
      rw [hy]
      clear hy HK wr
      intro wd HD
      refine wpAnyT_gate rfl (by kernel_rfl) (fun K hK => ?_)
      refine step_append_lies _ rfl (.tmp 11) (.tmp 24) 30 rfl w.heap.size 5 i0 (.int .u8 0) 1 1 Tryd.underlying30 hi0 hz0 hz1 hz2 rfl (by decide) u3 (2 * k) (bc (hexs (s.take k))) rfl HD.out.1 ⟨y, 0, none⟩ 2 2 (bc [d1, d2]) rfl rfl HD.out.2.1 (bc_one _) (by decide) (by unfold maxLen; omega) (by omega) HD.out.2.2.size _ rfl ?_
      intro g cap w1 hown1 hgrow1 hwh hgl
      refine hK.out _ _ ?_
      clear hK K
      have HN : Hid (w1.ownsRow w.heap.size 5 1 (.slice (some ⟨g, 0, none⟩) (2 * k + 2) cap) (2 * (k + 1)) (bc (hexs (s.take (k + 1)))) ∧ Below w.heap.size w w1) := Lib.hid ⟨by
        rw [HXk.out, bc_append, show 2 * (k + 1) = 2 * k + 2 by omega]; exact hown1, HD.out.2.2.grown hgrow1 HD.out.2.2.size (fun q e => (HD.out.1.lt q e).1)⟩
      clear hown1 hgrow1 hwh hgl HD HXk
      try simp only [Act.put, List.getElem_toArray, List.getElem_cons_succ, List.getElem_cons_zero, List.setIfInBounds_toArray, List.set_cons_zero, List.set_cons_succ]
      refine wpAny_take (i := 15) (v := ?_) rfl (by kernel_rfl) (by kernel_rfl) (by kernel_rfl) (fun _ _ _ h => h) (Or.inl ⟨by rfl, ?_⟩) ?_
      rotate_left
      · intro w2
        go_simp
        first | done | with_reducible rfl
      try simp only [Act.put, List.getElem_toArray, List.getElem_cons_succ, List.getElem_cons_zero, List.setIfInBounds_toArray, List.set_cons_zero, List.set_cons_succ]
      refine wpAny_done (by kernel_rfl) ?_ _
      go_wp2_with fail
      go_roundw
      case rel => exact ⟨k + 1, by omega, by go_num, HN⟩
      case measure => simp [intOf]; omega
    · obtain rfl : k = n := by omega
      have dl : decide ((k : Int) < (k : Int)) = false := decide_eq_false (by omega)
      have hconv := back_own HK.out.1
      rw [← HC.out] at hconv
      have hHB := Lib.hid HK.out.2
      go_wp2_with fail
      go_ret
      exact ⟨rfl, hHB.out⟩
end Go.Proofs.YtobhbdaenlkodaaDoor
