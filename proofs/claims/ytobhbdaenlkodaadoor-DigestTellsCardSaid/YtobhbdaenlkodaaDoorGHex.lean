/- digest.Hex: two digits for each byte. Conditions: the string's length is within the model's reach. -/
import Derived.Test.YtobhbdaenlkodaaDoorGBytes
import Derived.Test.YtobhbdaenlkodaaDoorGWordL
import Derived.Test.YtobhbdaenlkodaaDoorGTwoB
import Derived.Deep.AppendLies
namespace Go.Proofs.YtobhbdaenlkodaaDoor
open Go.RowKit Gm
set_option linter.unusedVariables false

def hexd (n : Nat) : UInt8 := if n < 10 then UInt8.ofNat (48 + n) else UInt8.ofNat (87 + n)
def hexs : Bs → Bs
  | [] => []
  | b :: l => hexd (b.toNat / 16) :: hexd (b.toNat % 16) :: hexs l
def digs : ByteArray := ⟨#[48, 49, 50, 51, 52, 53, 54, 55, 56, 57, 97, 98, 99, 100, 101, 102]⟩
theorem digs_at : ∀ n : Fin 16, digs[n.val]'(n.isLt) = hexd n.val := by decide
theorem hexs_length (l : Bs) : (hexs l).length = 2 * l.length := by
  induction l with
  | nil => rfl
  | cons b l ih => simp only [hexs, List.length_cons, ih]; omega
theorem hexs_append (l m : Bs) : hexs (l ++ m) = hexs l ++ hexs m := by
  induction l with
  | nil => rfl
  | cons b l ih => simp [hexs, ih]
theorem hexs_take (s : Bs) (k : Nat) (h : k < s.length) : hexs (s.take (k + 1)) = hexs (s.take k) ++ [hexd ((s.getD k 0).toNat / 16), hexd ((s.getD k 0).toNat % 16)] := by
  have e : s.getD k 0 = s[k] := by rw [List.getD_eq_getElem?_getD, List.getElem?_eq_getElem h]; rfl
  rw [List.take_succ_eq_append_getElem h, hexs_append, e]
  rfl

theorem nil_back (w : World) : (convert 30 9 (.slice none 0 0)).run Tryd.prog w = .ok (.string (sv [])) w := by kernel_rfl
theorem back_own {w : World} {base : Nat} {v : Value} {n : Nat} {l : Bs} (h : w.ownsRow base 5 1 v n (bc l)) : (convert 30 9 v).run Tryd.prog w = .ok (.string (sv l)) w := by
  have hl : l.length = n := by have := h.1; rw [bc_length] at this; omega
  rcases h.2 with ⟨rfl, rfl⟩ | ⟨g, cap, cur, rfl, _⟩
  · have e : l = [] := List.eq_nil_of_length_eq_zero hl
    rw [e]
    exact nil_back w
  · have hc := h.cells (g := g) rfl
    have := run_convert_bytes_back (P := Tryd.prog) w 30 9 5 ⟨g, 0, none⟩ cap l Tryd.underlying30 Tryd.underlying5 Tryd.underlying9 (fun i hi => by
      refine hc i _ ?_
      unfold bc
      rw [List.getElem?_map, List.getElem?_eq_getElem hi]; rfl)
    rw [hl] at this
    exact this
theorem idx_digs (a : Nat) (ha : a < 16) (W : World) : (Instr.index 9 (.string ⟨#[48, 49, 50, 51, 52, 53, 54, 55, 56, 57, 97, 98, 99, 100, 101, 102]⟩) (.int .u8 (a : Int))).run Tryd.prog W = .ok (.int .u8 ((hexd a).toNat : Int)) W := by
  have hr := run_index_string (P := Tryd.prog) (w := W) 9 digs .u8 (a : Int) Tryd.underlying9
  have hi : (0 : Int) ≤ (a : Int) ∧ (a : Int) < digs.size := ⟨by omega, by show (a : Int) < 16; omega⟩
  refine hr.trans ?_
  rw [dif_pos hi]
  have h := digs_at ⟨a, ha⟩
  have e : digs[(a : Int).toNat]'(by show _ < 16; omega) = hexd a := by simp only [Int.toNat_natCast]; exact h
  rw [e]
set_option maxHeartbeats 2000000 in
set_option maxRecDepth 100000 in
theorem hex_any (s : Bs) (hs : s.length ≤ 1099511627776) (w : World) : Calls Tryd.prog 18 #[.string (sv s)] w fun e w' => e = .returned (.string (sv (hexs s))) ∧ Below w.heap.size w w' := by
  obtain ⟨i0, hi0, hz0, hz1, hz2⟩ := info_parts infoByte
  obtain ⟨n, hn⟩ : ∃ n, s.length = n := ⟨_, rfl⟩
  have hsz : (sv s).size = n := hn
  have hn' : n ≤ 1099511627776 := by omega
  have HN := Lib.hid hn'
  have HC := Lib.hid (show hexs s = hexs (s.take n) by rw [← hn, List.take_length])
  have HX := Lib.hid (fun k (h : k < n) => hexs_take s k (by omega))
  have HL := Lib.hid (fun k (h : k ≤ n) => show (hexs (s.take k)).length = 2 * k by rw [hexs_length, List.length_take, hn, Nat.min_eq_left h])
  have HG := Lib.hid (fun k (h : k < (sv s).size) => sv_get s k h)
  obtain ⟨c, hc⟩ : ∃ c, hexs s = c := ⟨_, rfl⟩
  rw [hc] at HC ⊢
  have hmul : wrap64 (2 * (n : Int)) = ((2 * n : Nat) : Int) := by unfold wrap64; omega
  clear hc hn'
  go_enter Tryd.func18, Tryd.ntmps18
  go_wp2_with (at_make; refine wpList_make_own _ rfl _ _ 30 rfl w.heap.size 5 i0 (.int .u8 0) 1 Tryd.underlying30 hi0 hz0 hz1 .i64 .i64 _ (2 * n) rfl rfl (by omega) (by rw [hz2]; have := HN.out; omega) (by unfold maxLen; have := HN.out; omega) (Nat.le_refl _) ?_; intro w0 hown0 hgrow0)
  have hb0 : Below w.heap.size w w0 := (Below.refl _ _).grown hgrow0 (Nat.le_refl _) (fun k e => by cases e)
  have O0 := Lib.hid hown0
  have B0 := Lib.hid hb0
  clear hown0 hgrow0 hb0
  go_loopw [3, 11] (fun v i wr => ∃ k : Nat, k ≤ n ∧ i = .int .i64 k ∧ wr.ownsRow w.heap.size 5 1 v (2 * k) (bc (hexs (s.take k))) ∧ Below w.heap.size w wr) (fun _ i _ => n - (intOf i).toNat)
  case atStart => exact ⟨0, Nat.zero_le _, rfl, by simpa [hexs, bc] using O0.out, B0.out⟩
  case round =>
    obtain ⟨k, hk, rfl, hown, hbel⟩ := hrel
    have HO := Lib.hid hown
    have HB := Lib.hid hbel
    clear hown hbel
    by_cases hlt : k < n
    · have dl : decide ((k : Int) < (n : Int)) = true := decide_eq_true (by omega)
      obtain ⟨b, hb⟩ : ∃ b, (s.getD k 0) = b := ⟨_, rfl⟩
      have hks : k < (sv s).size := by omega
      have hget : (sv s)[k]'hks = b := (HG.out k hks).trans hb
      have HXk := Lib.hid (HX.out k hlt)
      rw [hb] at HXk
      obtain ⟨m, hm⟩ : ∃ m : Nat, b.toNat = m := ⟨_, rfl⟩
      have hmb := byte_lt b
      rw [hm] at HXk hmb
      obtain ⟨a, ha⟩ : ∃ a : Nat, m / 16 = a := ⟨_, rfl⟩
      obtain ⟨c', hc'⟩ : ∃ a : Nat, m % 16 = a := ⟨_, rfl⟩
      have ha16 : a < 16 := by omega
      have hc16 : c' < 16 := by omega
      rw [ha, hc'] at HXk
      have hsh : (m : Int) / 16 = (a : Int) := by omega
      have hand : bits .and .u8 (m : Int) 15 = (c' : Int) := by rw [show (15 : Int) = ((15 : Nat) : Int) from rfl, u8_and_nat _ _ (by omega) (by decide), nat_mask4, hc']
      have hi1 := idx_digs a ha16
      have hi2 := idx_digs c' hc16
      obtain ⟨d1, hd1⟩ : ∃ d, hexd a = d := ⟨_, rfl⟩
      obtain ⟨d2, hd2⟩ : ∃ d, hexd c' = d := ⟨_, rfl⟩
      rw [hd1] at hi1 HXk
      rw [hd2] at hi2 HXk
      have hkn : (k : Int) < (n : Int) := by omega
      clear hb hmb ha hc' hd1 hd2
      go_wp2_with fail
      have hS : True := trivial
      refine wp_region_T 12 (fun _ => True) (by kernel_rfl) ?_
      refine wpAnyT_take (i := 0) (v := ?_) rfl (by kernel_rfl) (fun _ _ _ h => h) (Or.inl ⟨by rfl, ?_⟩) hS ?_
      rotate_left
      · intro w2 _
        go_simp
        first | done | with_reducible rfl
      try simp only [Act.put, List.getElem_toArray, List.getElem_cons_zero, List.setIfInBounds_toArray, List.set_cons_zero, List.set_cons_succ]
      refine wpAnyT_take (i := 1) (v := ?_) rfl (by kernel_rfl) (fun _ _ _ h => h) (Or.inl ⟨by rfl, ?_⟩) hS ?_
      rotate_left
      · intro w2 _
        go_simp
        first | done | with_reducible rfl
      try simp only [Act.put, List.getElem_toArray, List.getElem_cons_succ, List.getElem_cons_zero, List.setIfInBounds_toArray, List.set_cons_zero, List.set_cons_succ]
      refine wpAnyT_take (i := 2) (v := ?_) rfl (by kernel_rfl) (fun _ _ _ h => h) (Or.inl ⟨by rfl, ?_⟩) hS ?_
      rotate_left
      · intro w2 _
        go_simp
        first | done | with_reducible rfl
      try simp only [Act.put, List.getElem_toArray, List.getElem_cons_succ, List.getElem_cons_zero, List.setIfInBounds_toArray, List.set_cons_zero, List.set_cons_succ]
      refine wpAnyT_take (i := 3) (v := ?_) rfl (by kernel_rfl) (fun _ _ _ h => h) (Or.inl ⟨by rfl, ?_⟩) hS ?_
      rotate_left
      · intro w2 _
        go_simp
        first | done | with_reducible rfl
      try simp only [Act.put, List.getElem_toArray, List.getElem_cons_succ, List.getElem_cons_zero, List.setIfInBounds_toArray, List.set_cons_zero, List.set_cons_succ]
      refine wpAnyT_take (i := 4) (v := ?_) rfl (by kernel_rfl) (fun _ _ _ h => h) (Or.inl ⟨by rfl, ?_⟩) hS ?_
      rotate_left
      · intro w2 _
        go_simp
        first | done | with_reducible rfl
      try simp only [Act.put, List.getElem_toArray, List.getElem_cons_succ, List.getElem_cons_zero, List.setIfInBounds_toArray, List.set_cons_zero, List.set_cons_succ]
      refine wpAnyT_take (i := 5) (v := ?_) rfl (by kernel_rfl) (fun _ _ _ h => h) (Or.inl ⟨by rfl, ?_⟩) hS ?_
      rotate_left
      · intro w2 _
        go_simp
        first | done | with_reducible rfl
      try simp only [Act.put, List.getElem_toArray, List.getElem_cons_succ, List.getElem_cons_zero, List.setIfInBounds_toArray, List.set_cons_zero, List.set_cons_succ]
      refine wpAnyT_take (i := 6) (v := ?_) rfl (by kernel_rfl) (fun _ _ _ h => h) (Or.inl ⟨by rfl, ?_⟩) hS ?_
      rotate_left
      · intro w2 _
        go_simp
        first | done | with_reducible rfl
      try simp only [Act.put, List.getElem_toArray, List.getElem_cons_succ, List.getElem_cons_zero, List.setIfInBounds_toArray, List.set_cons_zero, List.set_cons_succ]
      refine wpAnyT_take (i := 7) (v := ?_) rfl (by kernel_rfl) (fun _ _ _ h => h) (Or.inl ⟨by rfl, ?_⟩) hS ?_
      rotate_left
      · intro w2 _
        go_simp
        first | done | with_reducible rfl
      try simp only [Act.put, List.getElem_toArray, List.getElem_cons_succ, List.getElem_cons_zero, List.setIfInBounds_toArray, List.set_cons_zero, List.set_cons_succ]
      refine wpAnyT_take (i := 8) (v := ?_) rfl (by kernel_rfl) (fun _ _ _ h => h) (Or.inl ⟨by rfl, ?_⟩) hS ?_
      rotate_left
      · intro w2 _
        go_simp
        first | done | with_reducible rfl
      try simp only [Act.put, List.getElem_toArray, List.getElem_cons_succ, List.getElem_cons_zero, List.setIfInBounds_toArray, List.set_cons_zero, List.set_cons_succ]
      refine wpAnyT_take (i := 9) (v := ?_) rfl (by kernel_rfl) (fun _ _ _ h => h) (Or.inl ⟨by rfl, ?_⟩) hS ?_
      rotate_left
      · intro w2 _
        go_simp
        first | done | with_reducible rfl
      try simp only [Act.put, List.getElem_toArray, List.getElem_cons_succ, List.getElem_cons_zero, List.setIfInBounds_toArray, List.set_cons_zero, List.set_cons_succ]
      refine wpAnyT_take (i := 10) (v := ?_) rfl (by kernel_rfl) (fun _ _ _ h => h) (Or.inl ⟨by rfl, ?_⟩) hS ?_
      rotate_left
      · intro w2 _
        go_simp
        first | done | with_reducible rfl
      try simp only [Act.put, List.getElem_toArray, List.getElem_cons_succ, List.getElem_cons_zero, List.setIfInBounds_toArray, List.set_cons_zero, List.set_cons_succ]
      refine wpAnyT_one (i := 11) rfl (by kernel_rfl) (fun K hK => ?_)
      go_simp
      refine hK.out _ _ trivial ?_
      clear hK K
      try simp only [Act.put, List.getElem_toArray, List.getElem_cons_succ, List.getElem_cons_zero, List.setIfInBounds_toArray, List.set_cons_zero, List.set_cons_succ]
      refine hide_T (X := fun W => Hid (W.ownsRow w.heap.size 5 1 u3 (2 * k) (bc (hexs (s.take k))) ∧ (∀ j u, (bc [d1, d2])[j]? = some u → W.cell? ((⟨wr.heap.size, 0, none⟩ : Addr).add j) = some u) ∧ Below w.heap.size w W)) (Lib.hid ⟨(HO.out.alloc _).drew, fun j u hj => (row_cell (w := wr) (vs := bc [d1, d2]) (t := 5) rfl j hj), below_drew (HB.out.alloc HB.out.size _) 1⟩) ?_
      obtain ⟨y, hy⟩ : ∃ y, wr.heap.size = y := ⟨_, rfl⟩
      rw [hy]
      clear hy HO HB wr
      intro wd HD
      refine wpAnyT_gate rfl (by kernel_rfl) (fun K hK => ?_)
      refine step_append_lies _ rfl (.tmp 14) (.tmp 25) 30 rfl w.heap.size 5 i0 (.int .u8 0) 1 1 Tryd.underlying30 hi0 hz0 hz1 hz2 rfl (by decide) u3 (2 * k) (bc (hexs (s.take k))) rfl HD.out.1 ⟨y, 0, none⟩ 2 2 (bc [d1, d2]) rfl rfl HD.out.2.1 (bc_one _) (by decide) (by unfold maxLen; have := HN.out; omega) (by have := HN.out; omega) HD.out.2.2.size _ rfl ?_
      intro g cap w1 hown1 hgrow1 hwh hgl
      refine hK.out _ _ ?_
      clear hK K
      have HB1 : Hid (Below w.heap.size w w1) := Lib.hid (HD.out.2.2.grown hgrow1 HD.out.2.2.size (fun q e => (HD.out.1.lt q e).1))
      have HO1 : Hid (w1.ownsRow w.heap.size 5 1 (.slice (some ⟨g, 0, none⟩) (2 * k + 2) cap) (2 * (k + 1)) (bc (hexs (s.take (k + 1))))) := Lib.hid (by
        rw [HXk.out, bc_append, show 2 * (k + 1) = 2 * k + 2 by omega]; exact hown1)
      clear hown1 hgrow1 hwh hgl HD HXk
      try simp only [Act.put, List.getElem_toArray, List.getElem_cons_succ, List.getElem_cons_zero, List.setIfInBounds_toArray, List.set_cons_zero, List.set_cons_succ]
      refine wpAny_take (i := 13) (v := ?_) rfl (by kernel_rfl) (by kernel_rfl) (by kernel_rfl) (fun _ _ _ h => h) (Or.inl ⟨by rfl, ?_⟩) ?_
      rotate_left
      · intro w2
        go_simp
        first | done | with_reducible rfl
      try simp only [Act.put, List.getElem_toArray, List.getElem_cons_succ, List.getElem_cons_zero, List.setIfInBounds_toArray, List.set_cons_zero, List.set_cons_succ]
      refine wpAny_done (by kernel_rfl) ?_ _
      go_wp2_with fail
      go_roundw
      case rel => exact ⟨k + 1, by omega, by go_num, HO1.out, HB1.out⟩
      case measure => simp [intOf]; omega
    · obtain rfl : k = n := by omega
      have dl : decide ((k : Int) < (k : Int)) = false := decide_eq_false (by omega)
      have hconv := back_own HO.out
      rw [← HC.out] at hconv
      have hHB := HB
      go_wp2_with fail
      go_ret
      exact ⟨rfl, hHB.out⟩
end Go.Proofs.YtobhbdaenlkodaaDoor
