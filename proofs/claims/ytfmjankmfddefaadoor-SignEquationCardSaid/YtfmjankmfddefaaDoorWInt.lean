/- wire.width, wire.Int and wire.Num: the number of bytes of an int, and its encoding. Conditions: none (every int). -/
import Derived.Test.YtfmjankmfddefaaDoorWWords
namespace Go.Proofs.YtfmjankmfddefaaDoor.Wr
open Go.RowKit Wm
set_option linter.unusedVariables false

theorem bitLen_nby (m : Nat) (h : m < 9223372036854775808) : (Lib.bitLen m + 7) / 8 = nby m := by
  have one : ∀ x, x ≠ 0 → x < 18446744073709551616 → 1 ≤ Lib.bitLen x := fun x h0 hx => by rw [Lib.bitLen_half x h0 hx]; omega
  have top : ∀ x, x < 256 → Lib.bitLen x ≤ 8 := fun x hx => Lib.bitLen_le x 8 (by decide) hx
  by_cases h1 : m < 256
  · have t := top m h1
    by_cases h0 : m = 0
    · subst h0; decide
    · have o := one m h0 (by omega)
      unfold nby
      rw [if_neg (by omega), if_pos h1]; omega
  by_cases h2 : m < 65536
  · have t := top (m / 256) (by omega)
    have o := one (m / 256) (by omega) (by omega)
    rw [Lib.bitLen_shift8 m (by omega) (by omega)]
    unfold nby
    rw [if_neg (by omega), if_neg h1, if_pos h2]; omega
  by_cases h3 : m < 16777216
  · have t := top (m / 65536) (by omega)
    have o := one (m / 65536) (by omega) (by omega)
    rw [Lib.bitLen_shift16 m (by omega) (by omega)]
    unfold nby
    rw [if_neg (by omega), if_neg h1, if_neg h2, if_pos h3]; omega
  by_cases h4 : m < 4294967296
  · have t := top (m / 16777216) (by omega)
    have o := one (m / 16777216) (by omega) (by omega)
    rw [Lib.bitLen_shift24 m (by omega) (by omega)]
    unfold nby
    rw [if_neg (by omega), if_neg h1, if_neg h2, if_neg h3, if_pos h4]; omega
  by_cases h5 : m < 1099511627776
  · have t := top (m / 4294967296) (by omega)
    have o := one (m / 4294967296) (by omega) (by omega)
    rw [Lib.bitLen_shift32 m (by omega) (by omega)]
    unfold nby
    rw [if_neg (by omega), if_neg h1, if_neg h2, if_neg h3, if_neg h4, if_pos h5]; omega
  by_cases h6 : m < 281474976710656
  · have t := top (m / 1099511627776) (by omega)
    have o := one (m / 1099511627776) (by omega) (by omega)
    rw [Lib.bitLen_shift40 m (by omega) (by omega)]
    unfold nby
    rw [if_neg (by omega), if_neg h1, if_neg h2, if_neg h3, if_neg h4, if_neg h5, if_pos h6]; omega
  by_cases h7 : m < 72057594037927936
  · have t := top (m / 281474976710656) (by omega)
    have o := one (m / 281474976710656) (by omega) (by omega)
    rw [Lib.bitLen_shift48 m (by omega) (by omega)]
    unfold nby
    rw [if_neg (by omega), if_neg h1, if_neg h2, if_neg h3, if_neg h4, if_neg h5, if_neg h6, if_pos h7]; omega
  · have t := top (m / 72057594037927936) (by omega)
    have o := one (m / 72057594037927936) (by omega) (by omega)
    rw [Lib.bitLen_shift56 m (by omega) (by omega)]
    unfold nby
    rw [if_neg (by omega), if_neg h1, if_neg h2, if_neg h3, if_neg h4, if_neg h5, if_neg h6, if_neg h7]; omega
theorem width_any (n : Int) (hn : J64 n) (w : World) : Calls Tryd.prog 79 #[.int .i64 n] w fun e w' => e = .returned (.int .i64 (kOf n : Nat)) ∧ w = w' := by
  have hm := mag_bd hn
  have hk : ((Lib.bitLen (mag n) + 7) / 8 = kOf n) := bitLen_nby _ hm
  have hb : Lib.bitLen (mag n) ≤ 64 := Lib.bitLen_le (mag n) 64 (by omega) (by omega)
  unfold J64 at hn
  by_cases h : n < 0
  · have e : (mag n : Int) = -(n + 1) := by unfold mag; rw [if_pos h]; omega
    have c1 := fun W => Tryd.bits_Len (-(n + 1)) W (by omega) (by omega)
    rw [show (-(n + 1)).toNat = mag n by omega] at c1
    have d1 : decide (n < 0) = true := decide_eq_true h
    have C1 := Lib.hid c1
    have HK := Lib.hid hk
    clear c1 hk e
    generalize Lib.bitLen (mag n) = L at *
    go_enter Tryd.func79, Tryd.ntmps79
    go_wp2_with fail
    refine (C1.out _).mono ?_
    rintro e w' ⟨rfl, rfl⟩
    go_wp2
    go_ret
    exact ⟨ret_i (by rw [← HK.out]; omega), rfl⟩
  · have e : (mag n : Int) = n := by unfold mag; rw [if_neg h]; omega
    have c1 := fun W => Tryd.bits_Len n W (by omega) (by omega)
    rw [show n.toNat = mag n by omega] at c1
    have d1 : decide (n < 0) = false := decide_eq_false h
    have C1 := Lib.hid c1
    have HK := Lib.hid hk
    clear c1 hk e
    generalize Lib.bitLen (mag n) = L at *
    go_enter Tryd.func79, Tryd.ntmps79
    go_wp2_with fail
    refine (C1.out _).mono ?_
    rintro e w' ⟨rfl, rfl⟩
    go_wp2
    go_ret
    exact ⟨ret_i (by rw [← HK.out]; omega), rfl⟩

theorem infoByte : (Tryd.prog.info? 5).map (fun i => (i.zero, i.size, i.bytes)) = some (some (.int .u8 0), 1, 1) := by kernel_rfl
/-- The bytes of a text, as cells. -/
def bc (l : Bs) : List Value := l.map fun b => .int .u8 (b.toNat : Int)
theorem bc_append (a b : Bs) : bc (a ++ b) = bc a ++ bc b := by simp [bc]
theorem bc_length (a : Bs) : (bc a).length = a.length := by simp [bc]
theorem bc_one (a : Bs) : ∀ u ∈ bc a, u.oneCell' = true := by
  intro u hu
  obtain ⟨b, _, rfl⟩ := List.mem_map.1 hu
  rfl
/-- One byte in a new block, to be appended. -/
theorem one_cell {w : World} {v u : Value} {g : Nat} {t : TypeId} (hg : w.heap.size = g) (j : Nat) (h : [v][j]? = some u) : (w.alloc (.cells #[v] t)).cell? ((⟨g, 0, none⟩ : Addr).add j) = some u := by
  subst hg
  match j, h with
  | 0, h => simp at h; subst h; simp [Addr.add]

theorem one_byte (n : Int) : ∀ u ∈ [Value.int .u8 n], u.oneCell' = true := by
  intro u hu
  simp at hu
  subst hu
  rfl
theorem be_snoc (k j : Nat) (n : Int) (h : j < k) : (be k n).take (j + 1) = (be k n).take j ++ [byt (n / 256 ^ (k - 1 - j))] := by
  induction k generalizing j with
  | zero => omega
  | succ k ih =>
    cases j with
    | zero => simp [be]
    | succ j =>
      show byt (n / 256 ^ k) :: (be k n).take (j + 1) = byt (n / 256 ^ k) :: ((be k n).take j ++ [_])
      rw [ih j (by omega)]
      rw [show k + 1 - 1 - (j + 1) = k - 1 - j by omega]
theorem shift_byte (n : Int) (i : Nat) : n / 2 ^ (8 * i) % 256 = ((byt (n / 256 ^ i)).toNat : Int) := by
  rw [byt_toNat, show (2 : Int) ^ (8 * i) = 256 ^ i by rw [Int.pow_mul]; rfl]

set_option maxHeartbeats 1000000 in
set_option maxRecDepth 100000 in
theorem int_any (n : Int) (hn : J64 n) (w : World) : Calls Tryd.prog 65 #[.int .i64 n] w fun e w' => e = .returned (.string (sv (encI n))) ∧ Below w.heap.size w w' := by
  obtain ⟨i0, hi0, hz0, hz1, hz2⟩ := info_parts infoByte
  have c1 := fun W => width_any n hn W
  have hk := kOf_le n
  have hh := headN_lt n
  have he : encI n = UInt8.ofNat (headN n) :: be (kOf n) n := rfl
  have hH : headN n = if n < 0 then 127 - kOf n else 128 + kOf n := rfl
  generalize kOf n = K at *
  generalize headN n = H at *
  have HE := Lib.hid he
  have C1 := Lib.hid c1
  clear he c1
  go_enter Tryd.func65, Tryd.ntmps65
  go_wp2_with fail
  refine (C1.out _).mono ?_
  rintro e w' ⟨rfl, rfl⟩
  go_upto_if 12 with fail
  go_cut [4] (fun v wc => v = .int .i64 (H : Nat) ∧ w = wc)
  case first =>
    by_cases h : n < 0
    · have d1 : decide (n < 0) = true := decide_eq_true h
      have e1 : (127 - (K : Int)) = (H : Int) := by rw [hH, if_pos h]; omega
      have E1 := Lib.hid e1
      clear e1 hH
      go_wp2_with fail
      go_meet
      exact ⟨by rw [E1.out], rfl⟩
    · have d1 : decide (n < 0) = false := decide_eq_false h
      have e1 : (128 + (K : Int)) = (H : Int) := by rw [hH, if_neg h]; omega
      have E1 := Lib.hid e1
      clear e1 hH
      go_wp2_with fail
      go_meet
      exact ⟨by rw [E1.out], rfl⟩
  case rest =>
    obtain ⟨rfl, rfl⟩ := hcut
    clear hH
    have e2 : (H : Int) = ((UInt8.ofNat H).toNat : Int) := by rw [UInt8.toNat_ofNat']; omega
    have E2 := Lib.hid e2
    clear e2
    go_wp2_with (first
      | (at_make; refine wpList_make_own _ rfl _ _ 56 rfl w.heap.size 5 i0 (.int .u8 0) 1 Tryd.underlying56 hi0 hz0 hz1 .i64 .i64 _ (1 + K) rfl rfl (by omega) (by rw [hz2]; omega) (by unfold maxLen; omega) (Nat.le_refl _) ?_; intro w0 hown0 hgrow0)
      | (at_builtin; go_loud (refine wpList_append_own _ rfl (.tmp 18) (.tmp 21) 56 rfl w.heap.size 5 i0 (.int .u8 0) 1 1 Tryd.underlying56 hi0 hz0 hz1 hz2 rfl (by decide) _ _ _ rfl (hown0.alloc _) ⟨w0.heap.size, 0, none⟩ 1 1 [.int .u8 (H : Int)] rfl rfl (fun j u hj => one_cell rfl j hj) (one_byte _) (by unfold maxLen; omega) (by omega) (by have := hgrow0.size; simp; omega) ?_); intro v1 w1 hown1 hgrow1 _))
    have hb0 : Below w.heap.size w w0 := (Below.refl _ _).grown hgrow0 (Nat.le_refl _) (fun k e => by cases e)
    have hb1 : Below w.heap.size w w1 := (hb0.alloc hb0.size _).grown hgrow1 (by have := hb0.size; simp; omega) (fun k e => by have e' : w.heap.size = k := Option.some.inj e; omega)
    have hown1' : w1.ownsRow w.heap.size 5 1 v1 (1 + 0) (bc (UInt8.ofNat H :: (be K n).take 0)) := by
      have := hown1
      rw [E2.out] at this
      simpa [bc] using this
    have O1 := Lib.hid hown1'
    have B1 := Lib.hid hb1
    clear hown0 hgrow0 hown1 hgrow1 hb0 hb1 hown1'
    go_loopw [5, 6] (fun v i wr => ∃ j : Nat, j ≤ K ∧ i = .int .i64 ((K : Int) - 1 - j) ∧ wr.ownsRow w.heap.size 5 1 v (1 + j) (bc (UInt8.ofNat H :: (be K n).take j)) ∧ Below w.heap.size w wr) (fun _ i _ => (intOf i + 1).toNat)
    case atStart => exact ⟨0, Nat.zero_le _, by simp, O1.out, B1.out⟩
    case round =>
      obtain ⟨j, hj, rfl, hown, hbel⟩ := hrel
      have hsz := hbel.size
      by_cases hlt : j < K
      · obtain ⟨m, hm⟩ : ∃ m : Nat, K = m + j + 1 := ⟨K - 1 - j, by omega⟩
        have e : (K : Int) - 1 - j = m := by omega
        have hs := be_snoc K j n hlt
        rw [show K - 1 - j = m by omega] at hs
        have E3 := Lib.hid (shift_byte n m)
        have hm7 : m ≤ 7 := by omega
        have d : decide ((0 : Int) ≤ (m : Int)) = true := decide_eq_true (by omega)
        have HS := Lib.hid hs
        have HM := Lib.hid hm
        rw [e]
        clear hs e hm
        go_wp2_with (first
          | (at_builtin; go_loud (refine wpList_append_own _ rfl (.tmp 29) (.tmp 35) 56 rfl w.heap.size 5 i0 (.int .u8 0) 1 1 Tryd.underlying56 hi0 hz0 hz1 hz2 rfl (by decide) _ _ _ rfl (hown.alloc _) ⟨wr.heap.size, 0, none⟩ 1 1 [.int .u8 (n / 2 ^ (8 * m) % 256)] rfl rfl (fun j u hj => one_cell rfl j hj) (one_byte _) (by unfold maxLen; omega) (by omega) (by simp; omega) ?_); intro v2 w2 hown2 hgrow2 _))
        have hb2 : Below w.heap.size w w2 := (hbel.alloc hsz _).grown hgrow2 (by simp; omega) (fun k e => by
          rcases hown.2 with ⟨_, h0⟩ | ⟨g, cap, cur, hv, hg, _⟩
          · omega
          · rw [hv] at e
            have e' : g = k := Option.some.inj e
            omega)
        have hown3 : w2.ownsRow w.heap.size 5 1 v2 (1 + (j + 1)) (bc (UInt8.ofNat H :: (be K n).take (j + 1))) := by
          rw [HS.out]
          have := hown2
          rw [E3.out, show [Value.int .u8 ((byt (n / 256 ^ m)).toNat : Int)] = bc [byt (n / 256 ^ m)] from rfl, ← bc_append] at this
          exact this
        clear hown hbel hown2 hgrow2
        go_wp2
        go_roundw
        case rel => exact ⟨j + 1, by omega, by have := HM.out; congr 1; omega, hown3, hb2⟩
        case measure => simp [intOf]
      · obtain rfl : j = K := by omega
        have e : (j : Int) - 1 - j = -1 := by omega
        have d : decide ((0 : Int) ≤ -1) = false := by decide
        rw [e]
        clear e
        have hl := be_length j n
        rw [List.take_of_length_le (by omega)] at hown
        obtain ⟨g, cap, rfl, hg⟩ : ∃ g cap, u5 = .slice (some ⟨g, 0, none⟩) (1 + j) cap ∧ w.heap.size ≤ g := by
          rcases hown.2 with ⟨_, h0⟩ | ⟨g, cap, cur, hv, hg, _⟩
          · omega
          · exact ⟨g, cap, hv, hg⟩
        have hcells := hown.cells (g := g) rfl
        have hconv := run_convert_bytes_back (P := Tryd.prog) wr 56 9 5 ⟨g, 0, none⟩ cap (UInt8.ofNat H :: be j n) Tryd.underlying56 Tryd.underlying5 Tryd.underlying9 (fun i hi => by
          refine hcells i _ ?_
          unfold bc
          rw [List.getElem?_map, List.getElem?_eq_getElem hi]; rfl)
        rw [show (UInt8.ofNat H :: be j n).length = 1 + j by simp [hl]; omega] at hconv
        have HL := Lib.hid hl
        have HO := Lib.hid hown
        clear hl hown hcells
        go_wp2
        go_ret
        exact ⟨ret_s (by rw [HE.out]; rfl), hbel⟩
theorem num_neg (n : Int) (h : n < 0) (w : World) : Calls Tryd.prog 51 #[.int .i64 n] w fun e w' => e = .returned (.string (sv [])) ∧ Below w.heap.size w w' := by
  have d1 : decide (n < 0) = true := decide_eq_true h
  go_enter Tryd.func51, Tryd.ntmps51
  go_wp2_with fail
  go_ret
  exact ⟨rfl, Below.refl _ _⟩
theorem num_pos (n : Int) (h : 0 ≤ n) (hn : J64 n) (w : World) : Calls Tryd.prog 51 #[.int .i64 n] w fun e w' => e = .returned (.string (sv (encI n))) ∧ Below w.heap.size w w' := by
  have d1 : decide (n < 0) = false := decide_eq_false (by omega)
  go_enter Tryd.func51, Tryd.ntmps51
  go_wp2_with fail
  refine (int_any n hn _).mono ?_
  rintro e w' ⟨rfl, hb⟩
  go_wp2_with fail
  go_ret
  exact ⟨rfl, hb⟩
end Go.Proofs.YtfmjankmfddefaaDoor.Wr
