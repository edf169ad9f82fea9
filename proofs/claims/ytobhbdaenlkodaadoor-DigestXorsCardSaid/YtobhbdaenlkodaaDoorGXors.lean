/- The statement DigestXors: the checksum of the bytewise exclusive or of three texts is the exclusive or of their checksums. Conditions: those of the card; the statement's own bounds. -/
import Derived.Test.YtobhbdaenlkodaaDoorGCard
namespace Go.Proofs.YtobhbdaenlkodaaDoor.digestXors
open Go.ChangeShapes Go.WideShapes Go.ChangeAt Go.RowKit Gm
open Go.Proofs.YtobhbdaenlkodaaDoor
set_option linter.unusedVariables false

theorem slice_to (s : Bs) (d : Nat) (h : d ≤ s.length) (W : World) : (Instr.slice 9 (.string (sv s)) none (some (.int .i64 d)) none).run Tryd.prog W = .ok (.string (sv (s.take d))) W := by
  rw [run_slice_string_to_if W 9 (sv s) .i64 _ Tryd.underlying9, if_pos ⟨by omega, by rw [sv_size]; omega⟩, Int.toNat_natCast, sv_extract_to]
theorem i64_xor (a b : Nat) (ha : a < 65536) (hb : b < 65536) : bits .xor .i64 (a : Int) (b : Int) = ((a ^^^ b : Nat) : Int) := by
  have hx : a ^^^ b < 2 ^ 16 := Nat.xor_lt_two_pow (n := 16) ha hb
  show IntKind.i64.wrap ((BitVec.ofInt 64 (a : Int) ^^^ BitVec.ofInt 64 (b : Int)).toNat : Int) = _
  rw [BitVec.toNat_xor, ofInt_u64 a (by omega), ofInt_u64 b (by omega), IntKind.wrap_i64]
  omega
theorem take_get (a : Bs) (n k : Nat) (h : k < n) (hn : n ≤ a.length) (hk : k < (sv a).size) : (sv a)[k] = (a.take n).getD k 0 := by
  rw [sv_get a k hk, take_getD, if_pos h]
set_option maxHeartbeats 2000000 in
set_option maxRecDepth 100000 in
theorem walkL (a b c : Bs) (ha : a.length ≤ maxLen) (hb : b.length ≤ maxLen) (hc : c.length ≤ maxLen) (w : World) (hT : Tb w) :
    Calls Tryd.prog 7 #[.string (sv a), .string (sv b), .string (sv c)] w (IsTrue w) := by
  obtain ⟨i0, hi0, hz0, hz1, hz2⟩ := info_parts infoByte
  have SM := Lib.hid (small_any w hT)
  obtain ⟨na, hna⟩ : ∃ n, a.length = n := ⟨_, rfl⟩
  obtain ⟨nb, hnb⟩ : ∃ n, b.length = n := ⟨_, rfl⟩
  obtain ⟨nc, hnc⟩ : ∃ n, c.length = n := ⟨_, rfl⟩
  have hsa : (sv a).size = na := hna
  have hsb : (sv b).size = nb := hnb
  have hsc : (sv c).size = nc := hnc
  obtain ⟨n, hn⟩ : ∃ n : Nat, min (min na nb) nc = n := ⟨_, rfl⟩
  have HL : Hid (n ≤ na ∧ n ≤ nb ∧ n ≤ nc) := Lib.hid (by omega)
  have HM : Hid (min (min (na : Int) nb) nc = n) := Lib.hid (by omega)
  have HZ : Hid (a.length = na ∧ b.length = nb ∧ c.length = nc) := Lib.hid ⟨hna, hnb, hnc⟩
  clear ha hb hc hna hnb hnc hn hT
  go_enter Tryd.func7, Tryd.ntmps7
  go_wp2_with fail
  refine SM.out.mono ?_
  rintro e w1 ⟨rfl, hb1⟩
  have B1 := Lib.hid hb1
  clear hb1
  go_upto_region 2 with fail
  go_cut [8, 12, 13, 14, 15, 16, 17, 18] (fun v _ _ _ _ _ _ _ wc => v = .int .i64 (n : Nat) ∧ w1 = wc)
  case first =>
    have HM' := HM.out
    go_wp2_with fail
    all_goals
      go_meet
      exact ⟨by congr 1 <;> omega, rfl⟩
  case rest =>
    obtain ⟨rfl, rfl⟩ := hcut
    by_cases hlong : 2000 < n
    · have d1 : decide ((2000 : Int) < (n : Int)) = true := decide_eq_true (by omega)
      clear hlong
      go_wp2_with fail
      go_ret
      exact ⟨rfl, B1.out⟩
    · have d1 : decide ((2000 : Int) < (n : Int)) = false := decide_eq_false (by omega)
      have HN : Hid (n ≤ 2000) := Lib.hid (by omega)
      clear hlong
      have GA := Lib.hid (fun k (h : k < n) => take_get a n k h (by have := HL.out; have := HZ.out; omega))
      have GB := Lib.hid (fun k (h : k < n) => take_get b n k h (by have := HL.out; have := HZ.out; omega))
      have GC := Lib.hid (fun k (h : k < n) => take_get c n k h (by have := HL.out; have := HZ.out; omega))
      have s1 : ∀ W, (Instr.slice 9 (.string (sv a)) none (some (.int .i64 n)) none).run Tryd.prog W = .ok (.string (sv (a.take n))) W := fun W => slice_to a n (by have := HL.out; have := HZ.out; omega) W
      have s2 : ∀ W, (Instr.slice 9 (.string (sv b)) none (some (.int .i64 n)) none).run Tryd.prog W = .ok (.string (sv (b.take n))) W := fun W => slice_to b n (by have := HL.out; have := HZ.out; omega) W
      have s3 : ∀ W, (Instr.slice 9 (.string (sv c)) none (some (.int .i64 n)) none).run Tryd.prog W = .ok (.string (sv (c.take n))) W := fun W => slice_to c n (by have := HL.out; have := HZ.out; omega) W
      have LA : Hid ((a.take n).length = n) := Lib.hid (by rw [List.length_take]; have := HL.out; have := HZ.out; omega)
      have LB : Hid ((b.take n).length = n) := Lib.hid (by rw [List.length_take]; have := HL.out; have := HZ.out; omega)
      have LC : Hid ((c.take n).length = n) := Lib.hid (by rw [List.length_take]; have := HL.out; have := HZ.out; omega)
      obtain ⟨A, hA⟩ : ∃ A, a.take n = A := ⟨_, rfl⟩
      obtain ⟨B, hB⟩ : ∃ A, b.take n = A := ⟨_, rfl⟩
      obtain ⟨C, hC⟩ : ∃ A, c.take n = A := ⟨_, rfl⟩
      rw [hA] at GA s1 LA
      rw [hB] at GB s2 LB
      rw [hC] at GC s3 LC
      clear hA hB hC
      have HX := Lib.hid (fun k (h : k < n) => xor3_take A B C k (by rw [LA.out]; exact h) (by rw [LA.out, LB.out]) (by rw [LA.out, LC.out]))
      go_wp2_with fail
      go_loopw [9, 10] (fun v i wr => ∃ k : Nat, k ≤ n ∧ i = .int .i64 k ∧ wr.ownsRow w.heap.size 5 1 v k (bc (xor3 (A.take k) (B.take k) (C.take k))) ∧ Below w.heap.size w wr) (fun _ i _ => n - (intOf i).toNat)
      case atStart => exact ⟨0, Nat.zero_le _, rfl, ⟨rfl, .inl ⟨rfl, rfl⟩⟩, B1.out⟩
      case round =>
        obtain ⟨k, hk, rfl, hown, hbel⟩ := hrel
        have HO := Lib.hid hown
        have HB := Lib.hid hbel
        clear hown hbel
        by_cases hlt : k < n
        · have dl : decide ((k : Int) < (n : Int)) = true := decide_eq_true (by omega)
          have HXk := Lib.hid (HX.out k hlt)
          have hka : k < (sv a).size := by have := HL.out; omega
          have hkb : k < (sv b).size := by have := HL.out; omega
          have hkc : k < (sv c).size := by have := HL.out; omega
          have ga := GA.out k hlt hka
          have gb := GB.out k hlt hkb
          have gc := GC.out k hlt hkc
          have ia : (k : Int) < (na : Int) := by have := HL.out; omega
          have ib : (k : Int) < (nb : Int) := by have := HL.out; omega
          have ic : (k : Int) < (nc : Int) := by have := HL.out; omega
          obtain ⟨x, hx⟩ : ∃ x, A.getD k 0 = x := ⟨_, rfl⟩
          obtain ⟨y, hy⟩ : ∃ x, B.getD k 0 = x := ⟨_, rfl⟩
          obtain ⟨z, hz⟩ : ∃ x, C.getD k 0 = x := ⟨_, rfl⟩
          rw [hx] at ga HXk
          rw [hy] at gb HXk
          rw [hz] at gc HXk
          obtain ⟨d, hd⟩ : ∃ d, x ^^^ y ^^^ z = d := ⟨_, rfl⟩
          rw [hd] at HXk
          obtain ⟨p, hp⟩ : ∃ p : Nat, (x ^^^ y).toNat = p := ⟨_, rfl⟩
          have e1 : bits .xor .u8 (x.toNat : Int) (y.toNat : Int) = (p : Int) := by rw [u8_xor_nat _ _ (byte_lt x) (byte_lt y), ← hp, UInt8.toNat_xor]
          have e2 : bits .xor .u8 (p : Int) (z.toNat : Int) = (d.toNat : Int) := by rw [← hp, u8_xor_nat _ _ (byte_lt _) (byte_lt z), ← hd, UInt8.toNat_xor (x ^^^ y)]
          have hkn : k + 1 ≤ 2000 := by have := HN.out; omega
          clear hx hy hz hd hp
          go_wp2_with fail
          have hS : True := trivial
          refine wp_region_T 13 (fun _ => True) (by kernel_rfl) ?_
          refine wpAnyT_take (i := 0) (v := ?_) rfl (by kernel_rfl) (fun _ _ _ h => h) (Or.inl ⟨by rfl, ?_⟩) hS ?_
          rotate_left
          · intro w2 _
            go_simp
            first | done | with_reducible rfl
          try simp only [Act.put, List.getElem_toArray, List.getElem_cons_zero, List.setIfInBounds_toArray, List.set_cons_zero, List.set_cons_succ]
          refine wpAnyT_take (i := 1) (v := ?_) rfl (by kernel_rfl) (fun _ _ _ h => h) (Or.inl ⟨by rfl, ?_⟩) hS ?_
          rotate_left
          · intro w2 _
            go_simp
            first | done | with_reducible rfl
          try simp only [Act.put, List.getElem_toArray, List.getElem_cons_succ, List.getElem_cons_zero, List.setIfInBounds_toArray, List.set_cons_zero, List.set_cons_succ]
          refine wpAnyT_take (i := 2) (v := ?_) rfl (by kernel_rfl) (fun _ _ _ h => h) (Or.inl ⟨by rfl, ?_⟩) hS ?_
          rotate_left
          · intro w2 _
            go_simp
            first | done | with_reducible rfl
          try simp only [Act.put, List.getElem_toArray, List.getElem_cons_succ, List.getElem_cons_zero, List.setIfInBounds_toArray, List.set_cons_zero, List.set_cons_succ]
          refine wpAnyT_take (i := 3) (v := ?_) rfl (by kernel_rfl) (fun _ _ _ h => h) (Or.inl ⟨by rfl, ?_⟩) hS ?_
          rotate_left
          · intro w2 _
            go_simp
            first | done | with_reducible rfl
          try simp only [Act.put, List.getElem_toArray, List.getElem_cons_succ, List.getElem_cons_zero, List.setIfInBounds_toArray, List.set_cons_zero, List.set_cons_succ]
          refine wpAnyT_take (i := 4) (v := ?_) rfl (by kernel_rfl) (fun _ _ _ h => h) (Or.inl ⟨by rfl, ?_⟩) hS ?_
          rotate_left
          · intro w2 _
            go_simp
            first | done | with_reducible rfl
          try simp only [Act.put, List.getElem_toArray, List.getElem_cons_succ, List.getElem_cons_zero, List.setIfInBounds_toArray, List.set_cons_zero, List.set_cons_succ]
          refine wpAnyT_take (i := 5) (v := ?_) rfl (by kernel_rfl) (fun _ _ _ h => h) (Or.inl ⟨by rfl, ?_⟩) hS ?_
          rotate_left
          · intro w2 _
            go_simp
            first | done | with_reducible rfl
          try simp only [Act.put, List.getElem_toArray, List.getElem_cons_succ, List.getElem_cons_zero, List.setIfInBounds_toArray, List.set_cons_zero, List.set_cons_succ]
          refine wpAnyT_take (i := 6) (v := ?_) rfl (by kernel_rfl) (fun _ _ _ h => h) (Or.inl ⟨by rfl, ?_⟩) hS ?_
          rotate_left
          · intro w2 _
            go_simp
            first | done | with_reducible rfl
          try simp only [Act.put, List.getElem_toArray, List.getElem_cons_succ, List.getElem_cons_zero, List.setIfInBounds_toArray, List.set_cons_zero, List.set_cons_succ]
          refine wpAnyT_take (i := 7) (v := ?_) rfl (by kernel_rfl) (fun _ _ _ h => h) (Or.inl ⟨by rfl, ?_⟩) hS ?_
          rotate_left
          · intro w2 _
            go_simp
            first | done | with_reducible rfl
          try simp only [Act.put, List.getElem_toArray, List.getElem_cons_succ, List.getElem_cons_zero, List.setIfInBounds_toArray, List.set_cons_zero, List.set_cons_succ]
          refine wpAnyT_take (i := 8) (v := ?_) rfl (by kernel_rfl) (fun _ _ _ h => h) (Or.inl ⟨by rfl, ?_⟩) hS ?_
          rotate_left
          · intro w2 _
            go_simp
            first | done | with_reducible rfl
          try simp only [Act.put, List.getElem_toArray, List.getElem_cons_succ, List.getElem_cons_zero, List.setIfInBounds_toArray, List.set_cons_zero, List.set_cons_succ]
          refine wpAnyT_take (i := 9) (v := ?_) rfl (by kernel_rfl) (fun _ _ _ h => h) (Or.inl ⟨by rfl, ?_⟩) hS ?_
          rotate_left
          · intro w2 _
            go_simp
            first | done | with_reducible rfl
          try simp only [Act.put, List.getElem_toArray, List.getElem_cons_succ, List.getElem_cons_zero, List.setIfInBounds_toArray, List.set_cons_zero, List.set_cons_succ]
          refine wpAnyT_take (i := 10) (v := ?_) rfl (by kernel_rfl) (fun _ _ _ h => h) (Or.inl ⟨by rfl, ?_⟩) hS ?_
          rotate_left
          · intro w2 _
            go_simp
            first | done | with_reducible rfl
          try simp only [Act.put, List.getElem_toArray, List.getElem_cons_succ, List.getElem_cons_zero, List.setIfInBounds_toArray, List.set_cons_zero, List.set_cons_succ]
          refine wpAnyT_take (i := 11) (v := ?_) rfl (by kernel_rfl) (fun _ _ _ h => h) (Or.inl ⟨by rfl, ?_⟩) hS ?_
          rotate_left
          · intro w2 _
            go_simp
            first | done | with_reducible rfl
          try simp only [Act.put, List.getElem_toArray, List.getElem_cons_succ, List.getElem_cons_zero, List.setIfInBounds_toArray, List.set_cons_zero, List.set_cons_succ]
          refine wpAnyT_one (i := 12) rfl (by kernel_rfl) (fun K hK => ?_)
          go_simp
          refine hK.out _ _ trivial ?_
          clear hK K
          try simp only [Act.put, List.getElem_toArray, List.getElem_cons_succ, List.getElem_cons_zero, List.setIfInBounds_toArray, List.set_cons_zero, List.set_cons_succ]
          refine hide_T (X := fun W => Hid (W.ownsRow w.heap.size 5 1 u9 k (bc (xor3 (A.take k) (B.take k) (C.take k))) ∧ (∀ j u, (bc [d])[j]? = some u → W.cell? ((⟨wr.heap.size, 0, none⟩ : Addr).add j) = some u) ∧ Below w.heap.size w W)) (Lib.hid ⟨(HO.out.alloc _).drew, fun j u hj => (row_cell (w := wr) (vs := bc [d]) (t := 5) rfl j hj), below_drew (HB.out.alloc HB.out.size _) 1⟩) ?_
          obtain ⟨q, hq⟩ : ∃ y, wr.heap.size = y := ⟨_, rfl⟩
          rw [hq]
          clear hq HO HB wr
          intro wd HD
          refine wpAnyT_gate rfl (by kernel_rfl) (fun K hK => ?_)
          refine step_append_lies _ rfl (.tmp 27) (.tmp 39) 30 rfl w.heap.size 5 i0 (.int .u8 0) 1 1 Tryd.underlying30 hi0 hz0 hz1 hz2 rfl (by decide) u9 k (bc (xor3 (A.take k) (B.take k) (C.take k))) rfl HD.out.1 ⟨q, 0, none⟩ 1 1 (bc [d]) rfl rfl HD.out.2.1 (bc_one _) (by decide) (by unfold maxLen; omega) (by omega) HD.out.2.2.size _ rfl ?_
          intro g cap w3 hown1 hgrow1 hwh hgl
          refine hK.out _ _ ?_
          clear hK K
          have HB1 : Hid (Below w.heap.size w w3) := Lib.hid (HD.out.2.2.grown hgrow1 HD.out.2.2.size (fun q e => (HD.out.1.lt q e).1))
          have HO1 : Hid (w3.ownsRow w.heap.size 5 1 (.slice (some ⟨g, 0, none⟩) (k + 1) cap) (k + 1) (bc (xor3 (A.take (k + 1)) (B.take (k + 1)) (C.take (k + 1))))) := Lib.hid (by
            rw [HXk.out, bc_append]; exact hown1)
          clear hown1 hgrow1 hwh hgl HD HXk
          try simp only [Act.put, List.getElem_toArray, List.getElem_cons_succ, List.getElem_cons_zero, List.setIfInBounds_toArray, List.set_cons_zero, List.set_cons_succ]
          refine wpAny_take (i := 14) (v := ?_) rfl (by kernel_rfl) (by kernel_rfl) (by kernel_rfl) (fun _ _ _ h => h) (Or.inl ⟨by rfl, ?_⟩) ?_
          rotate_left
          · intro w2
            go_simp
            first | done | with_reducible rfl
          try simp only [Act.put, List.getElem_toArray, List.getElem_cons_succ, List.getElem_cons_zero, List.setIfInBounds_toArray, List.set_cons_zero, List.set_cons_succ]
          refine wpAny_done (by kernel_rfl) ?_ _
          go_wp2_with fail
          go_roundw
          case rel => exact ⟨k + 1, by omega, by go_num, HO1.out, HB1.out⟩
          case measure => simp [intOf]; omega
        · obtain rfl : k = n := by omega
          have dl : decide ((k : Int) < (k : Int)) = false := decide_eq_false (by omega)
          have hconv := back_own HO.out.drew
          have t1 : A.take k = A := by rw [← LA.out, List.take_length]
          have t2 : B.take k = B := by rw [← LB.out, List.take_length]
          have t3 : C.take k = C := by rw [← LC.out, List.take_length]
          rw [t1, t2, t3] at hconv
          have hXl : (xor3 A B C).length = k := by rw [xor3_length A B C (by rw [LA.out, LB.out]) (by rw [LA.out, LC.out]), LA.out]
          have CX := Lib.hid (fun W => crc_any (xor3 A B C) (by rw [hXl]; have := HN.out; omega) W)
          have CA := Lib.hid (fun W => crc_any A (by rw [LA.out]; have := HN.out; omega) W)
          have CB := Lib.hid (fun W => crc_any B (by rw [LB.out]; have := HN.out; omega) W)
          have CC := Lib.hid (fun W => crc_any C (by rw [LC.out]; have := HN.out; omega) W)
          rw [crc3 (by rw [LA.out, LB.out]) (by rw [LA.out, LC.out])] at CX
          have x1 := i64_xor (crc A) (crc B) (crc_lt A) (crc_lt B)
          have x2 := i64_xor (crc A ^^^ crc B) (crc C) (xor_lt (crc_lt A) (crc_lt B)) (crc_lt C)
          obtain ⟨X3, hX3⟩ : ∃ X, xor3 A B C = X := ⟨_, rfl⟩
          rw [hX3] at hconv CX
          generalize crc A ^^^ crc B ^^^ crc C = r3 at *
          generalize crc A ^^^ crc B = r2 at *
          generalize crc A = ra at *
          generalize crc B = rb at *
          generalize crc C = rc at *
          have heq : ((r3 : Int) == (r3 : Int)) = true := by simp
          have HBk := Lib.hid HB.out
          clear HO HB t1 t2 t3 hXl hX3 GA GB GC HX LA LB LC
          go_upto_region 10 with fail
          have hS : (convert 30 9 u9).run Tryd.prog wr.drew = .ok (.string (sv X3)) wr.drew := hconv
          clear hconv
          refine wp_region_T 21 (fun W => (convert 30 9 u9).run Tryd.prog W = .ok (.string (sv X3)) W) (by kernel_rfl) ?_
          refine wpAnyT_take (i := 0) (v := ?_) rfl (by kernel_rfl) (fun _ _ _ h => h) (Or.inl ⟨by rfl, ?_⟩) hS ?_
          rotate_left
          · intro w2 hw2
            try dsimp only at hw2
            go_simp
            first | done | with_reducible rfl
          try simp only [Act.put, List.getElem_toArray, List.getElem_cons_zero, List.setIfInBounds_toArray, List.set_cons_zero, List.set_cons_succ]
          refine wpAnyT_take (i := 1) (v := ?_) rfl (by kernel_rfl) (fun _ _ _ h => h) (Or.inl ⟨by rfl, ?_⟩) hS ?_
          rotate_left
          · intro w2 hw2
            try dsimp only at hw2
            go_simp
            first | done | with_reducible rfl
          try simp only [Act.put, List.getElem_toArray, List.getElem_cons_succ, List.getElem_cons_zero, List.setIfInBounds_toArray, List.set_cons_zero, List.set_cons_succ]
          refine wpAnyT_take (i := 2) (v := ?_) rfl (by kernel_rfl) (fun _ _ _ h => h) (Or.inl ⟨by rfl, ?_⟩) hS ?_
          rotate_left
          · intro w2 hw2
            try dsimp only at hw2
            go_simp
            first | done | with_reducible rfl
          try simp only [Act.put, List.getElem_toArray, List.getElem_cons_succ, List.getElem_cons_zero, List.setIfInBounds_toArray, List.set_cons_zero, List.set_cons_succ]
          refine wpAnyT_take (i := 3) (v := ?_) rfl (by kernel_rfl) (fun _ _ _ h => h) (Or.inl ⟨by rfl, ?_⟩) hS ?_
          rotate_left
          · intro w2 hw2
            try dsimp only at hw2
            go_simp
            first | done | with_reducible rfl
          try simp only [Act.put, List.getElem_toArray, List.getElem_cons_succ, List.getElem_cons_zero, List.setIfInBounds_toArray, List.set_cons_zero, List.set_cons_succ]
          refine wpAnyT_take (i := 5) (v := ?_) rfl (by kernel_rfl) (fun _ _ _ h => h) (Or.inl ⟨by rfl, ?_⟩) hS ?_
          rotate_left
          · intro w2 hw2
            try dsimp only at hw2
            go_simp
            first | done | with_reducible rfl
          try simp only [Act.put, List.getElem_toArray, List.getElem_cons_succ, List.getElem_cons_zero, List.setIfInBounds_toArray, List.set_cons_zero, List.set_cons_succ]
          refine wpAnyT_take (i := 6) (v := ?_) rfl (by kernel_rfl) (fun _ _ _ h => h) (Or.inl ⟨by rfl, ?_⟩) hS ?_
          rotate_left
          · intro w2 hw2
            try dsimp only at hw2
            go_simp
            first | done | with_reducible rfl
          try simp only [Act.put, List.getElem_toArray, List.getElem_cons_succ, List.getElem_cons_zero, List.setIfInBounds_toArray, List.set_cons_zero, List.set_cons_succ]
          refine wpAnyT_take (i := 7) (v := ?_) rfl (by kernel_rfl) (fun _ _ _ h => h) (Or.inl ⟨by rfl, ?_⟩) hS ?_
          rotate_left
          · intro w2 hw2
            try dsimp only at hw2
            go_simp
            first | done | with_reducible rfl
          try simp only [Act.put, List.getElem_toArray, List.getElem_cons_succ, List.getElem_cons_zero, List.setIfInBounds_toArray, List.set_cons_zero, List.set_cons_succ]
          refine wpAnyT_take (i := 9) (v := ?_) rfl (by kernel_rfl) (fun _ _ _ h => h) (Or.inl ⟨by rfl, ?_⟩) hS ?_
          rotate_left
          · intro w2 hw2
            try dsimp only at hw2
            go_simp
            first | done | with_reducible rfl
          try simp only [Act.put, List.getElem_toArray, List.getElem_cons_succ, List.getElem_cons_zero, List.setIfInBounds_toArray, List.set_cons_zero, List.set_cons_succ]
          refine wpAnyT_take (i := 10) (v := ?_) rfl (by kernel_rfl) (fun _ _ _ h => h) (Or.inl ⟨by rfl, ?_⟩) hS ?_
          rotate_left
          · intro w2 hw2
            try dsimp only at hw2
            go_simp
            first | done | with_reducible rfl
          try simp only [Act.put, List.getElem_toArray, List.getElem_cons_succ, List.getElem_cons_zero, List.setIfInBounds_toArray, List.set_cons_zero, List.set_cons_succ]
          refine wpAnyT_take (i := 11) (v := ?_) rfl (by kernel_rfl) (fun _ _ _ h => h) (Or.inl ⟨by rfl, ?_⟩) hS ?_
          rotate_left
          · intro w2 hw2
            try dsimp only at hw2
            go_simp
            first | done | with_reducible rfl
          try simp only [Act.put, List.getElem_toArray, List.getElem_cons_succ, List.getElem_cons_zero, List.setIfInBounds_toArray, List.set_cons_zero, List.set_cons_succ]
          refine wpAnyT_take (i := 14) (v := ?_) rfl (by kernel_rfl) (fun _ _ _ h => h) (Or.inl ⟨by rfl, ?_⟩) hS ?_
          rotate_left
          · intro w2 hw2
            try dsimp only at hw2
            go_simp
            first | done | with_reducible rfl
          try simp only [Act.put, List.getElem_toArray, List.getElem_cons_succ, List.getElem_cons_zero, List.setIfInBounds_toArray, List.set_cons_zero, List.set_cons_succ]
          refine wpAnyT_take (i := 15) (v := ?_) rfl (by kernel_rfl) (fun _ _ _ h => h) (Or.inl ⟨by rfl, ?_⟩) hS ?_
          rotate_left
          · intro w2 hw2
            try dsimp only at hw2
            go_simp
            first | done | with_reducible rfl
          try simp only [Act.put, List.getElem_toArray, List.getElem_cons_succ, List.getElem_cons_zero, List.setIfInBounds_toArray, List.set_cons_zero, List.set_cons_succ]
          refine wpAnyT_take (i := 16) (v := ?_) rfl (by kernel_rfl) (fun _ _ _ h => h) (Or.inl ⟨by rfl, ?_⟩) hS ?_
          rotate_left
          · intro w2 hw2
            try dsimp only at hw2
            go_simp
            first | done | with_reducible rfl
          try simp only [Act.put, List.getElem_toArray, List.getElem_cons_succ, List.getElem_cons_zero, List.setIfInBounds_toArray, List.set_cons_zero, List.set_cons_succ]
          refine wpAnyT_one (i := 4) rfl (by kernel_rfl) (fun K hK => ?_)
          go_simp
          refine (CX.out _).mono ?_
          rintro e w' ⟨rfl, rfl⟩
          refine hK.out _ _ hS ?_
          clear hK K
          try simp only [Act.put, List.getElem_toArray, List.getElem_cons_succ, List.getElem_cons_zero, List.setIfInBounds_toArray, List.set_cons_zero, List.set_cons_succ]
          refine wpAnyT_one (i := 8) rfl (by kernel_rfl) (fun K hK => ?_)
          go_simp
          refine (CA.out _).mono ?_
          rintro e w' ⟨rfl, rfl⟩
          refine hK.out _ _ hS ?_
          clear hK K
          try simp only [Act.put, List.getElem_toArray, List.getElem_cons_succ, List.getElem_cons_zero, List.setIfInBounds_toArray, List.set_cons_zero, List.set_cons_succ]
          refine wpAnyT_one (i := 12) rfl (by kernel_rfl) (fun K hK => ?_)
          go_simp
          refine (CB.out _).mono ?_
          rintro e w' ⟨rfl, rfl⟩
          refine hK.out _ _ hS ?_
          clear hK K
          try simp only [Act.put, List.getElem_toArray, List.getElem_cons_succ, List.getElem_cons_zero, List.setIfInBounds_toArray, List.set_cons_zero, List.set_cons_succ]
          refine wpAnyT_take (i := 13) (v := ?_) rfl (by kernel_rfl) (fun _ _ _ h => h) (Or.inl ⟨by rfl, ?_⟩) hS ?_
          rotate_left
          · intro w2 hw2
            try dsimp only at hw2
            go_simp
            first | done | with_reducible rfl
          try simp only [Act.put, List.getElem_toArray, List.getElem_cons_succ, List.getElem_cons_zero, List.setIfInBounds_toArray, List.set_cons_zero, List.set_cons_succ]
          refine wpAnyT_one (i := 17) rfl (by kernel_rfl) (fun K hK => ?_)
          go_simp
          refine (CC.out _).mono ?_
          rintro e w' ⟨rfl, rfl⟩
          refine hK.out _ _ hS ?_
          clear hK K
          try simp only [Act.put, List.getElem_toArray, List.getElem_cons_succ, List.getElem_cons_zero, List.setIfInBounds_toArray, List.set_cons_zero, List.set_cons_succ]
          refine wpAnyT_take (i := 18) (v := ?_) rfl (by kernel_rfl) (fun _ _ _ h => h) (Or.inl ⟨by rfl, ?_⟩) hS ?_
          rotate_left
          · intro w2 hw2
            try dsimp only at hw2
            go_simp
            first | done | with_reducible rfl
          try simp only [Act.put, List.getElem_toArray, List.getElem_cons_succ, List.getElem_cons_zero, List.setIfInBounds_toArray, List.set_cons_zero, List.set_cons_succ]
          refine wpAnyT_take (i := 19) (v := ?_) rfl (by kernel_rfl) (fun _ _ _ h => h) (Or.inl ⟨by rfl, ?_⟩) hS ?_
          rotate_left
          · intro w2 hw2
            try dsimp only at hw2
            go_simp
            first | done | with_reducible rfl
          try simp only [Act.put, List.getElem_toArray, List.getElem_cons_succ, List.getElem_cons_zero, List.setIfInBounds_toArray, List.set_cons_zero, List.set_cons_succ]
          refine wpAnyT_take (i := 20) (v := ?_) rfl (by kernel_rfl) (fun _ _ _ h => h) (Or.inl ⟨by rfl, ?_⟩) hS ?_
          rotate_left
          · intro w2 hw2
            try dsimp only at hw2
            go_simp
            first | done | with_reducible rfl
          try simp only [Act.put, List.getElem_toArray, List.getElem_cons_succ, List.getElem_cons_zero, List.setIfInBounds_toArray, List.set_cons_zero, List.set_cons_succ]
          refine wpAnyT_gate rfl (by kernel_rfl) (fun K hK => ?_)
          go_simp
          refine hK.out _ _ ?_
          clear hK K
          try simp only [Act.put, List.getElem_toArray, List.getElem_cons_succ, List.getElem_cons_zero, List.setIfInBounds_toArray, List.set_cons_zero, List.set_cons_succ]
          refine wpAny_done (by kernel_rfl) ?_ _
          go_wp2_with fail
          go_ret
          exact ⟨rfl, below_drew HBk.out 1⟩
theorem walk (S T U : ByteArray) (hS : S.size ≤ maxLen) (hT' : T.size ≤ maxLen) (hU : U.size ≤ maxLen) (w : World) (hT : Tb w) : Calls Tryd.prog 7 #[.string S, .string T, .string U] w (IsTrue w) := by
  have := walkL S.data.toList T.data.toList U.data.toList (by rw [← Lib.size_eq]; exact hS) (by rw [← Lib.size_eq]; exact hT') (by rw [← Lib.size_eq]; exact hU) w hT
  rwa [sv_of, sv_of, sv_of] at this
set_option maxRecDepth 100000 in
theorem lifted (os : Os) (started : os.Started) (H : Type) (enc : TypeId × Value → H) :
    ReturnsInHanded {} Tryd.checked os 7 .any (fun w args => (Rows.digestXorsSpec.pre enc Tryd.prog Tryd.f7 Rows.digestXorsRow.domain false w args ∧ laidMetH Tryd.prog Rows.digestXorsRow.laid w) ∧ sizedMet enc Tryd.prog Tryd.f7 (OpenSpec.ofChange Rows.digestXorsSpec) false w args)
      (Rows.digestXorsSpec.post enc Tryd.prog Tryd.f7 false true false false) := by
  refine returns_both (C := Tryd.checked) (X := fun w _ => laidMetH Tryd.prog Rows.digestXorsRow.laid w) (fun _ _ _ hh h => h.of_heap hh.symm) own started (by kernel_rfl) Tryd.func7
    (ChangeSpec.witness_shaped (enc := enc) (C := Tryd.checked) (os := os) (X := fun w _ => laidMetH Tryd.prog Rows.digestXorsRow.laid w) false (World.laidAll Tryd.prog os Rows.digestXorsRow.laid) #[.string ⟨#[]⟩, .string ⟨#[]⟩, .string ⟨#[]⟩] 8 (World.laidAll_os _ _ _)
      (World.shaped_of_ZipB (by kernel_rfl) (by kernel_rfl)) (by kernel_rfl) (by kernel_rfl) (by kernel_rfl)
      (by rw [MakeChecks.laidMetH_plain _ _ _ (by kernel_rfl)]; exact laidMet_laidAll _ (by kernel_rfl) (by kernel_rfl))) ?_
  intro W base args ds gs before hval0 hW hsh hX
  have hT : Tb W := tb_of_laid hX
  have hval : ∀ (j : Nat) t v, Tryd.f7.params[j]? = some t → args[j]? = some v → Value.okWide Tryd.prog W .any base t v := hval0
  have hW' := hW
  obtain ⟨p, q, hA0, hV, rfl, hfz, hnd⟩ := hW
  have hA : DataW.TrodAll enc Tryd.prog W 0 (fun _ => true) true Tryd.f7.params.toList args.toList ds p := hA0
  rw [Tryd.params7] at hA hval
  obtain ⟨v0, vs0, d0, ds0, p0, q0, hargs, rfl, rfl, h0, r0⟩ := trodAll_cons hA
  obtain ⟨v1, vs1, d1, ds1, p1, q1, rfl, rfl, rfl, h1, r1⟩ := trodAll_cons r0
  obtain ⟨v2, vs2, d2, ds2, p2, q2, rfl, rfl, rfl, h2, r2⟩ := trodAll_cons r1
  obtain ⟨rfl, rfl, rfl⟩ := trodAll_nil r2
  obtain rfl : args = #[v0, v1, v2] := by cases args; simp_all
  obtain ⟨rfl, rfl⟩ := trodVars_none hV
  obtain ⟨s0, rfl, rfl, rfl, ws0⟩ := Go.ChangeMaps.open_string Tryd.underlying9 (hval 0 9 v0 rfl rfl) h0
  obtain ⟨s1, rfl, rfl, rfl, ws1⟩ := Go.ChangeMaps.open_string Tryd.underlying9 (hval 1 9 v1 rfl rfl) h1
  obtain ⟨s2, rfl, rfl, rfl, ws2⟩ := Go.ChangeMaps.open_string Tryd.underlying9 (hval 2 9 v2 rfl rfl) h2
  clear hA0 hval0
  simp only [List.append_nil] at hW'
  refine (walk s0 s1 s2 ws0 ws1 ws2 W hT).mono fun e W' ⟨he, hb⟩ => ?_
  subst he
  exact ⟨_, rfl, _, _, _, [], _, [], hW', (trodAll_cons_mk (shut_bool Tryd.underlying4 _) trodAll_mk0), (trodAll_cons_mk (Go.ChangeMaps.shut_string Tryd.underlying9 ws0) (trodAll_cons_mk (Go.ChangeMaps.shut_string Tryd.underlying9 ws1) (trodAll_cons_mk (Go.ChangeMaps.shut_string Tryd.underlying9 ws2) trodAll_mk0))), rfl, hb.frame _, fun h => by cases h⟩

theorem over : Rows.DigestXorsSaid :=
  OpenClaim.holds_of_wide 7 Tryd.f7 rfl rfl rfl rfl rfl rfl rfl ⟨rfl, rfl, rfl, rfl, rfl⟩ rfl rfl rfl rfl rfl (by kernel_rfl) Tryd.func7 (by kernel_rfl)
    (of_decide_eq_true (by kernel_rfl)) (by unfold Func.isWrapper; first | (rw [if_pos (by decide +kernel)]; kernel_rfl) | (rw [if_neg (by decide +kernel)]; exact ⟨rfl, rfl⟩))
    (fun os started H enc _ => lifted os started H enc)
theorem proved : Rows.DigestXorsCardSaid :=
  Claim7.holds_tied_plain_at .later [] [.data, .data] true Rows.digestXorsCard.stood.harness false over (fun _ h => by cases h) (by kernel_rfl) (fun _ h => by cases h) digestXors_row_tie rfl ⟨rfl, rfl⟩ (by kernel_rfl) rfl
    (fun f fn hf hfn => by
      obtain rfl : f = 7 := Option.some.inj ((show Tryd.prog.funcNamed "bourne/bournelaw03.DigestXors" = some 7 by kernel_rfl).symm.trans hf) |>.symm
      obtain rfl : fn = Tryd.f7 := (Option.some.inj (Tryd.func7.symm.trans hfn)).symm
      exact ⟨by kernel_rfl, fun j t ht => by
        rw [Tryd.params7] at ht
        have hm : t ∈ [9] := by simpa using Array.mem_of_getElem? ht
        have hall : ([9].all fun u => !Tryd.prog.wantsStandIn u) = true := by kernel_rfl
        exact (show Tryd.prog.wantsStandIn t = false by simpa using List.all_eq_true.1 hall t hm)⟩)
    (by kernel_rfl)
end Go.Proofs.YtobhbdaenlkodaaDoor.digestXors
