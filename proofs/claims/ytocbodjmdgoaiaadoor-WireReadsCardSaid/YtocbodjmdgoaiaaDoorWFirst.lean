/- What a reader finds at the beginning of a text: an int that is encoded there, or nothing. Conditions: the text has at most 2^20 bytes. -/
import Derived.Test.YtocbodjmdgoaiaaDoorWList
namespace Go.Proofs.YtocbodjmdgoaiaaDoor
open Go.RowKit Wm
set_option linter.unusedVariables false

def fiN (s : Bs) : Int := match decI s with | some p => p.1 | none => 0
def fiZ (s : Bs) : Nat := match decI s with | some p => 1 + kOf p.1 | none => 0
theorem fi_yes {s u : Bs} {m : Int} (h : decI s = some (m, u)) : fiN s = m ∧ fiZ s = 1 + kOf m := by simp [fiN, fiZ, h]
theorem fi_no {s : Bs} (h : decI s = none) : fiN s = 0 ∧ fiZ s = 0 := by simp [fiN, fiZ, h]
theorem ret_ii {a b c d : Int} (h : a = b) (h' : c = d) : Ending.returned (.tuple #[.int .i64 a, .int .i64 c]) = .returned (.tuple #[.int .i64 b, .int .i64 d]) := by rw [h, h']
theorem sv_get (l : Bs) (k : Nat) (h : k < (sv l).size) : (sv l)[k] = l[k]'(by rw [sv_size] at h; exact h) := by
  simp [sv, ByteArray.getElem_eq_getElem_data]
theorem sv_cons_ne (h : UInt8) (t : Bs) : (sv (h :: t)).toList.isEmpty = false := by rw [sv_toList]; rfl
/-- An int of 64 bits that is the same up to multiples of 2^64. -/
def w64 (x : Int) : Int := IntKind.i64.wrap x
theorem w64_bd (x : Int) : J64 (w64 x) := by unfold w64 J64; rw [IntKind.wrap_i64]; omega
theorem w64_in {x : Int} (h : J64 x) : w64 x = x := by unfold w64; unfold J64 at h; rw [IntKind.wrap_i64]; omega
theorem w64_off (x : Int) : ∃ c : Int, w64 x = x + c * 18446744073709551616 := by
  unfold w64
  rw [IntKind.wrap_i64]
  exact ⟨-((x + 9223372036854775808) / 18446744073709551616), by omega⟩

theorem or_byte (v : Int) (x : Nat) (hx : x < 256) : bits .or .i64 (wrap64 (w64 v * 256)) (x : Int) = w64 (v * 256 + x) := by
  obtain ⟨c, hc⟩ := w64_off v
  rw [hc]
  show IntKind.i64.wrap ((BitVec.ofInt 64 (wrap64 ((v + c * 18446744073709551616) * 256)) ||| BitVec.ofInt 64 (x : Int)).toNat : Int) = w64 _
  rw [BitVec.toNat_or, BitVec.toNat_ofInt, BitVec.toNat_ofInt]
  have e1 : (wrap64 ((v + c * 18446744073709551616) * 256) % ((2 ^ 64 : Nat) : Int)).toNat = 2 ^ 8 * ((v % 72057594037927936).toNat) := by
    unfold wrap64
    have : (0 : Int) ≤ v % 72057594037927936 := Int.emod_nonneg v (by decide)
    omega
  have e2 : (((x : Int)) % ((2 ^ 64 : Nat) : Int)).toNat = x := by omega
  rw [e1, e2, ← Nat.two_pow_add_eq_or_of_lt (by omega : x < 2 ^ 8)]
  unfold w64
  rw [IntKind.wrap_i64, IntKind.wrap_i64]
  have : (0 : Int) ≤ v % 72057594037927936 := Int.emod_nonneg v (by decide)
  omega

set_option maxHeartbeats 1000000 in
set_option maxRecDepth 100000 in
theorem firstInt_empty (w : World) : Calls Tryd.prog 47 #[.string (sv [])] w fun e w' => e = .returned (.tuple #[.int .i64 (fiN []), .int .i64 (fiZ [] : Nat)]) ∧ w = w' := by
  have e1 : (sv []).toList.isEmpty = true := by rw [sv_toList]; rfl
  go_enter Tryd.func47, Tryd.ntmps47
  go_wp2
  go_ret2
  exact ⟨rfl, rfl⟩

set_option maxHeartbeats 2000000 in
set_option maxRecDepth 100000 in
theorem firstInt_cons (h : UInt8) (t : Bs) (hs : t.length ≤ 1048576) (w : World) : Calls Tryd.prog 47 #[.string (sv (h :: t))] w fun e w' => e = .returned (.tuple #[.int .i64 (fiN (h :: t)), .int .i64 (fiZ (h :: t) : Nat)]) ∧ w = w' := by
  have e1 := sv_cons_ne h t
  have hsz : (sv (h :: t)).size = t.length + 1 := rfl
  have hg0 : ∀ p : 0 < (sv (h :: t)).size, ((sv (h :: t))[0]).toNat = h.toNat := fun p => by rw [sv_get]; rfl
  have hg : ∀ j (p : j + 1 < (sv (h :: t)).size) (q : j < t.length), (sv (h :: t))[j + 1] = t[j] := fun j p q => by rw [sv_get]; rfl
  have hlt := h.toNat_lt
  have hK : kH h = if h.toNat < 128 then 127 - h.toNat else h.toNat - 128 := by unfold kH isNeg; by_cases hh : h.toNat < 128 <;> simp [hh]
  have hst : st h = if h.toNat < 128 then -1 else 0 := by unfold st isNeg; by_cases hh : h.toNat < 128 <;> simp [hh]
  have hneg : isNeg h = decide (h.toNat < 128) := rfl
  have hk127 : kH h ≤ 127 := by rw [hK]; split <;> omega
  have hst1 : st h = -1 ∨ st h = 0 := by rw [hst]; split <;> simp
  have hyes := fun u m => decI_yes (h := h) (t := t) (u := u) (m := m)
  have hno := fun (hx : decI (h :: t) = none) (hk : kH h ≤ t.length) m => decI_no hx hk (m := m)
  have h0 : 0 < (sv (h :: t)).size := by rw [hsz]; omega
  have hg1 := hg0 h0
  generalize hF : h :: t = l at *
  generalize hS : sv l = S at *
  generalize h.toNat = a at *
  generalize kH h = K at *
  generalize hs0 : st h = s0 at *
  generalize isNeg h = neg at *
  have HY := Lib.hid hyes
  have HNO := Lib.hid hno
  have HG := Lib.hid hg
  have HSZ := Lib.hid hsz
  have HNEG := Lib.hid hneg
  have hSl : S.size ≤ 1048577 := by omega
  clear hyes hno hg hsz hg0 hF hS hneg hs0
  go_enter Tryd.func47, Tryd.ntmps47
  go_upto_if 16 with fail
  go_cut [5, 6] (fun n k wc => n = .int .i64 s0 ∧ k = .int .i64 (K : Nat) ∧ w = wc)
  case first =>
    by_cases hh : a < 128
    · have d : decide (a < 128) = true := decide_eq_true hh
      have ek : (127 - (a : Int)) = (K : Int) := by rw [hK, if_pos hh]; omega
      have es : s0 = -1 := by rw [hst, if_pos hh]
      have EK := Lib.hid ek
      have ES := Lib.hid es
      clear hK hst ek es hst1
      go_wp2_with fail
      go_meet
      exact ⟨by rw [ES.out], by rw [EK.out], rfl⟩
    · have d : decide (a < 128) = false := decide_eq_false hh
      have ek : ((a : Int) - 128) = (K : Int) := by rw [hK, if_neg hh]; omega
      have es : s0 = 0 := by rw [hst, if_neg hh]
      have EK := Lib.hid ek
      have ES := Lib.hid es
      clear hK hst ek es hst1
      go_wp2_with fail
      go_meet
      exact ⟨by rw [ES.out], by rw [EK.out], rfl⟩
  case rest =>
    obtain ⟨rfl, rfl, rfl⟩ := hcut
    clear hK hst hg1 e1
    by_cases hkl : S.size ≤ K
    · have hfi : fiN l = 0 ∧ fiZ l = 0 := by
        cases hd : decI l with
        | none => exact fi_no hd
        | some p =>
          obtain ⟨m, u⟩ := p
          have := (HY.out u m hd).1
          have := HSZ.out
          omega
      have HFI := Lib.hid hfi
      clear hfi
      have d2 : decide (S.size ≤ K) = true := decide_eq_true hkl
      go_wp2_with fail
      go_ret2
      exact ⟨by rw [HFI.out.1, HFI.out.2]; rfl, rfl⟩
    · have d2 : decide (S.size ≤ K) = false := decide_eq_false hkl
      have hkt : K ≤ t.length := by have := HSZ.out; omega
      go_wp2_with fail
      go_loop [5, 7] (fun n i => ∃ j : Nat, j ≤ K ∧ i = .int .i64 ((j : Int) + 1) ∧ n = .int .i64 (w64 (bval s0 (t.take j)))) (fun _ i => K + 1 - (intOf i).toNat)
      case atStart => exact ⟨0, Nat.zero_le _, rfl, by rcases hst1 with e | e <;> rw [e] <;> rfl⟩
      case round =>
        obtain ⟨j, hj, rfl, rfl⟩ := hrel
        by_cases hlt : j < K
        · have hjt : j < t.length := by omega
          have hjS : j + 1 < S.size := by omega
          have hgj := HG.out j hjS hjt
          have hsn : bval s0 (t.take (j + 1)) = bval s0 (t.take j) * 256 + (t[j].toNat : Int) := by
            rw [List.take_succ_eq_append_getElem hjt, bval_snoc]
          generalize t[j] = x at *
          have HSN := Lib.hid hsn
          clear hsn
          generalize bval s0 (t.take j) = v at *
          have hx := x.toNat_lt
          have hw := w64_bd v
          unfold J64 at hw
          generalize hq : w64 v = q at *
          have HQ := Lib.hid hq
          clear hq
          go_wp2_with fail
          go_round
          case rel => exact ⟨j + 1, by omega, by congr 1, by rw [HSN.out, ← HQ.out, or_byte v _ hx]⟩
          case measure => simp [intOf]; omega
        · obtain rfl : j = K := by omega
          have hw := w64_bd (bval s0 (t.take j))
          have hoff := w64_off (bval s0 (t.take j))
          have hyw : ∀ m u, decI l = some (m, u) → w64 (bval s0 (t.take j)) = m ∧ kOf m = j ∧ (m < 0 ↔ neg = true) := fun m u hd => by
            obtain ⟨_, h2, h3, h4, _, h6⟩ := HY.out u m hd
            rw [h2]
            exact ⟨w64_in h3, h4, h6⟩
          have hnw := fun hd => HNO.out hd hkt (w64 (bval s0 (t.take j))) hw hoff
          have c1 := fun W => width_any (w64 (bval s0 (t.take j))) hw W
          clear hoff
          generalize w64 (bval s0 (t.take j)) = q at *
          have hkq := kOf_le q
          cases hd : decI l with
          | some p =>
            obtain ⟨m, u⟩ := p
            obtain ⟨rfl, h2, h3⟩ := hyw m u hd
            have hf := fi_yes hd
            rw [h2] at hf
            have hb : decide (q < 0) = decide (a < 128) := by rw [← HNEG.out]; cases neg <;> simp_all
            rw [h2] at c1
            have C1 := Lib.hid c1
            have HF := Lib.hid hf
            clear hyw hnw h2 h3 hf c1 hd
            have dj : ((j : Int) != (j : Int)) = false := by simp
            unfold J64 at hw
            by_cases ha : a < 128
            · have hq : q < 0 := by simpa [ha] using hb
              have d3 : decide (q < 0) = true := decide_eq_true hq
              have d4 : decide ((a : Int) < 128) = true := decide_eq_true (by omega)
              clear hb
              go_wp2_with fail
              refine (C1.out _).mono ?_
              rintro e w' ⟨rfl, rfl⟩
              go_wp2_with fail
              go_ret2
              exact ⟨ret_ii HF.out.1.symm (by rw [HF.out.2]; omega), rfl⟩
            · have hq : ¬ q < 0 := by simpa [ha] using hb
              have d3 : decide (q < 0) = false := decide_eq_false hq
              have d4 : decide ((a : Int) < 128) = false := decide_eq_false (by omega)
              clear hb
              go_wp2_with fail
              refine (C1.out _).mono ?_
              rintro e w' ⟨rfl, rfl⟩
              go_wp2_with fail
              go_ret2
              exact ⟨ret_ii HF.out.1.symm (by rw [HF.out.2]; omega), rfl⟩
          | none =>
            have hf := fi_no hd
            have HF := Lib.hid hf
            have hne := hnw hd
            clear hyw hnw hf hd
            have hbad : kOf q ≠ j ∨ (kOf q = j ∧ decide (q < 0) ≠ decide (a < 128)) := by
              by_cases hkj : kOf q = j
              · right
                refine ⟨hkj, fun e => hne hkj ?_⟩
                rw [HNEG.out, ← e]
                simp
              · exact .inl hkj
            clear hne
            generalize kOf q = Q at *
            have C1 := Lib.hid c1
            clear c1
            unfold J64 at hw
            rcases hbad with hb | ⟨rfl, hb⟩
            · have dj : ((Q : Int) != (j : Int)) = true := by simp; omega
              clear hb
              go_wp2_with fail
              refine (C1.out _).mono ?_
              rintro e w' ⟨rfl, rfl⟩
              go_wp2_with fail
              go_ret2
              exact ⟨ret_ii HF.out.1.symm (by rw [HF.out.2]; rfl), rfl⟩
            · have dj : ((Q : Int) != (Q : Int)) = false := by simp
              by_cases ha : a < 128
              · have hq : ¬ q < 0 := by simpa [ha] using hb
                have d3 : decide (q < 0) = false := decide_eq_false hq
                have d4 : decide ((a : Int) < 128) = true := decide_eq_true (by omega)
                clear hb
                go_wp2_with fail
                refine (C1.out _).mono ?_
                rintro e w' ⟨rfl, rfl⟩
                go_wp2_with fail
                go_ret2
                exact ⟨ret_ii HF.out.1.symm (by rw [HF.out.2]; rfl), rfl⟩
              · have hq : q < 0 := by simpa [ha] using hb
                have d3 : decide (q < 0) = true := decide_eq_true hq
                have d4 : decide ((a : Int) < 128) = false := decide_eq_false (by omega)
                clear hb
                go_wp2_with fail
                refine (C1.out _).mono ?_
                rintro e w' ⟨rfl, rfl⟩
                go_wp2_with fail
                go_ret2
                exact ⟨ret_ii HF.out.1.symm (by rw [HF.out.2]; rfl), rfl⟩
theorem firstInt_any (s : Bs) (hs : s.length ≤ 1048576) (w : World) : Calls Tryd.prog 47 #[.string (sv s)] w fun e w' => e = .returned (.tuple #[.int .i64 (fiN s), .int .i64 (fiZ s : Nat)]) ∧ w = w' := by
  cases s with
  | nil => exact firstInt_empty w
  | cons h t => exact firstInt_cons h t (by simp at hs; omega) w
end Go.Proofs.YtocbodjmdgoaiaaDoor
