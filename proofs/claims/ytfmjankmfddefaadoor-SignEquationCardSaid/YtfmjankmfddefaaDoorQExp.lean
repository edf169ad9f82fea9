/- group.Exp returns the power modulo P. Conditions: the exponent is an int. -/
import Derived.Test.YtfmjankmfddefaaDoorQMod
import Derived.Deep.DeepCutAuto
namespace Go.Proofs.YtfmjankmfddefaaDoor.Gp
set_option linter.unusedVariables false
open Go.RowKit Grp

theorem ret_i0 {a b : Int} (h : b = a) : Value.int .i64 a = .int .i64 b := by rw [h]
theorem bit_none {a : Int} {E k : Nat} (h : E / 2 ^ k % 2 = 0) : ex a (E % 2 ^ k) = ex a (E % 2 ^ (k + 1)) := by
  rw [Nat.mod_pow_succ, h, Nat.mul_zero, Nat.add_zero]
theorem bit_one {a B : Int} {E k : Nat} (h : E / 2 ^ k % 2 = 1) (hB : rp B = ex a (2 ^ k)) : mu (ex a (E % 2 ^ k)) B = ex a (E % 2 ^ (k + 1)) := by
  rw [Nat.mod_pow_succ, h, Nat.mul_one, ex_add, ← hB, mu_rp']
theorem sq_next {a B : Int} {k : Nat} (hB : rp B = ex a (2 ^ k)) : rp (mu B B) = ex a (2 ^ (k + 1)) := by
  rw [rp_mu, Nat.pow_succ, Nat.mul_two, ex_add, ← hB, mu_rp, mu_rp']
theorem shift_nat (E k : Nat) (h : k < 63) : (E : Int) / 2 ^ min k 64 = ((E / 2 ^ k : Nat) : Int) := by
  rw [Nat.min_eq_left (by omega), Int.natCast_ediv, Int.natCast_pow]; rfl
set_option maxHeartbeats 1600000 in
theorem exp_walk (a e : Int) (E L : Nat) (hE : (if e < 0 then rq e else e) = (E : Int)) (hL : Lib.bitLen E = L) (hl : L ≤ 63) (hlt : E < 2 ^ L)
    (uE : IntKind.u64.wrap (E : Int) = (E : Int)) (w : World) :
    Calls Tryd.prog 24 #[.int .i64 a, .int .i64 e] w fun x w' => x = .returned (.int .i64 (ex a E)) ∧ ∃ n, w' = w.drewN n := by
  have hlen := fun W => Tryd.bits_Len (E : Int) W (by omega) (by have := Nat.pow_le_pow_right (show 0 < 2 by decide) hl; omega)
  rw [Int.toNat_natCast, hL] at hlen
  have HLEN := Lib.hid hlen
  have HL := Lib.hid hl
  have HLT := Lib.hid hlt
  clear hlen hl hlt hL
  go_enter Tryd.func24, Tryd.ntmps24
  by_cases h : e < 0
  case' pos =>
    rw [if_pos h] at hE
    have HE := Lib.hid hE
    clear hE
    go_wp2_with fail
    refine (resq_any _ _).mono ?_
    rintro x w' ⟨rfl, rfl⟩
    rw [HE.out]
    go_wp2_with fail
  case' neg =>
    rw [if_neg h] at hE
    subst hE
    go_wp2_with fail
  all_goals
    refine (HLEN.out _).mono ?_
    rintro x w' ⟨rfl, rfl⟩
    go_wp2_with fail
    go_loopw [0, 5, 14] (fun b p i wr => ∃ k : Nat, ∃ B : Int, k ≤ L ∧ i = .int .i64 k ∧ p = .int .i64 (ex a (E % 2 ^ k)) ∧ b = .int .i64 B ∧ Hid (rp B = ex a (2 ^ k)) ∧ ∃ n, wr = w'.drewN n) (fun _ _ i _ => L - (intOf i).toNat)
    case atStart => exact ⟨0, a, Nat.zero_le _, rfl, ret_i0 (by rw [Nat.pow_zero, Nat.mod_one, ex_zero]), rfl, Lib.hid (by rw [Nat.pow_zero, ex_one]), 0, rfl⟩
    case round =>
      obtain ⟨k, B, hk, rfl, rfl, rfl, HB, n, rfl⟩ := hrel
      by_cases hlt : k < L
      · have HK := Lib.hid hlt
        have hw : wrap64 ((k : Int) + 1) = ((k + 1 : Nat) : Int) := by have := HL.out; unfold wrap64; omega
        have HW := Lib.hid hw
        clear hw
        have hs := shift_nat E k (by have := HL.out; omega)
        have hb := and1 ((E / 2 ^ k : Nat) : Int)
        have h2 := Nat.mod_two_eq_zero_or_one (E / 2 ^ k)
        have n1 := Lib.hid (bit_none (a := a) (E := E) (k := k))
        have n2 := Lib.hid (bit_one (a := a) (E := E) (k := k) (B := B))
        have n3 := Lib.hid (sq_next HB.out)
        generalize hq : E / 2 ^ k = q at *
        have HQ := Lib.hid hq
        clear hq
        have hk64 : ¬ ((k : Int) < 0) := by omega
        rcases h2 with h2 | h2
        · rw [show ((q : Int) % 2) = 0 by omega] at hb
          have N1 := Lib.hid (n1.out h2)
          clear n1 n2 h2
          go_wp2_with fail
          refine (mul_any _ _ _).mono ?_
          rintro x w2 ⟨rfl, m, rfl⟩
          go_wp2_with fail
          clear hs hb uE hk64
          go_roundw
          case rel => exact ⟨k + 1, mu B B, HK.out, ret_i0 HW.out.symm, ret_i0 N1.out.symm, rfl, n3, _, rfl⟩
          case measure => rw [HW.out]; simp [intOf]; have := HK.out; omega
        · rw [show ((q : Int) % 2) = 1 by omega] at hb
          have N2 := Lib.hid (n2.out h2 HB.out)
          clear n1 n2 h2
          go_wp2_with fail
          refine (mul_any _ _ _).mono ?_
          rintro x w2 ⟨rfl, m, rfl⟩
          go_wp2_with fail
          refine (mul_any _ _ _).mono ?_
          rintro x w2 ⟨rfl, m2, rfl⟩
          go_wp2_with fail
          clear hs hb uE hk64
          go_roundw
          case rel => exact ⟨k + 1, mu B B, HK.out, ret_i0 HW.out.symm, ret_i0 N2.out.symm, rfl, n3, _, rfl⟩
          case measure => rw [HW.out]; simp [intOf]; have := HK.out; omega
      · obtain rfl : k = L := by omega
        rw [Nat.mod_eq_of_lt HLT.out]
        go_wp2_with fail
        go_ret
        exact ⟨rfl, _, rfl⟩
/-- group.Exp at every base and every exponent that is an int. -/
theorem exp_any (a e : Int) (he : I64 e) (w : World) : Calls Tryd.prog 24 #[.int .i64 a, .int .i64 e] w fun x w' => x = .returned (.int .i64 (xe a e)) ∧ ∃ n, w' = w.drewN n := by
  have hE : (if e < 0 then rq e else e) = ((er e : Nat) : Int) := by unfold er rq; split <;> omega
  have hlt : er e < 9223372036854775808 := by unfold I64 at he; unfold er; split <;> omega
  show Calls _ _ _ _ fun x w' => x = .returned (.int .i64 (ex a (er e))) ∧ ∃ n, w' = w.drewN n
  generalize er e = E at *
  have hb : Lib.bitLen E ≤ 63 := Lib.bitLen_le E 63 (by omega) (by simpa using hlt)
  have hE2 : E < 2 ^ Lib.bitLen E := by
    by_cases h0 : E = 0
    · subst h0; exact Nat.two_pow_pos _
    · exact (Lib.bitLenAux_bounds 64 E (by omega) (by omega)).2.2
  exact exp_walk a e E _ hE rfl hb hE2 (by rw [IntKind.wrap_u64]; omega) w
end Go.Proofs.YtfmjankmfddefaaDoor.Gp
