/- bournelaw03.flipped: some of 16 consecutive bits turned. Conditions: the string has at most 2000 bytes; the bit is one of its bits. -/
import Derived.Test.YtobhbdaenlkodaaDoorGCard
namespace Go.Proofs.YtobhbdaenlkodaaDoor
open Go.RowKit Gm
set_option linter.unusedVariables false

theorem mul_xor (a b k : Nat) : (a ^^^ b) * 2 ^ k = a * 2 ^ k ^^^ b * 2 ^ k := by
  rw [← Nat.shiftLeft_eq, ← Nat.shiftLeft_eq, ← Nat.shiftLeft_eq, Nat.shiftLeft_xor_distrib]
theorem add_bit (m i : Nat) (h : m < 2 ^ i) : m ^^^ 2 ^ i < 2 ^ (i + 1) :=
  Nat.xor_lt_two_pow (Nat.lt_trans h (Nat.pow_lt_pow_right (by decide) (by omega))) (Nat.pow_lt_pow_right (by decide) (by omega))
/-- Is bit i of the pattern set? -/
def pb (P : Int) (i : Nat) : Bool := bits .and .i64 (P / 2 ^ i) 1 == 1

set_option maxHeartbeats 2000000 in
set_option maxRecDepth 100000 in
theorem flipped_any (s : Bs) (hs : s.length ≤ 2000) (bit : Nat) (hbit : bit < 8 * s.length) (P : Int) (w : World) :
    Calls Tryd.prog 20 #[.string (sv s), .int .i64 bit, .int .i64 P] w fun e w' => (∃ t : Bs, ∃ p : Nat, e = .returned (.string (sv t)) ∧ t.length = s.length ∧ p < 65536 ∧ leN t = leN s ^^^ (p * 2 ^ bit)) ∧ Below w.heap.size w w' := by
  obtain ⟨n, hn⟩ : ∃ n, s.length = n := ⟨_, rfl⟩
  obtain ⟨cap, w2, hcv, hbf, hb2⟩ := to_bytes s w
  rw [hn] at hcv hbit hs ⊢
  have HN := Lib.hid hn
  have HBF := Lib.hid hbf
  have HB2 := Lib.hid hb2
  have HBIT := Lib.hid hbit
  obtain ⟨g, hg⟩ : ∃ y, w.heap.size = y := ⟨_, rfl⟩
  rw [hg] at hcv HBF HB2 ⊢
  have hb16 : bit < 16000 := by omega
  clear hn hbf hb2 hg hbit
  go_enter Tryd.func20, Tryd.ntmps20
  go_wp2_with fail
  go_loopw [8] (fun i wr => ∃ k : Nat, k ≤ 16 ∧ i = .int .i64 k ∧ Hid (∃ l : Bs, ∃ p : Nat, Bf wr g l ∧ l.length = n ∧ p < 2 ^ k ∧ leN l = leN s ^^^ (p * 2 ^ bit) ∧ Below g w wr)) (fun i _ => 16 - (intOf i).toNat)
  case atStart => exact ⟨0, Nat.zero_le _, rfl, Lib.hid ⟨s, 0, HBF.out, HN.out, by decide, by rw [Nat.zero_mul, Nat.xor_zero], HB2.out⟩⟩
  case round =>
    obtain ⟨k, hk, rfl, HK⟩ := hrel
    obtain ⟨l, p, hK1, hK2, hK3, hK4, hK5⟩ := HK.out
    have HL := Lib.hid (And.intro hK1 (And.intro hK2 (And.intro hK3 (And.intro hK4 hK5))))
    clear HK hK1 hK3 hK4 hK5 hK2
    by_cases hlt : k < 16
    · have dl : decide ((k : Int) < 16) = true := decide_eq_true (by omega)
      have hpb : pb P k = (bits .and .i64 (P / 2 ^ k) 1 == 1) := rfl
      have hk63 : k ≤ 63 := by omega
      cases hc : pb P k with
      | false =>
        rw [hc] at hpb
        have hpb2 := hpb.symm
        have HKN : Hid (∃ l : Bs, ∃ p : Nat, Bf wr g l ∧ l.length = n ∧ p < 2 ^ (k + 1) ∧ leN l = leN s ^^^ (p * 2 ^ bit) ∧ Below g w wr) := Lib.hid ⟨l, p, HL.out.1, HL.out.2.1, Nat.lt_trans HL.out.2.2.1 (Nat.pow_lt_pow_right (by decide) (by omega)), HL.out.2.2.2.1, HL.out.2.2.2.2⟩
        clear hpb hc HL
        go_wp2_with fail
        refine ⟨⟨k + 1, by omega, rfl, HKN⟩, by simp [intOf]; omega⟩
      | true =>
        rw [hc] at hpb
        have hpb2 := hpb.symm
        clear hpb hc
        by_cases hat : bit + k < 8 * n
        · have da : decide ((bit : Int) + (k : Int) < 8 * (n : Int)) = true := decide_eq_true (by omega)
          obtain ⟨q, hq⟩ : ∃ q, (bit + k) / 8 = q := ⟨_, rfl⟩
          obtain ⟨r, hr⟩ : ∃ q, (bit + k) % 8 = q := ⟨_, rfl⟩
          have e1 : ((bit : Int) + (k : Int)) / 8 = (q : Int) := by omega
          have e2 : ((bit : Int) + (k : Int)) % 8 = (r : Int) := by omega
          have e3 : Int.tdiv ((bit : Int) + (k : Int)) 8 = (q : Int) := by rw [Int.tdiv_eq_ediv_of_nonneg (by omega)]; exact e1
          have e4 : Int.tmod ((bit : Int) + (k : Int)) 8 = (r : Int) := by rw [Int.tmod_eq_emod_of_nonneg (by omega)]; exact e2
          have hqn : q < n := by omega
          have hqn' : (q : Int) < (n : Int) := by omega
          have hr8 : r < 8 := by omega
          have hr63 : r ≤ 63 := by omega
          obtain ⟨old, hold⟩ : ∃ o, (l.getD q 0) = o := ⟨_, rfl⟩
          have hcell : wr.drew.cell? ⟨g, q, none⟩ = some (.int .u8 (old.toNat : Int)) := (HL.out.1.1 q (by rw [HL.out.2.1]; exact hqn)).trans (by rw [hold])
          have hfz : wr.drew.frozen? ⟨g, q, none⟩ = false := HL.out.1.2.1 q (by rw [HL.out.2.1]; exact hqn)
          obtain ⟨z, hz⟩ : ∃ z : UInt8, UInt8.ofNat (old.toNat ^^^ 2 ^ r) = z := ⟨_, rfl⟩
          have hpow : (2 : Nat) ^ r < 256 := Nat.lt_of_lt_of_le (Nat.pow_lt_pow_right (by decide) hr8) (by decide)
          obtain ⟨c, hc⟩ : ∃ c : Nat, 2 ^ r = c := ⟨_, rfl⟩
          have hxor : bits .xor .u8 (old.toNat : Int) (c : Int) = (z.toNat : Int) := by
            rw [← hc, u8_xor_nat _ _ (byte_lt old) hpow, ← hz, UInt8.toNat_ofNat', Nat.mod_eq_of_lt (Nat.xor_lt_two_pow (n := 8) (byte_lt old) hpow)]
          have hc1 : (2 : Int) ^ r = (c : Int) := by rw [← hc, Int.natCast_pow]; rfl
          have hc2 : (c : Int) % 256 = (c : Int) := by omega
          have HKN : Hid (∃ l : Bs, ∃ p : Nat, Bf (wr.drew.setCell ⟨g, q, none⟩ (.int .u8 (z.toNat : Int))) g l ∧ l.length = n ∧ p < 2 ^ (k + 1) ∧ leN l = leN s ^^^ (p * 2 ^ bit) ∧ Below g w (wr.drew.setCell ⟨g, q, none⟩ (.int .u8 (z.toNat : Int)))) := Lib.hid (by
            obtain ⟨h1, h2, h3, h4, h5⟩ := HL.out
            have hd : Bf wr.drew g l := h1
            refine ⟨l.set q z, p ^^^ 2 ^ k, hd.set q (by rw [h2]; exact hqn) z, by rw [List.length_set, h2], add_bit p k h3, ?_, (below_drew h5 1).setCell (Nat.le_refl _) _⟩
            have hf := leN_flip l (bit + k) (by rw [hq, h2]; exact hqn)
            rw [hq, hr, hold, hz] at hf
            rw [hf, h4, mul_xor, ← Nat.xor_assoc, Nat.pow_add, Nat.mul_comm (2 ^ bit) (2 ^ k)])
          clear HL hold hz hpow hc hq hr
          go_wp2_with fail
          go_region
          go_wp2_with fail
          refine ⟨⟨k + 1, by omega, rfl, HKN⟩, by simp [intOf]; omega⟩
        · have da : decide ((bit : Int) + (k : Int) < 8 * (n : Int)) = false := decide_eq_false (by omega)
          have HKN : Hid (∃ l : Bs, ∃ p : Nat, Bf wr g l ∧ l.length = n ∧ p < 2 ^ (k + 1) ∧ leN l = leN s ^^^ (p * 2 ^ bit) ∧ Below g w wr) := Lib.hid ⟨l, p, HL.out.1, HL.out.2.1, Nat.lt_trans HL.out.2.2.1 (Nat.pow_lt_pow_right (by decide) (by omega)), HL.out.2.2.2.1, HL.out.2.2.2.2⟩
          clear HL hat
          go_wp2_with fail
          refine ⟨⟨k + 1, by omega, rfl, HKN⟩, by simp [intOf]; omega⟩
    · obtain rfl : k = 16 := by omega
      have dl : decide (((16 : Nat) : Int) < 16) = false := by decide
      have hback := HL.out.1.back cap
      rw [HL.out.2.1] at hback
      go_wp2_with fail
      go_ret
      exact ⟨⟨l, p, rfl, HL.out.2.1, HL.out.2.2.1, HL.out.2.2.2.1⟩, HL.out.2.2.2.2⟩
end Go.Proofs.YtobhbdaenlkodaaDoor
