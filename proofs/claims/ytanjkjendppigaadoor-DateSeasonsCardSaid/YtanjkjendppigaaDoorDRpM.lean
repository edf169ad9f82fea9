/- Plain mathematics of the reference's Parse: a string whose numbers are a date and whose other bytes are right is the text of its hour. Conditions: those of each lemma. -/
import Derived.Test.YtanjkjendppigaaDoorDRnum
namespace Go.Proofs.YtanjkjendppigaaDoor.Dy
open Go.RowKit Cal
set_option linter.unusedVariables false

theorem rnum_dg {i j : Nat} (hi : i < 10) (hj : j < 10) : rnum (dg i) (dg j) = 10 * (i : Int) + (j : Int) := by
  unfold rnum
  rw [dg_toNat hi, dg_toNat hj, if_neg (by omega)]
  omega
theorem rnum_digits {a b : UInt8} (h : 0 ≤ rnum a b) : ∃ i j : Nat, i < 10 ∧ j < 10 ∧ a = dg i ∧ b = dg j ∧ rnum a b = 10 * (i : Int) + (j : Int) := by
  unfold rnum at h
  split at h
  · omega
  · next hc =>
    have ha := dg_of (c := a) (by omega) (by omega)
    have hb := dg_of (c := b) (by omega) (by omega)
    refine ⟨a.toNat - 48, b.toNat - 48, by omega, by omega, ha, hb, ?_⟩
    unfold rnum
    rw [if_neg hc]
    omega
theorem rnum_le (a b : UInt8) : -1 ≤ rnum a b ∧ rnum a b ≤ 99 := by
  unfold rnum
  split <;> omega
theorem text_rnums {t : Nat} (ht : t ≤ 16777216) {c0 c1 c2 c3 c4 c5 c6 c7 c8 c9 c10 c11 c12 c13 : UInt8} (h : text t = [c0, c1, c2, c3, c4, c5, c6, c7, c8, c9, c10, c11, c12, c13]) :
    (c4 = 45 ∧ c7 = 45 ∧ c10 = 32 ∧ c13 = 104 ∧ 0 ≤ rnum c0 c1 ∧ 0 ≤ rnum c2 c3) ∧ okI (100 * rnum c0 c1 + rnum c2 c3) (rnum c5 c6) (rnum c8 c9) (rnum c11 c12) ∧ hourOf (100 * rnum c0 c1 + rnum c2 c3).toNat (rnum c5 c6).toNat (rnum c8 c9).toNat (rnum c11 c12).toNat = t := by
  obtain ⟨a0, a1, a2, a3, b0, b1, e0, e1, f0, f1, ⟨k0, k1, k2, k3, k4, k5, k6, k7, k8, k9⟩, ⟨rfl, rfl, rfl, rfl, h4, rfl, rfl, h7, rfl, rfl, h10, rfl, rfl, h13⟩, hy, hm, hd, hh⟩ := text_fields ht h
  have q := okI_date ht
  rw [rnum_dg k0 k1, rnum_dg k2 k3, rnum_dg k4 k5, rnum_dg k6 k7, rnum_dg k8 k9]
  refine ⟨⟨h4, h7, h10, h13, by omega, by omega⟩, ?_⟩
  rw [hy, hm, hd, hh] at q
  have e1' : (100 * (10 * (a0 : Int) + (a1 : Int)) + (10 * (a2 : Int) + (a3 : Int))) = ((1000 * a0 + 100 * a1 + 10 * a2 + a3 : Nat) : Int) := by omega
  have e2' : 10 * (b0 : Int) + (b1 : Int) = ((10 * b0 + b1 : Nat) : Int) := by omega
  have e3' : 10 * (e0 : Int) + (e1 : Int) = ((10 * e0 + e1 : Nat) : Int) := by omega
  have e4' : 10 * (f0 : Int) + (f1 : Int) = ((10 * f0 + f1 : Nat) : Int) := by omega
  rw [e1', e2', e3', e4']
  exact q
theorem rnums_text {c0 c1 c2 c3 c5 c6 c8 c9 c11 c12 : UInt8} (ha : 0 ≤ rnum c0 c1) (hb : 0 ≤ rnum c2 c3) (hok : okI (100 * rnum c0 c1 + rnum c2 c3) (rnum c5 c6) (rnum c8 c9) (rnum c11 c12)) :
    text (hourOf (100 * rnum c0 c1 + rnum c2 c3).toNat (rnum c5 c6).toNat (rnum c8 c9).toNat (rnum c11 c12).toNat) = [c0, c1, c2, c3, 45, c5, c6, 45, c8, c9, 32, c11, c12, 104] := by
  obtain ⟨⟨g1, g2, g3, g4, g5, g6, g7⟩, _⟩ := hok
  obtain ⟨i0, j0, p0, q0, rfl, rfl, r0⟩ := rnum_digits ha
  obtain ⟨i1, j1, p1, q1, rfl, rfl, r1⟩ := rnum_digits hb
  obtain ⟨i2, j2, p2, q2, rfl, rfl, r2⟩ := rnum_digits (a := c5) (b := c6) (by omega)
  obtain ⟨i3, j3, p3, q3, rfl, rfl, r3⟩ := rnum_digits (a := c8) (b := c9) (by omega)
  obtain ⟨i4, j4, p4, q4, rfl, rfl, r4⟩ := rnum_digits (a := c11) (b := c12) (by omega)
  rw [r0, r1] at g1
  rw [r2] at g2 g3
  rw [r3] at g4
  rw [r0, r1, r2, r3] at g5
  rw [r4] at g6 g7
  rw [r0, r1, r2, r3, r4]
  have t1 : (100 * (10 * (i0 : Int) + (j0 : Int)) + (10 * (i1 : Int) + (j1 : Int))).toNat = 100 * (10 * i0 + j0) + (10 * i1 + j1) := by omega
  have t2 : (10 * (i2 : Int) + (j2 : Int)).toNat = 10 * i2 + j2 := by omega
  have t3 : (10 * (i3 : Int) + (j3 : Int)).toNat = 10 * i3 + j3 := by omega
  have t4 : (10 * (i4 : Int) + (j4 : Int)).toNat = 10 * i4 + j4 := by omega
  have u1 : (100 * (10 * (i0 : Int) + (j0 : Int)) + (10 * (i1 : Int) + (j1 : Int))) = ((100 * (10 * i0 + j0) + (10 * i1 + j1) : Nat) : Int) := by omega
  have u2 : 10 * (i2 : Int) + (j2 : Int) = ((10 * i2 + j2 : Nat) : Int) := by omega
  rw [u1, u2, lenI_nat] at g5
  rw [t1, t2, t3, t4]
  unfold text
  have hk : Ok (100 * (10 * i0 + j0) + (10 * i1 + j1)) (10 * i2 + j2) (10 * i3 + j3) (10 * i4 + j4) := ⟨by omega, by omega, by omega, by omega, by omega, by omega⟩
  rw [dateOf_hourOf hk]
  unfold txt d2
  simp only
  rw [show (100 * (10 * i0 + j0) + (10 * i1 + j1)) / 100 / 10 = i0 by omega, show (100 * (10 * i0 + j0) + (10 * i1 + j1)) / 100 % 10 = j0 by omega, show (100 * (10 * i0 + j0) + (10 * i1 + j1)) % 100 / 10 = i1 by omega, show (100 * (10 * i0 + j0) + (10 * i1 + j1)) % 100 % 10 = j1 by omega,
    show (10 * i2 + j2) / 10 = i2 by omega, show (10 * i2 + j2) % 10 = j2 by omega, show (10 * i3 + j3) / 10 = i3 by omega, show (10 * i3 + j3) % 10 = j3 by omega, show (10 * i4 + j4) / 10 = i4 by omega, show (10 * i4 + j4) % 10 = j4 by omega]
  rfl
end Go.Proofs.YtanjkjendppigaaDoor.Dy
