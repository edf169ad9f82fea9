/- Signatures as plain mathematics: keys, nonces, challenges, what is signed and what is accepted. Conditions: those of each lemma. -/
import Derived.Test.YtfmjankmfddefaaDoorQAbb
import Derived.Test.YtfmjankmfddefaaDoorWText
import Derived.Test.YtfmjankmfddefaaDoorGShort
namespace Go.Proofs.YtfmjankmfddefaaDoor.Sg
set_option linter.unusedVariables false
open Gp Gp.Grp Wr.Wm

/-- The hash of a text. -/
def hs (l : Bs) : Int := (Dg.shortN l : Nat)
theorem hs_bd (l : Bs) : 0 ≤ hs l ∧ hs l < 1152921504606846976 := by
  have h := Dg.beN_lt ((Dg.sums l).take 8) 8 (by rw [List.length_take, Dg.sums_length]; decide)
  rw [List.take_take] at h
  have e : (256 : Nat) ^ 8 = 18446744073709551616 := by decide
  rw [e] at h
  unfold hs Dg.shortN
  rw [show min 8 8 = 8 from rfl] at h
  omega
/-- The exponent of a hash. -/
def exn (h : Int) : Int := 1 + h % 1152921504606845788
theorem exn_bd (h : Int) : 1 ≤ exn h ∧ exn h < 1152921504606845789 := by unfold exn; omega
def keyT (s : Bs) : Bs := encT [107, 101, 121] ++ encT s
def nonT (x : Int) (c m : Bs) : Bs := encT [110, 111, 110, 99, 101] ++ encI x ++ encT c ++ encT m
def chT (r y : Int) (c m : Bs) : Bs := encT [115, 105, 103, 110] ++ encI r ++ encI y ++ encT c ++ encT m
def keyS (s : Bs) : Int := exn (hs (keyT s))
def nonS (x : Int) (c m : Bs) : Int := exn (hs (nonT x c m))
def chS (r y : Int) (c m : Bs) : Int := hs (chT r y c m) % 1152921504606845789
theorem chS_bd (r y : Int) (c m : Bs) : 0 ≤ chS r y c m ∧ chS r y c m < 1152921504606845789 := by unfold chS; omega
theorem keyS_bd (s : Bs) : 1 ≤ keyS s ∧ keyS s < 1152921504606845789 := exn_bd _
theorem nonS_bd (x : Int) (c m : Bs) : 1 ≤ nonS x c m ∧ nonS x c m < 1152921504606845789 := exn_bd _
theorem keyT_le (s : Bs) (h : s.length ≤ 2000) : (keyT s).length ≤ 4100 := by
  have := encT_le s
  have := encT_le [107, 101, 121]
  unfold keyT
  simp only [List.length_append, List.length_cons, List.length_nil] at *
  omega
theorem nonT_le (x : Int) (c m : Bs) (h : c.length + m.length ≤ 2000) : (nonT x c m).length ≤ 4100 := by
  have := encT_le c
  have := encT_le m
  have := encI_le x
  have := encT_le [110, 111, 110, 99, 101]
  unfold nonT
  simp only [List.length_append, List.length_cons, List.length_nil] at *
  omega
theorem chT_le (r y : Int) (c m : Bs) (h : c.length + m.length ≤ 2000) : (chT r y c m).length ≤ 4100 := by
  have := encT_le c
  have := encT_le m
  have := encI_le r
  have := encI_le y
  have := encT_le [115, 105, 103, 110]
  unfold chT
  simp only [List.length_append, List.length_cons, List.length_nil] at *
  omega

/-- Whether a number is a residue modulo Q. -/
def inR (e : Int) : Bool := decide (0 ≤ e) && decide (e < 1152921504606845789)
theorem inR_iff (e : Int) : inR e = true ↔ 0 ≤ e ∧ e < 1152921504606845789 := by unfold inR; simp
theorem inR_out {e : Int} (h : e < 0 ∨ 1152921504606845789 ≤ e) : inR e = false := by
  rw [← Bool.not_eq_true, inR_iff]; omega
/-- Whether there is a key with this secret. -/
def okx (x : Int) : Bool := decide (1 ≤ x) && decide (x < 1152921504606845789)
theorem okx_iff (x : Int) : okx x = true ↔ 1 ≤ x ∧ x < 1152921504606845789 := by unfold okx; simp
theorem okx_out {x : Int} (h : x < 1 ∨ 1152921504606845789 ≤ x) : okx x = false := by
  rw [← Bool.not_eq_true, okx_iff]; omega
/-- The two parts of the key with a secret. -/
def ofX (x : Int) : Int := if okx x then x else 0
def ofY (x : Int) : Int := if okx x then xe 4 x else 0
def rightB (x y : Int) : Bool := okx x && (y == xe 4 x)
/-- The two parts of a signature by the secret x. -/
def sgE (x : Int) (c m : Bs) : Int := chS (xe 4 (nonS x c m)) (xe 4 x) c m
def sgS (x : Int) (c m : Bs) : Int := rq (nonS x c m + rq (sgE x c m * x))
def siE (x y : Int) (c m : Bs) : Int := if rightB x y then sgE x c m else 0
def siS (x y : Int) (c m : Bs) : Int := if rightB x y then sgS x c m else 0
/-- The element that a signature stands for. -/
def elt (y e s : Int) : Int := mu (xe 4 s) (xe y (1152921504606845789 - e))
def rng (y e s : Int) : Bool := !(y == 1) && (inB y && (inR e && inR s))
def verB (y : Int) (c m : Bs) (e s : Int) : Bool := rng y e s && (chS (elt y e s) y c m == e)

theorem four_ne : rp 4 ≠ 1 := by decide
theorem pub_in {x : Int} : inB (xe 4 x) = true := in_xe v_four
theorem pub_Q {x : Int} : ex (xe 4 x) 1152921504606845789 = 1 := xe_pow_one v_four x
theorem pub_ne {x : Int} (h : okx x = true) : (xe 4 x == 1) = false := by
  rw [okx_iff] at h
  refine beq_eq_false_iff_ne.2 fun e => ?_
  have h1 := (xe_one_iff v_four four_ne).1 e
  rw [rq_of (by omega) h.2] at h1
  omega
/-- The element of a signature is the power of the nonce. -/
theorem elt_sig (x n E : Int) : elt (xe 4 x) E (rq (n + rq (E * x))) = xe 4 n := by
  unfold elt
  rw [xe_mul v_four, xe_add v_four]
  refine xe_congr v_four ?_
  rw [rq_rq, Int.mul_sub, Int.mul_comm x E]
  generalize E * x = p
  unfold rq
  omega
theorem rng_sig {x : Int} (h : okx x = true) (c m : Bs) : rng (xe 4 x) (sgE x c m) (sgS x c m) = true := by
  have h1 : inR (sgE x c m) = true := (inR_iff _).2 (chS_bd _ _ _ _)
  have h2 : inR (sgS x c m) = true := (inR_iff _).2 (rq_bd _)
  unfold rng
  rw [pub_ne h, pub_in, h1, h2]; rfl
theorem elt_sg (x : Int) (c m : Bs) : elt (xe 4 x) (sgE x c m) (sgS x c m) = xe 4 (nonS x c m) := elt_sig _ _ _
theorem ver_sig {x : Int} (h : okx x = true) (c m : Bs) : verB (xe 4 x) c m (sgE x c m) (sgS x c m) = true := by
  unfold verB
  rw [rng_sig h, elt_sg, Bool.true_and]
  exact beq_self_eq_true _
/-- for another context or message: exactly if the challenges are equal -/
theorem ver_other {x : Int} (h : okx x = true) (c m c2 m2 : Bs) : verB (xe 4 x) c2 m2 (sgE x c m) (sgS x c m) = (chS (elt (xe 4 x) (sgE x c m) (sgS x c m)) (xe 4 x) c2 m2 == sgE x c m) := by
  unfold verB
  rw [rng_sig h, Bool.true_and]
theorem right_of {x : Int} (h : okx x = true) : rightB x (xe 4 x) = true := by unfold rightB; rw [h, beq_self_eq_true]; rfl
theorem right_self (x : Int) : rightB (ofX x) (ofY x) = okx x := by
  unfold ofX ofY
  by_cases h : okx x = true
  · rw [if_pos h, if_pos h, right_of h, h]
  · rw [if_neg h, if_neg h, Bool.eq_false_iff.2 h]; rfl
theorem ofX_pos {x : Int} (h : okx x = true) : ofX x = x := if_pos h
theorem ofY_pos {x : Int} (h : okx x = true) : ofY x = xe 4 x := if_pos h
theorem ofX_neg {x : Int} (h : okx x = false) : ofX x = 0 := if_neg (by rw [h]; decide)
theorem ofY_neg {x : Int} (h : okx x = false) : ofY x = 0 := if_neg (by rw [h]; decide)
theorem siE_pos {x : Int} (h : okx x = true) (c m : Bs) : siE x (xe 4 x) c m = sgE x c m := if_pos (right_of h)
theorem siS_pos {x : Int} (h : okx x = true) (c m : Bs) : siS x (xe 4 x) c m = sgS x c m := if_pos (right_of h)
theorem okx_key (s : Bs) : okx (keyS s) = true := (okx_iff _).2 (keyS_bd s)

/-- What is accepted satisfies the equation of the document. -/
theorem ver_eq {y e s : Int} {c m : Bs} (h : verB y c m e s = true) :
    inB y = true ∧ (y == 1) = false ∧ 0 ≤ e ∧ e < 1152921504606845789 ∧ 0 ≤ s ∧ s < 1152921504606845789 ∧ rp (xe y e) ≠ 0 ∧ mu (xe 4 s) (iv (xe y e)) = elt y e s ∧ inB (elt y e s) = true ∧ chS (elt y e s) y c m = e ∧ mu (elt y e s) (xe y e) = xe 4 s := by
  unfold verB rng at h
  simp only [Bool.and_eq_true, Bool.not_eq_true', beq_iff_eq] at h
  obtain ⟨⟨h1, h2, h3, h4⟩, h5⟩ := h
  rw [inR_iff] at h3 h4
  obtain ⟨h6, h7, h8⟩ := of_inB h2
  have hne : rp (xe y e) ≠ 0 := in_ne (xe_pow_one h8 e)
  have hi : iv (xe y e) = xe y (1152921504606845789 - e) := by
    rw [xe_inv h8]
    refine xe_congr h8 ?_
    unfold rq; omega
  have he : mu (xe 4 s) (iv (xe y e)) = elt y e s := by rw [hi]; rfl
  have hin : inB (elt y e s) = true := by
    unfold elt
    rw [in_mu (in_ne (xe_pow_one v_four s)) (xe_bd 4 s).1 (xe_bd 4 s).2 (in_ne (xe_pow_one h8 _)) (xe_bd y _).1 (xe_bd y _).2, in_xe v_four, in_xe h8]; rfl
  refine ⟨h2, h1, h3.1, h3.2, h4.1, h4.2, hne, he, hin, h5, ?_⟩
  rw [← he, mu_assoc, mu_comm (iv _), mu_iv hne, mu_one, rp_of (xe_bd 4 s).1 (xe_bd 4 s).2]
theorem ver_false_y {y e s : Int} {c m : Bs} (h : inB y = false) : verB y c m e s = false := by
  unfold verB rng; rw [h]; simp
theorem ver_false_e {y e s : Int} {c m : Bs} (h : inR e = false) : verB y c m e s = false := by
  unfold verB rng; rw [h]; simp
theorem ver_false_s {y e s : Int} {c m : Bs} (h : inR s = false) : verB y c m e s = false := by
  unfold verB rng; rw [h]; simp

set_option maxRecDepth 100000
theorem ev_x : keyS [97] = 358115012204568414 := by decide +kernel
theorem ev_y : xe 4 358115012204568414 = 5322311199030329 := ex_pm 4 358115012204568414 5322311199030329 (by decide) (by decide +kernel)
theorem ev_n : nonS 358115012204568414 [99] [109] = 507858151651448328 := by decide +kernel
theorem ev_r : xe 4 507858151651448328 = 121324261228073936 := ex_pm 4 507858151651448328 121324261228073936 (by decide) (by decide +kernel)
theorem ev_e : chS 121324261228073936 5322311199030329 [99] [109] = 863586865880404946 := by decide +kernel
theorem ev_f : chS 121324261228073936 5322311199030329 [99] [110] = 268455930870209848 := by decide +kernel
/-- The example: another message is not accepted. -/
theorem ev_other : verB (xe 4 (keyS [97])) [99] [110] (sgE (keyS [97]) [99] [109]) (sgS (keyS [97]) [99] [109]) = false := by
  rw [ver_other (okx_key _), elt_sg]
  unfold sgE
  rw [ev_x, ev_y, ev_n, ev_r, ev_e, ev_f]; rfl
end Go.Proofs.YtfmjankmfddefaaDoor.Sg
