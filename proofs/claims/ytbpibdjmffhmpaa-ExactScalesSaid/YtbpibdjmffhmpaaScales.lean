/- The statement ExactScales: for every three ints, within the limits the quotient times the denominator plus the remainder is the product, in halves of 26 bits; the result is monotonic and symmetric; outside of the limits it is false. Conditions: none. -/
import Derived.Test.YtbpibdjmffhmpaaOpen
import Derived.Deep.DeepCutAuto
import Derived.OpenShut
import Derived.SizedLaws
import Derived.ProofKit
namespace Go.Proofs.Ytbpibdjmffhmpaa.exactScales
open Go.ChangeShapes Go.WideShapes Go.ChangeAt Go.RowKit
open Go.Proofs.Ytbpibdjmffhmpaa
set_option linter.unusedVariables false

/-- The digits of a sum of products to the base 2^26. -/
theorem digits (N h m l : Int) (hN : N = h * 4503599627370496 + m * 67108864 + l) :
    l % 67108864 = N % 67108864 ∧ (m + l / 67108864) % 67108864 = N / 67108864 % 67108864 ∧ h + (m + l / 67108864) / 67108864 = N / 4503599627370496 := by
  subst hN
  omega
theorem mul_split (a n : Int) : a * n = (a / 67108864) * (n / 67108864) * 4503599627370496 + ((a / 67108864) * (n % 67108864) + (a % 67108864) * (n / 67108864)) * 67108864 + (a % 67108864) * (n % 67108864) := by
  have ha : a = (a / 67108864) * 67108864 + a % 67108864 := by omega
  have hn : n = (n / 67108864) * 67108864 + n % 67108864 := by omega
  generalize a / 67108864 = x at *
  generalize a % 67108864 = y at *
  generalize n / 67108864 = X at *
  generalize n % 67108864 = Y at *
  subst ha hn
  rw [Int.add_mul, Int.mul_add, Int.mul_add]
  have e1 : x * 67108864 * (X * 67108864) = x * X * 4503599627370496 := by
    rw [Int.mul_assoc, Int.mul_comm 67108864 (X * 67108864), ← Int.mul_assoc, ← Int.mul_assoc]
    generalize x * X = v
    omega
  have e2 : x * 67108864 * Y = x * Y * 67108864 := by rw [Int.mul_assoc, Int.mul_comm 67108864 Y, ← Int.mul_assoc]
  have e3 : y * (X * 67108864) = y * X * 67108864 := by rw [← Int.mul_assoc]
  rw [e1, e2, e3]
  omega
theorem mul_bd (x y b c : Int) (hx : 0 ≤ x ∧ x ≤ b) (hy : 0 ≤ y ∧ y ≤ c) : 0 ≤ x * y ∧ x * y ≤ b * c :=
  ⟨Int.mul_nonneg hx.1 hy.1, Int.mul_le_mul hx.2 hy.2 hy.1 (by omega)⟩
theorem and26 (n : Int) : bits .and .i64 n 67108863 = n % 67108864 := by
  have hm : (BitVec.ofInt 64 67108863).toNat = 2 ^ 26 - 1 := by decide
  have key : (BitVec.ofInt 64 n &&& BitVec.ofInt 64 67108863).toNat = (n % ((2 ^ 64 : Nat) : Int)).toNat % 2 ^ 26 := by
    rw [BitVec.toNat_and, BitVec.toNat_ofInt, hm, Nat.and_two_pow_sub_one_eq_mod]
  show IntKind.i64.wrap ((BitVec.ofInt 64 n &&& BitVec.ofInt 64 67108863).toNat : Nat) = n % 67108864
  rw [key, IntKind.wrap_i64]
  omega

/-- The two halves agree: what the code reckons of the product, and of the quotient, the denominator and the remainder. -/
theorem halves (a n d q r : Int) (h : a * n = q * d + r) :
    ((a % 67108864) * (n % 67108864)) % 67108864 = ((q % 67108864) * (d % 67108864) + r) % 67108864 ∧
    ((a / 67108864) * (n % 67108864) + (a % 67108864) * (n / 67108864) + (a % 67108864) * (n % 67108864) / 67108864) % 67108864 = ((q / 67108864) * (d % 67108864) + (q % 67108864) * (d / 67108864) + ((q % 67108864) * (d % 67108864) + r) / 67108864) % 67108864 ∧
    (a / 67108864) * (n / 67108864) + ((a / 67108864) * (n % 67108864) + (a % 67108864) * (n / 67108864) + (a % 67108864) * (n % 67108864) / 67108864) / 67108864 =
      (q / 67108864) * (d / 67108864) + ((q / 67108864) * (d % 67108864) + (q % 67108864) * (d / 67108864) + ((q % 67108864) * (d % 67108864) + r) / 67108864) / 67108864 := by
  have h1 := mul_split a n
  have h2 := mul_split q d
  have d1 := digits (a * n) _ _ _ h1
  have d2 := digits (a * n) ((q / 67108864) * (d / 67108864)) ((q / 67108864) * (d % 67108864) + (q % 67108864) * (d / 67108864)) ((q % 67108864) * (d % 67108864) + r) (by rw [h, h2]; omega)
  exact ⟨d1.1.trans d2.1.symm, d1.2.1.trans d2.2.1.symm, d1.2.2.trans d2.2.2.symm⟩

def outB (a n d : Int) : Bool := decide (a < 0 ∨ 1125899906842624 < a ∨ n < 0 ∨ 1125899906842624 < n ∨ d < 1 ∨ 1125899906842624 < d)
theorem sc_out {a n d : Int} (h : outB a n d = true) : scB a n d = false := by
  have h' := of_decide_eq_true h
  unfold scB volB
  rcases h' with h | h | h | h | h | h
  · rw [decide_eq_false (by omega : ¬(0 ≤ a ∧ a ≤ 1125899906842624))]; simp
  · rw [decide_eq_false (by omega : ¬(0 ≤ a ∧ a ≤ 1125899906842624))]; simp
  · rw [decide_eq_false (by omega : ¬(0 ≤ n ∧ n ≤ 1125899906842624))]; simp
  · rw [decide_eq_false (by omega : ¬(0 ≤ n ∧ n ≤ 1125899906842624))]; simp
  · by_cases hz : d = 0
    · rw [decide_eq_false (by omega : ¬ d ≠ 0)]; simp
    · rw [decide_eq_false (by omega : ¬(0 ≤ d ∧ d ≤ 1125899906842624))]; simp
  · rw [decide_eq_false (by omega : ¬(0 ≤ d ∧ d ≤ 1125899906842624))]; simp
theorem sc_comm (a n d : Int) : scB n a d = scB a n d ∧ scQ n a d = scQ a n d ∧ scR n a d = scR a n d := by
  have hb : scB n a d = scB a n d := by unfold scB; rw [Int.mul_comm n a, Bool.and_comm (volB n)]
  refine ⟨hb, ?_, ?_⟩
  · unfold scQ; rw [hb, Int.mul_comm n a]
  · unfold scR; rw [hb, Int.mul_comm n a]

set_option maxHeartbeats 1600000 in
set_option maxRecDepth 100000 in
theorem walk_out (a num den : Int) (ho : outB a num den = true) (w : World) : Calls Try.prog 4 #[.int .i64 a, .int .i64 num, .int .i64 den] w (IsTrue w) := by
  have c1 := fun W => scale_any a num den W
  have hs := sc_out ho
  rw [(sc_no hs).1, (sc_no hs).2, hs] at c1
  have C1 := Lib.hid c1
  have ho' := of_decide_eq_true ho
  clear c1 hs ho
  go_enter Try.func4, Try.ntmps4
  go_wp2_with fail
  refine (small_any _).mono ?_
  rintro e w1 ⟨rfl, hbel⟩
  go_wp2_with fail
  refine (C1.out _).mono ?_
  rintro e w' ⟨rfl, k, rfl⟩
  have HBEL := Lib.hid (bon hbel (self_drewN _ k))
  clear hbel
  go_upto_region 3 with fail
  go_cut [58] (fun v wc => v = .bool true ∧ w1.drewN k = wc)
  case first =>
    by_cases h1 : a < 0
    · have d1 : decide (a < 0) = true := decide_eq_true h1
      clear h1 ho'
      go_wp2_with fail
      go_meet
      exact ⟨rfl, rfl⟩
    · have d1 : decide (a < 0) = false := decide_eq_false h1
      by_cases h2 : 1125899906842624 < a
      · have d2 : decide (1125899906842624 < a) = true := decide_eq_true h2
        clear h1 h2 ho'
        go_wp2_with fail
        go_meet
        exact ⟨rfl, rfl⟩
      · have d2 : decide (1125899906842624 < a) = false := decide_eq_false h2
        by_cases h3 : num < 0
        · have d3 : decide (num < 0) = true := decide_eq_true h3
          clear h1 h2 h3 ho'
          go_wp2_with fail
          go_meet
          exact ⟨rfl, rfl⟩
        · have d3 : decide (num < 0) = false := decide_eq_false h3
          by_cases h4 : 1125899906842624 < num
          · have d4 : decide (1125899906842624 < num) = true := decide_eq_true h4
            clear h1 h2 h3 h4 ho'
            go_wp2_with fail
            go_meet
            exact ⟨rfl, rfl⟩
          · have d4 : decide (1125899906842624 < num) = false := decide_eq_false h4
            by_cases h5 : den < 1
            · have d5 : decide (den < 1) = true := decide_eq_true h5
              clear h1 h2 h3 h4 h5 ho'
              go_wp2_with fail
              go_meet
              exact ⟨rfl, rfl⟩
            · have d5 : decide (den < 1) = false := decide_eq_false h5
              have d6 : decide (1125899906842624 < den) = true := decide_eq_true (by omega)
              clear h1 h2 h3 h4 h5 ho'
              go_wp2_with fail
              go_meet
              exact ⟨rfl, rfl⟩
  case rest =>
    obtain ⟨rfl, rfl⟩ := hcut
    go_wp2_with fail
    go_ret
    exact ⟨rfl, HBEL.out⟩
theorem of_outB {a n d : Int} (h : outB a n d = false) : (0 ≤ a ∧ a ≤ 1125899906842624) ∧ (0 ≤ n ∧ n ≤ 1125899906842624) ∧ (1 ≤ d ∧ d ≤ 1125899906842624) := by
  have h' := of_decide_eq_false h
  omega
theorem half (n : Int) (h0 : 0 ≤ n) (h1 : n ≤ 1125899906842624) : (0 ≤ n / 67108864 ∧ n / 67108864 ≤ 16777216) ∧ (0 ≤ n % 67108864 ∧ n % 67108864 ≤ 67108863) := by omega
theorem wrapE {x y v : Int} (h : x * y = v) (h0 : 0 ≤ v) (h1 : v ≤ 9223372036854775807) : IntKind.i64.wrap (x * y) = v := by rw [h, IntKind.wrap_i64]; omega

set_option maxHeartbeats 1600000 in
set_option maxRecDepth 100000 in
/-- The quotient does not exceed the limit. -/
theorem walk_ok (a num den : Int) (ho : outB a num den = false) (hs : scB a num den = true) (w : World) : Calls Try.prog 4 #[.int .i64 a, .int .i64 num, .int .i64 den] w (IsTrue w) := by
  have c1 := fun W => scale_any a num den W
  have c2 := fun W => scale_any num a den W
  have c3 := fun W => scale_any (min (a + 1) 1125899906842624) num den W
  obtain ⟨cb, cq, cr⟩ := sc_comm a num den
  obtain ⟨sq, sr⟩ := sc_yes hs
  rw [cb, cq, cr, hs] at c2
  rw [hs] at c1
  obtain ⟨ha, hn, hd⟩ := of_outB ho
  have hr0 : 0 ≤ scR a num den := by rw [sr]; exact Int.emod_nonneg _ (by omega)
  have hr1 : scR a num den < den := by rw [sr]; exact Int.emod_lt_of_pos _ (by omega)
  have hq0 : 0 ≤ scQ a num den := by rw [sq]; exact Int.ediv_nonneg (Int.mul_nonneg ha.1 hn.1) (by omega)
  have hq1 : scQ a num den ≤ 1125899906842624 := by
    rw [sq]
    unfold scB at hs
    simp only [Bool.and_eq_true] at hs
    exact of_decide_eq_true hs.2
  have hmono : scB (min (a + 1) 1125899906842624) num den = true → scQ a num den ≤ scQ (min (a + 1) 1125899906842624) num den := by
    intro hb
    rw [sq, (sc_yes hb).1]
    exact Int.ediv_le_ediv (by omega) (Int.mul_le_mul_of_nonneg_right (by omega) hn.1)
  have heq : a * num = scQ a num den * den + scR a num den := by
    rw [sq, sr]
    have := Int.mul_ediv_add_emod (a * num) den
    rw [Int.mul_comm den] at this
    omega
  obtain ⟨g1, g2, g3⟩ := halves a num den _ _ heq
  generalize scQ a num den = q at *
  generalize scR a num den = r at *
  generalize scB (min (a + 1) 1125899906842624) num den = ob at *
  generalize scQ (min (a + 1) 1125899906842624) num den = q2 at *
  generalize scR (min (a + 1) 1125899906842624) num den = r2 at *
  obtain ⟨a1, a2⟩ := half a ha.1 ha.2
  obtain ⟨n1, n2⟩ := half num hn.1 hn.2
  obtain ⟨d1, d2⟩ := half den (by omega) hd.2
  obtain ⟨q1, q3⟩ := half q hq0 hq1
  have ax := and26 a
  have nx := and26 num
  have dx := and26 den
  have qx := and26 q
  have m1 := mul_bd _ _ _ _ a1 n1
  have m2 := mul_bd _ _ _ _ a1 n2
  have m3 := mul_bd _ _ _ _ a2 n1
  have m4 := mul_bd _ _ _ _ a2 n2
  have m5 := mul_bd _ _ _ _ q1 d1
  have m6 := mul_bd _ _ _ _ q1 d2
  have m7 := mul_bd _ _ _ _ q3 d1
  have m8 := mul_bd _ _ _ _ q3 d2
  generalize hA : a / 67108864 * (num / 67108864) = A at *
  generalize hB : a / 67108864 * (num % 67108864) = B at *
  generalize hC : a % 67108864 * (num / 67108864) = C at *
  generalize hD : a % 67108864 * (num % 67108864) = D at *
  generalize hE : q / 67108864 * (den / 67108864) = E at *
  generalize hF : q / 67108864 * (den % 67108864) = F at *
  generalize hG : q % 67108864 * (den / 67108864) = G at *
  generalize hH : q % 67108864 * (den % 67108864) = H at *
  have wA := wrapE hA (by omega) (by omega)
  have wB := wrapE hB (by omega) (by omega)
  have wC := wrapE hC (by omega) (by omega)
  have wD := wrapE hD (by omega) (by omega)
  have wE := wrapE hE (by omega) (by omega)
  have wF := wrapE hF (by omega) (by omega)
  have wG := wrapE hG (by omega) (by omega)
  have wH := wrapE hH (by omega) (by omega)
  clear hA hB hC hD hE hF hG hH a1 a2 n1 n2 d1 d2 q1 q3
  have x1 := and26 D
  have x2 := and26 (H + r)
  have x3 := and26 (B + C + D / 67108864)
  have x4 := and26 (F + G + (H + r) / 67108864)
  rw [← g1] at x2
  rw [← g2] at x4
  generalize D % 67108864 = L at *
  generalize (B + C + D / 67108864) % 67108864 = K at *
  have t1 : (L == L) = true := by simp
  have t2 : (K == K) = true := by simp
  have wT : (A + (B + C + D / 67108864) / 67108864 == E + (F + G + (H + r) / 67108864) / 67108864) = true := beq_iff_eq.2 g3
  have hT1 := Lib.hid wT
  have C1 := Lib.hid c1
  have C2 := Lib.hid c2
  have C3 := Lib.hid c3
  have HM := Lib.hid hmono
  have dq0 : decide (0 ≤ q) = true := decide_eq_true hq0
  have dq1 : decide (q ≤ 1125899906842624) = true := decide_eq_true hq1
  have dr0 : decide (0 ≤ r) = true := decide_eq_true hr0
  have dr1 : decide (r < den) = true := decide_eq_true hr1
  have tq : (q == q) = true := by simp
  have tr : (r == r) = true := by simp
  have da0 : decide (a < 0) = false := decide_eq_false (by omega)
  have da1 : decide (1125899906842624 < a) = false := decide_eq_false (by omega)
  have dn0 : decide (num < 0) = false := decide_eq_false (by omega)
  have dn1 : decide (1125899906842624 < num) = false := decide_eq_false (by omega)
  have dd0 : decide (den < 1) = false := decide_eq_false (by omega)
  have dd1 : decide (1125899906842624 < den) = false := decide_eq_false (by omega)
  clear c1 c2 c3 hmono g1 g2 g3 heq cb cq cr sq sr hs ho
  go_enter Try.func4, Try.ntmps4
  go_wp2_with fail
  refine (small_any _).mono ?_
  rintro e w1 ⟨rfl, hbel⟩
  go_wp2_with fail
  refine (C1.out _).mono ?_
  rintro e w' ⟨rfl, k, rfl⟩
  have HBEL := Lib.hid hbel
  clear hbel
  go_wp2_with fail
  refine (C2.out _).mono ?_
  rintro e w' ⟨rfl, k2, rfl⟩
  go_wp2_with fail
  cases ob with
  | false =>
    refine (C3.out _).mono ?_
    rintro e w' ⟨rfl, k3, rfl⟩
    go_wp2_with fail
    go_ret
    exact ⟨rfl, bon HBEL.out (self_drewN _ _)⟩
  | true =>
    have dm : decide (q ≤ q2) = true := decide_eq_true (HM.out rfl)
    refine (C3.out _).mono ?_
    rintro e w' ⟨rfl, k3, rfl⟩
    go_wp2_with fail
    go_ret
    exact ⟨rfl, bon HBEL.out (self_drewN _ _)⟩

set_option maxHeartbeats 1600000 in
set_option maxRecDepth 100000 in
/-- The quotient exceeds the limit. -/
theorem walk_no (a num den : Int) (ho : outB a num den = false) (hs : scB a num den = false) (w : World) : Calls Try.prog 4 #[.int .i64 a, .int .i64 num, .int .i64 den] w (IsTrue w) := by
  have c1 := fun W => scale_any a num den W
  rw [(sc_no hs).1, (sc_no hs).2, hs] at c1
  obtain ⟨ha, hn, hd⟩ := of_outB ho
  obtain ⟨a1, a2⟩ := half a ha.1 ha.2
  obtain ⟨n1, n2⟩ := half num hn.1 hn.2
  have ax := and26 a
  have nx := and26 num
  have m1 := mul_bd _ _ _ _ a1 n1
  have m2 := mul_bd _ _ _ _ a1 n2
  have m3 := mul_bd _ _ _ _ a2 n1
  have m4 := mul_bd _ _ _ _ a2 n2
  generalize hA : a / 67108864 * (num / 67108864) = A at *
  generalize hB : a / 67108864 * (num % 67108864) = B at *
  generalize hC : a % 67108864 * (num / 67108864) = C at *
  generalize hD : a % 67108864 * (num % 67108864) = D at *
  have wA := wrapE hA (by omega) (by omega)
  have wB := wrapE hB (by omega) (by omega)
  have wC := wrapE hC (by omega) (by omega)
  have wD := wrapE hD (by omega) (by omega)
  clear hA hB hC hD a1 a2 n1 n2
  have C1 := Lib.hid c1
  have da0 : decide (a < 0) = false := decide_eq_false (by omega)
  have da1 : decide (1125899906842624 < a) = false := decide_eq_false (by omega)
  have dn0 : decide (num < 0) = false := decide_eq_false (by omega)
  have dn1 : decide (1125899906842624 < num) = false := decide_eq_false (by omega)
  have dd0 : decide (den < 1) = false := decide_eq_false (by omega)
  have dd1 : decide (1125899906842624 < den) = false := decide_eq_false (by omega)
  clear c1 hs ho
  go_enter Try.func4, Try.ntmps4
  go_wp2_with fail
  refine (small_any _).mono ?_
  rintro e w1 ⟨rfl, hbel⟩
  go_wp2_with fail
  refine (C1.out _).mono ?_
  rintro e w' ⟨rfl, k, rfl⟩
  have HBEL := Lib.hid (bon hbel (self_drewN _ k))
  clear hbel
  go_wp2_with fail
  go_ret
  exact ⟨rfl, HBEL.out⟩

theorem walk (a : Int) (_ : I64 a) (num : Int) (_ : I64 num) (den : Int) (_ : I64 den) (w : World) : Calls Try.prog 4 #[.int .i64 a, .int .i64 num, .int .i64 den] w (IsTrue w) := by
  cases ho : outB a num den with
  | true => exact walk_out a num den ho w
  | false =>
    cases hs : scB a num den with
    | true => exact walk_ok a num den ho hs w
    | false => exact walk_no a num den ho hs w

theorem own : ownKnob Try.prog.godebug = none := by kernel_rfl
theorem laidOut : laidOutB Try.prog = true := by kernel_rfl

set_option maxRecDepth 100000 in
theorem lifted (os : Os) (started : os.Started) (H : Type) (enc : TypeId × Value → H) :
    ReturnsInHanded {} Try.checked os 4 .any (Rows.exactScalesSpec.pre6 enc Try.prog Try.f4 Rows.exactScalesRow.domain false) (Rows.exactScalesSpec.post enc Try.prog Try.f4 false true false false) := by
  refine returnsInHanded_of_change_sized (C := Try.checked) own started (by kernel_rfl) Try.func4
    (ChangeSpec.witness6 (enc := enc) (C := Try.checked) false ⟨#[], #[.int .i64 0, .int .i64 0, .int .i64 0], []⟩ 8 (by kernel_rfl) (by kernel_rfl) (by kernel_rfl) (by kernel_rfl)) ?_
  intro W base args ds gs before hval0 hW hcnd hsz0 _
  have hsz : (DataW.weightsEach Try.prog (Try.f4.params.toList ++ Rows.exactScalesSpec.plain.varTypes Try.prog) (ds ++ gs)).all (· ≤ reachBytes) = true := hsz0
  clear hsz0
  have hval : ∀ (j : Nat) t v, Try.f4.params[j]? = some t → args[j]? = some v → Value.okWide Try.prog W .any base t v := hval0
  have hW' := hW
  obtain ⟨p, q, hA0, hV, rfl, hfz, hnd⟩ := hW
  have hA : DataW.TrodAll enc Try.prog W 0 (fun _ => true) true Try.f4.params.toList args.toList ds p := hA0
  rw [Try.params4] at hA hval hsz
  obtain ⟨v0, vs0, d0, ds0, p0, q0, hargs, rfl, rfl, h0, r0⟩ := trodAll_cons hA
  obtain ⟨v1, vs1, d1, ds1, p1, q1, rfl, rfl, rfl, h1, r1⟩ := trodAll_cons r0
  obtain ⟨v2, vs2, d2, ds2, p2, q2, rfl, rfl, rfl, h2, r2⟩ := trodAll_cons r1
  obtain ⟨rfl, rfl, rfl⟩ := trodAll_nil r2
  obtain rfl : args = #[v0, v1, v2] := by cases args; simp_all
  obtain ⟨rfl, rfl⟩ := trodVars_none hV
  obtain ⟨a0, rfl, rfl, rfl, w0⟩ := open_int Try.underlying3 (hval 0 3 v0 rfl rfl) h0
  obtain ⟨a1, rfl, rfl, rfl, w1⟩ := open_int Try.underlying3 (hval 1 3 v1 rfl rfl) h1
  obtain ⟨a2, rfl, rfl, rfl, w2⟩ := open_int Try.underlying3 (hval 2 3 v2 rfl rfl) h2
  clear hA0 hval0
  simp only [List.append_nil] at hW'
  refine (walk a0 (i64_of_wf w0) a1 (i64_of_wf w1) a2 (i64_of_wf w2) W).mono fun e W' ⟨he, hb⟩ => ?_
  subst he
  exact ⟨_, rfl, _, _, _, [], _, [], hW', (trodAll_cons_mk (shut_bool Try.underlying4 _) trodAll_mk0), (trodAll_cons_mk (shut_int Try.underlying3 w0) (trodAll_cons_mk (shut_int Try.underlying3 w1) (trodAll_cons_mk (shut_int Try.underlying3 w2) trodAll_mk0))), rfl, hb.frame _, fun h => by cases h⟩

theorem over : Rows.exactScalesRow.holds Try.pinned (OpenSpec.ofChange Rows.exactScalesSpec) :=
  OpenClaim.holds_of_wide 4 Try.f4 rfl rfl rfl rfl rfl rfl rfl ⟨rfl, rfl, rfl, rfl, rfl⟩ rfl rfl rfl rfl rfl (by kernel_rfl) Try.func4 (by kernel_rfl)
    (of_decide_eq_true (by kernel_rfl)) (by unfold Func.isWrapper; first | (rw [if_pos (by decide +kernel)]; kernel_rfl) | (rw [if_neg (by decide +kernel)]; exact ⟨rfl, rfl⟩))
    (fun os started H enc _ => lifted os started H enc)

theorem proved : Rows.ExactScalesSaid := over
end Go.Proofs.Ytbpibdjmffhmpaa.exactScales
