/- The plain mathematics of the checksum and of hexadecimal digits. Conditions: those of each lemma. -/
namespace Go.Proofs.Ytdjchpejhfkknaa.Dg.Gm

abbrev Bs := List UInt8
/-- One stp of the register. -/
def stp (x : Nat) : Nat := if x % 2 = 1 then (x / 2) ^^^ 33800 else x / 2
def steps : Nat → Nat → Nat
  | 0, x => x
  | k + 1, x => steps k (stp x)
def feed (x : Nat) (b : UInt8) : Nat := steps 8 (x ^^^ b.toNat)
def reg : Nat → Bs → Nat
  | x, [] => x
  | x, b :: l => reg (feed x b) l
def crc (l : Bs) : Nat := reg 65535 l ^^^ 65535

theorem xor_half (a b : Nat) : (a ^^^ b) / 2 = a / 2 ^^^ b / 2 := by
  apply Nat.eq_of_testBit_eq
  intro i
  rw [Nat.testBit_xor, Nat.testBit_div_two, Nat.testBit_div_two, Nat.testBit_div_two, Nat.testBit_xor]
theorem xor_odd (a b : Nat) : (a ^^^ b) % 2 = (a % 2 + b % 2) % 2 := by
  have h := Nat.testBit_xor a b 0
  simp only [Nat.testBit_zero] at h
  rcases Nat.mod_two_eq_zero_or_one a with ha | ha <;> rcases Nat.mod_two_eq_zero_or_one b with hb | hb <;> rcases Nat.mod_two_eq_zero_or_one (a ^^^ b) with hc | hc <;> simp [ha, hb, hc] at h ⊢
theorem xor_back (a b : Nat) : a ^^^ b ^^^ b = a := by rw [Nat.xor_assoc, Nat.xor_self, Nat.xor_zero]
theorem xor_swap (a b c d : Nat) : (a ^^^ b) ^^^ (c ^^^ d) = (a ^^^ c) ^^^ (b ^^^ d) := by
  rw [Nat.xor_assoc, ← Nat.xor_assoc b c d, Nat.xor_comm b c, Nat.xor_assoc c b d, ← Nat.xor_assoc]
theorem step_xor (a b : Nat) : stp (a ^^^ b) = stp a ^^^ stp b := by
  unfold stp
  rw [xor_half, xor_odd]
  rcases Nat.mod_two_eq_zero_or_one a with ha | ha <;> rcases Nat.mod_two_eq_zero_or_one b with hb | hb <;> simp only [ha, hb] <;> simp
  · rw [Nat.xor_assoc]
  · rw [Nat.xor_assoc, Nat.xor_comm (b / 2), Nat.xor_assoc]
  · rw [xor_swap, Nat.xor_self, Nat.xor_zero]
theorem steps_xor (k a b : Nat) : steps k (a ^^^ b) = steps k a ^^^ steps k b := by
  induction k generalizing a b with
  | zero => rfl
  | succ k ih => show steps k (stp _) = _; rw [step_xor, ih]; rfl
theorem steps_add (k m x : Nat) : steps (k + m) x = steps m (steps k x) := by
  induction k generalizing x with
  | zero => rw [Nat.zero_add]; rfl
  | succ k ih => rw [Nat.succ_add]; show steps (k + m) (stp x) = _; rw [ih]; rfl
theorem step_lt {x : Nat} (h : x < 65536) : stp x < 65536 := by
  unfold stp
  split
  · exact Nat.xor_lt_two_pow (n := 16) (by omega) (by decide)
  · omega
theorem steps_lt (k : Nat) {x : Nat} (h : x < 65536) : steps k x < 65536 := by
  induction k generalizing x with
  | zero => exact h
  | succ k ih => exact ih (step_lt h)
theorem byte_lt (b : UInt8) : b.toNat < 256 := b.toNat_lt
theorem xor_lt {x y : Nat} (h : x < 65536) (h' : y < 65536) : x ^^^ y < 65536 := Nat.xor_lt_two_pow (n := 16) h h'
theorem feed_lt {x : Nat} (h : x < 65536) (b : UInt8) : feed x b < 65536 := steps_lt 8 (xor_lt h (by have := byte_lt b; omega))
theorem reg_lt {x : Nat} (h : x < 65536) (l : Bs) : reg x l < 65536 := by
  induction l generalizing x with
  | nil => exact h
  | cons b l ih => exact ih (feed_lt h b)
theorem crc_lt (l : Bs) : crc l < 65536 := xor_lt (reg_lt (by decide) l) (by decide)
theorem reg_append (x : Nat) (l m : Bs) : reg x (l ++ m) = reg (reg x l) m := by
  induction l generalizing x with
  | nil => rfl
  | cons b l ih => exact ih _
theorem step_zero {x : Nat} (h : x < 65536) (e : stp x = 0) : x = 0 := by
  unfold stp at e
  split at e
  · have : x / 2 = 33800 := by
      have h2 := xor_back (x / 2) 33800
      rw [e, Nat.zero_xor] at h2
      exact h2.symm
    omega
  · omega
theorem steps_zero (k : Nat) {x : Nat} (h : x < 65536) (e : steps k x = 0) : x = 0 := by
  induction k generalizing x with
  | zero => exact e
  | succ k ih => exact step_zero h (ih (step_lt h) e)
theorem steps_of_zero (k : Nat) : steps k 0 = 0 := by
  induction k with
  | zero => rfl
  | succ k ih => exact ih
theorem steps_pow (k x : Nat) : steps k (x * 2 ^ k) = x := by
  induction k with
  | zero => simp [steps]
  | succ k ih =>
    show steps k (stp (x * 2 ^ (k + 1))) = x
    have : stp (x * 2 ^ (k + 1)) = x * 2 ^ k := by
      unfold stp
      have e : x * 2 ^ (k + 1) = (x * 2 ^ k) * 2 := by rw [Nat.pow_succ, Nat.mul_assoc]
      rw [e, if_neg (by omega)]
      omega
    rw [this, ih]

/-- The bytes as one number, the first the least significant. -/
def leN : Bs → Nat
  | [] => 0
  | b :: l => b.toNat + 256 * leN l
theorem add_xor (b L : Nat) (h : b < 256) : b + 256 * L = b ^^^ (256 * L) := by
  apply Nat.eq_of_testBit_eq
  intro i
  rw [Nat.testBit_xor, show (256 : Nat) = 2 ^ 8 from rfl, Nat.add_comm, Nat.testBit_two_pow_mul_add L (by simpa using h), Nat.testBit_two_pow_mul]
  by_cases hi : i < 8
  · rw [if_pos hi]; simp [Nat.not_le.2 hi]
  · rw [if_neg hi]
    have : b.testBit i = false := Nat.testBit_lt_two_pow (Nat.lt_of_lt_of_le h (by calc (256 : Nat) = 2 ^ 8 := rfl
      _ ≤ 2 ^ i := Nat.pow_le_pow_right (by decide) (by omega)))
    simp [this, Nat.not_lt.1 hi]
theorem reg_steps (x : Nat) (l : Bs) : reg x l = steps (8 * l.length) (x ^^^ leN l) := by
  induction l generalizing x with
  | nil => show x = steps 0 (x ^^^ 0); rw [Nat.xor_zero]; rfl
  | cons b l ih =>
    show reg (feed x b) l = _
    rw [ih, List.length_cons, Nat.mul_succ, Nat.add_comm, steps_add]
    congr 1
    show steps 8 (x ^^^ b.toNat) ^^^ leN l = steps 8 (x ^^^ (b.toNat + 256 * leN l))
    rw [add_xor _ _ (byte_lt b), ← Nat.xor_assoc, steps_xor 8 _ (256 * leN l), Nat.mul_comm, show (256 : Nat) = 2 ^ 8 from rfl, steps_pow]
theorem leN_testBit (l : Bs) (k : Nat) : (leN l).testBit k = (l.getD (k / 8) 0).toNat.testBit (k % 8) := by
  induction l generalizing k with
  | nil => simp [leN]
  | cons b l ih =>
    show (b.toNat + 256 * leN l).testBit k = _
    rw [show (256 : Nat) = 2 ^ 8 from rfl, Nat.add_comm, Nat.testBit_two_pow_mul_add _ (byte_lt b)]
    by_cases h : k < 8
    · rw [if_pos h, Nat.div_eq_of_lt h, Nat.mod_eq_of_lt h]; rfl
    · rw [if_neg h, ih]
      have h1 : k / 8 = (k - 8) / 8 + 1 := by omega
      have h2 : k % 8 = (k - 8) % 8 := by omega
      rw [h1, h2]; rfl
theorem leN_inj {l m : Bs} (hl : l.length = m.length) (h : leN l = leN m) : l = m := by
  induction l generalizing m with
  | nil => cases m with
    | nil => rfl
    | cons b m => simp at hl
  | cons a l ih =>
    cases m with
    | nil => simp at hl
    | cons b m =>
      have h' : a.toNat + 256 * leN l = b.toNat + 256 * leN m := h
      have ha := byte_lt a
      have hb := byte_lt b
      have e1 : a = b := UInt8.toNat_inj.1 (by omega)
      rw [e1, ih (by simpa using hl) (by omega)]
/-- One bit of one byte turned. -/
theorem leN_flip (l : Bs) (at_ : Nat) (h : at_ / 8 < l.length) :
    leN (l.set (at_ / 8) (UInt8.ofNat ((l.getD (at_ / 8) 0).toNat ^^^ 2 ^ (at_ % 8)))) = leN l ^^^ 2 ^ at_ := by
  apply Nat.eq_of_testBit_eq
  intro k
  have hb : (l.getD (at_ / 8) 0).toNat ^^^ 2 ^ (at_ % 8) < 256 := Nat.xor_lt_two_pow (n := 8) (byte_lt _) (Nat.pow_lt_pow_right (by decide) (by omega))
  rw [leN_testBit, Nat.testBit_xor, leN_testBit, Nat.testBit_two_pow]
  by_cases e : k / 8 = at_ / 8
  · rw [e]
    have : (l.set (at_ / 8) (UInt8.ofNat ((l.getD (at_ / 8) 0).toNat ^^^ 2 ^ (at_ % 8)))).getD (at_ / 8) 0 = UInt8.ofNat ((l.getD (at_ / 8) 0).toNat ^^^ 2 ^ (at_ % 8)) := by
      simp [List.getD_eq_getElem?_getD, h]
    rw [this, UInt8.toNat_ofNat', Nat.mod_eq_of_lt hb, Nat.testBit_xor, Nat.testBit_two_pow]
    congr 1
    have : (at_ % 8 = k % 8) ↔ (at_ = k) := by omega
    simp [this]
  · have : (l.set (at_ / 8) (UInt8.ofNat ((l.getD (at_ / 8) 0).toNat ^^^ 2 ^ (at_ % 8)))).getD (k / 8) 0 = l.getD (k / 8) 0 := by
      simp only [List.getD_eq_getElem?_getD]; rw [List.getElem?_set_ne (fun h => e h.symm)]
    rw [this]
    have : ¬ at_ = k := fun h => e (by rw [h])
    simp [this]
/-- Two texts of one length that differ in a burst of 16 bits. -/
theorem crc_burst {s t : Bs} (hl : s.length = t.length) {p bit : Nat} (hp : p < 65536) (hb : bit ≤ 8 * s.length) (h : leN t = leN s ^^^ (p * 2 ^ bit)) : (s = t) ↔ (crc s = crc t) := by
  constructor
  · rintro rfl; rfl
  · intro e
    have e1 : reg 65535 s = reg 65535 t := by
      have := congrArg (· ^^^ 65535) e
      simpa [crc, xor_back] using this
    rw [reg_steps, reg_steps, ← hl, h, ← Nat.xor_assoc, steps_xor (8 * s.length) (65535 ^^^ leN s) (p * 2 ^ bit)] at e1
    have e2 : steps (8 * s.length) (p * 2 ^ bit) = 0 := by
      have := congrArg (steps (8 * s.length) (65535 ^^^ leN s) ^^^ ·) e1
      simp only [← Nat.xor_assoc, Nat.xor_self, Nat.zero_xor] at this
      exact this.symm
    have e3 : steps (8 * s.length) (p * 2 ^ bit) = steps (8 * s.length - bit) p := by
      have : 8 * s.length = bit + (8 * s.length - bit) := by omega
      rw [this, steps_add, steps_pow]
      congr 1
      omega
    have e4 := steps_zero _ hp (e3 ▸ e2)
    refine leN_inj hl ?_
    rw [h, e4, Nat.zero_mul, Nat.xor_zero]
/-- The checksum of a text that is followed by its checksum. -/
theorem crc_residue (s : Bs) : crc (s ++ [UInt8.ofNat (crc s % 256), UInt8.ofNat (crc s / 256)]) = 3911 := by
  have hn := crc_lt s
  have hr : reg 65535 s = crc s ^^^ 65535 := by unfold crc; rw [xor_back]
  show reg 65535 (s ++ _) ^^^ 65535 = 3911
  rw [reg_append, hr]
  generalize crc s = n at hn
  show steps 8 (steps 8 (n ^^^ 65535 ^^^ (UInt8.ofNat (n % 256)).toNat) ^^^ (UInt8.ofNat (n / 256)).toNat) ^^^ 65535 = 3911
  rw [UInt8.toNat_ofNat', UInt8.toNat_ofNat', Nat.mod_eq_of_lt (by omega : n % 256 < 2 ^ 8), Nat.mod_eq_of_lt (by omega : n / 256 < 2 ^ 8)]
  have e : n ^^^ 65535 ^^^ n % 256 = 65535 ^^^ 256 * (n / 256) := by
    have e0 : n = n % 256 ^^^ 256 * (n / 256) := by rw [← add_xor _ _ (Nat.mod_lt _ (by decide))]; omega
    have : n ^^^ 65535 ^^^ n % 256 = (n % 256 ^^^ 256 * (n / 256)) ^^^ 65535 ^^^ n % 256 := by rw [← e0]
    rw [this, Nat.xor_comm (n % 256), Nat.xor_assoc, Nat.xor_assoc, ← Nat.xor_assoc (n % 256), Nat.xor_comm (n % 256) 65535, xor_back, Nat.xor_comm]
  rw [e, steps_xor 8 65535 (256 * (n / 256)), Nat.mul_comm 256, show steps 8 (n / 256 * 256) = n / 256 from steps_pow 8 _, xor_back]
  decide
/-- The bytewise exclusive or of three texts. -/
def xor3 : Bs → Bs → Bs → Bs
  | a :: s, b :: t, c :: u => (a ^^^ b ^^^ c) :: xor3 s t u
  | _, _, _ => []
theorem feed3 (x y z : Nat) (a b c : UInt8) : feed (x ^^^ y ^^^ z) (a ^^^ b ^^^ c) = feed x a ^^^ feed y b ^^^ feed z c := by
  unfold feed
  rw [UInt8.toNat_xor, UInt8.toNat_xor, ← steps_xor, ← steps_xor, xor_swap (x ^^^ y), xor_swap x y]
theorem reg3 {s t u : Bs} (h : s.length = t.length) (h' : s.length = u.length) (x y z : Nat) : reg (x ^^^ y ^^^ z) (xor3 s t u) = reg x s ^^^ reg y t ^^^ reg z u := by
  induction s generalizing t u x y z with
  | nil =>
    cases t with
    | nil => cases u with
      | nil => rfl
      | cons c u => simp at h'
    | cons b t => simp at h
  | cons a s ih =>
    cases t with
    | nil => simp at h
    | cons b t => cases u with
      | nil => simp at h'
      | cons c u =>
        show reg (feed (x ^^^ y ^^^ z) (a ^^^ b ^^^ c)) (xor3 s t u) = _
        rw [feed3, ih (by simpa using h) (by simpa using h')]
        rfl
theorem crc3 {s t u : Bs} (h : s.length = t.length) (h' : s.length = u.length) : crc (xor3 s t u) = crc s ^^^ crc t ^^^ crc u := by
  unfold crc
  have : (65535 : Nat) = 65535 ^^^ 65535 ^^^ 65535 := by decide
  have h3 := reg3 h h' 65535 65535 65535
  rw [show (65535 ^^^ 65535 ^^^ 65535 : Nat) = 65535 by decide] at h3
  rw [h3, xor_swap (reg 65535 s) 65535, Nat.xor_self, Nat.xor_zero, ← Nat.xor_assoc]
theorem xor3_length (s t u : Bs) (h : s.length = t.length) (h' : s.length = u.length) : (xor3 s t u).length = s.length := by
  induction s generalizing t u with
  | nil => cases t <;> cases u <;> rfl
  | cons a s ih =>
    cases t with
    | nil => simp at h
    | cons b t => cases u with
      | nil => simp at h'
      | cons c u => simp [xor3, ih t u (by simpa using h) (by simpa using h')]
theorem xor3_take (s t u : Bs) (k : Nat) (h : k < s.length) (h' : s.length = t.length) (h'' : s.length = u.length) :
    xor3 (s.take (k + 1)) (t.take (k + 1)) (u.take (k + 1)) = xor3 (s.take k) (t.take k) (u.take k) ++ [s.getD k 0 ^^^ t.getD k 0 ^^^ u.getD k 0] := by
  induction s generalizing t u k with
  | nil => simp at h
  | cons a s ih =>
    cases t with
    | nil => simp at h'
    | cons b t => cases u with
      | nil => simp at h''
      | cons c u =>
        cases k with
        | zero => simp [xor3]
        | succ k =>
          have := ih t u k (by simpa using h) (by simpa using h') (by simpa using h'')
          simp only [List.take_succ_cons]
          show (a ^^^ b ^^^ c) :: _ = ((a ^^^ b ^^^ c) :: _) ++ _
          rw [this]
          simp [List.getD_eq_getElem?_getD]
end Go.Proofs.Ytdjchpejhfkknaa.Dg.Gm
