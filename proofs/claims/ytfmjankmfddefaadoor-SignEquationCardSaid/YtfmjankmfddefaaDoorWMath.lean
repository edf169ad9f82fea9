/- Plain mathematics of an encoding of integers, strings and lists that keeps their order: what is written is read again, nothing else is read, and the order is kept. Conditions: those of each lemma. -/
namespace Go.Proofs.YtfmjankmfddefaaDoor.Wr
namespace Wm
abbrev Bs := List UInt8
def J64 (n : Int) : Prop := -9223372036854775808 ≤ n ∧ n ≤ 9223372036854775807

def nby (m : Nat) : Nat :=
  if m < 1 then 0 else if m < 256 then 1 else if m < 65536 then 2 else if m < 16777216 then 3 else if m < 4294967296 then 4
  else if m < 1099511627776 then 5 else if m < 281474976710656 then 6 else if m < 72057594037927936 then 7 else 8
theorem nby_le (m : Nat) : nby m ≤ 8 := by unfold nby; (repeat' split) <;> omega
theorem nby_lt (m : Nat) (h : m < 18446744073709551616) : m < 256 ^ nby m := by
  unfold nby; (repeat' split) <;> omega
theorem nby_ge (m : Nat) (h : nby m ≠ 0) : 256 ^ (nby m - 1) ≤ m := by
  unfold nby at *; (repeat' split at *) <;> omega
theorem nby_mono {a b : Nat} (h : a ≤ b) (hb : b < 18446744073709551616) : nby a ≤ nby b := by
  rcases Nat.lt_or_ge (nby b) (nby a) with hlt | hge
  · have h1 := nby_ge a (by omega)
    have h2 := nby_lt b hb
    have h3 : 256 ^ nby b ≤ 256 ^ (nby a - 1) := Nat.pow_le_pow_right (by decide) (by omega)
    omega
  · exact hge
theorem nby_eq {m k : Nat} (h0 : k ≤ 8) (h1 : m < 256 ^ k) (h2 : k ≠ 0 → 256 ^ (k - 1) ≤ m) : nby m = k := by
  rcases Nat.lt_or_ge k 9 with hk | hk
  · have : k = 0 ∨ k = 1 ∨ k = 2 ∨ k = 3 ∨ k = 4 ∨ k = 5 ∨ k = 6 ∨ k = 7 ∨ k = 8 := by omega
    rcases this with rfl | rfl | rfl | rfl | rfl | rfl | rfl | rfl | rfl <;>
      (simp at h1 h2; unfold nby; (repeat' split) <;> omega)
  · omega

def mag (n : Int) : Nat := if n < 0 then (-(n + 1)).toNat else n.toNat
def kOf (n : Int) : Nat := nby (mag n)
theorem kOf_le (n : Int) : kOf n ≤ 8 := nby_le _
def byt (v : Int) : UInt8 := UInt8.ofNat (v % 256).toNat
theorem byt_toNat (v : Int) : ((byt v).toNat : Int) = v % 256 := by
  unfold byt
  rw [UInt8.toNat_ofNat']
  have h1 := Int.emod_nonneg v (by decide : (256 : Int) ≠ 0)
  have h2 := Int.emod_lt_of_pos v (by decide : (0 : Int) < 256)
  omega
theorem byt_of (b : UInt8) (s : Int) : byt (s * 256 + b.toNat) = b := by
  apply UInt8.toNat_inj.1
  have h := byt_toNat (s * 256 + b.toNat)
  have hb : b.toNat < 256 := b.toNat_lt
  omega
def be : Nat → Int → Bs
  | 0, _ => []
  | k + 1, v => byt (v / 256 ^ k) :: be k v
theorem be_length (k : Nat) (v : Int) : (be k v).length = k := by
  induction k with
  | zero => rfl
  | succ k ih => simp [be, ih]
def headN (n : Int) : Nat := if n < 0 then 127 - kOf n else 128 + kOf n
def encI (n : Int) : Bs := UInt8.ofNat (headN n) :: be (kOf n) n
theorem encI_length (n : Int) : (encI n).length = 1 + kOf n := by simp [encI, be_length]; omega
theorem encI_le (n : Int) : (encI n).length ≤ 9 := by have := kOf_le n; rw [encI_length]; omega
theorem headN_lt (n : Int) : headN n < 256 := by have := kOf_le n; unfold headN; split <;> omega

def bval : Int → Bs → Int
  | s, [] => s
  | s, b :: t => bval (s * 256 + b.toNat) t
theorem bval_snoc (s : Int) (t : Bs) (b : UInt8) : bval s (t ++ [b]) = bval s t * 256 + b.toNat := by
  induction t generalizing s with
  | nil => rfl
  | cons c t ih => exact ih _
theorem pow_pos (k : Nat) : (0 : Int) < 256 ^ k := Int.pow_pos (by decide)
theorem div_succ (v : Int) (k : Nat) : v / 256 ^ (k + 1) = v / 256 ^ k / 256 := by
  rw [Int.pow_succ, ← Int.ediv_ediv_of_nonneg (Int.le_of_lt (pow_pos k))]
theorem bval_be (k : Nat) (v : Int) : bval (v / 256 ^ k) (be k v) = v := by
  induction k with
  | zero => simp [be, bval]
  | succ k ih =>
    show bval (v / 256 ^ (k + 1) * 256 + (byt (v / 256 ^ k)).toNat) (be k v) = v
    rw [byt_toNat, div_succ]
    have : v / 256 ^ k / 256 * 256 + v / 256 ^ k % 256 = v / 256 ^ k := by omega
    rw [this, ih]
theorem be_bval (t : Bs) (s : Int) : be t.length (bval s t) = t ∧ bval s t / 256 ^ t.length = s := by
  induction t generalizing s with
  | nil => simp [be, bval]
  | cons b t ih =>
    obtain ⟨h1, h2⟩ := ih (s * 256 + b.toNat)
    have hb : b.toNat < 256 := b.toNat_lt
    refine ⟨?_, ?_⟩
    · show byt (bval (s * 256 + b.toNat) t / 256 ^ t.length) :: be t.length (bval (s * 256 + b.toNat) t) = b :: t
      rw [h1, h2, byt_of]
    · show bval (s * 256 + b.toNat) t / 256 ^ (t.length + 1) = s
      rw [div_succ, h2]
      omega

theorem mag_bd {n : Int} (h : J64 n) : mag n < 9223372036854775808 := by unfold mag; unfold J64 at h; split <;> omega
theorem pow_cast (k : Nat) : ((256 ^ k : Nat) : Int) = 256 ^ k := by simp
theorem pow_ge (k : Nat) (h : 8 ≤ k) : (18446744073709551616 : Int) ≤ 256 ^ k := by
  have := Nat.pow_le_pow_right (by decide : 0 < 256) h
  have h2 : (18446744073709551616 : Nat) ≤ 256 ^ k := this
  have h3 : ((18446744073709551616 : Nat) : Int) ≤ ((256 ^ k : Nat) : Int) := Int.ofNat_le.2 h2
  rw [pow_cast] at h3
  exact h3
theorem start_div {n : Int} (h : J64 n) : n / 256 ^ kOf n = if n < 0 then -1 else 0 := by
  have hm := nby_lt (mag n) (by have := mag_bd h; omega)
  have hm' : ((mag n : Nat) : Int) < 256 ^ kOf n := by rw [← pow_cast]; exact Int.ofNat_lt.2 hm
  have hp := pow_pos (kOf n)
  unfold mag at hm'
  split
  · rename_i hn
    rw [if_pos hn] at hm'
    have : ((-(n + 1)).toNat : Int) = -(n + 1) := Int.toNat_of_nonneg (by omega)
    rw [this] at hm'
    refine (Int.ediv_eq_iff_of_pos hp).2 ⟨by omega, by omega⟩
  · rename_i hn
    rw [if_neg hn] at hm'
    have : (n.toNat : Int) = n := Int.toNat_of_nonneg (by omega)
    rw [this] at hm'
    exact Int.ediv_eq_zero_of_lt (by omega) hm'

def isNeg (h : UInt8) : Bool := decide (h.toNat < 128)
def kH (h : UInt8) : Nat := if isNeg h then 127 - h.toNat else h.toNat - 128
def st (h : UInt8) : Int := if isNeg h then -1 else 0
instance (n : Int) : Decidable (J64 n) := inferInstanceAs (Decidable (-9223372036854775808 ≤ n ∧ n ≤ 9223372036854775807))
def decI : Bs → Option (Int × Bs)
  | [] => none
  | h :: t => if kH h ≤ t.length ∧ J64 (bval (st h) (t.take (kH h))) ∧ kOf (bval (st h) (t.take (kH h))) = kH h then some (bval (st h) (t.take (kH h)), t.drop (kH h)) else none
theorem decI_cons (h : UInt8) (t : Bs) : decI (h :: t) = if kH h ≤ t.length ∧ J64 (bval (st h) (t.take (kH h))) ∧ kOf (bval (st h) (t.take (kH h))) = kH h then some (bval (st h) (t.take (kH h)), t.drop (kH h)) else none := rfl

theorem head_of (n : Int) : kH (UInt8.ofNat (headN n)) = kOf n ∧ st (UInt8.ofNat (headN n)) = (if n < 0 then -1 else 0) := by
  have h1 := headN_lt n
  have h2 := kOf_le n
  have h3 : (UInt8.ofNat (headN n)).toNat = headN n := by rw [UInt8.toNat_ofNat']; omega
  unfold kH st isNeg
  rw [h3]
  unfold headN at *
  by_cases hn : n < 0
  · simp only [if_pos hn] at *
    have : (127 - kOf n < 128) := by omega
    simp [this]; omega
  · simp only [if_neg hn] at *
    have : ¬ (128 + kOf n < 128) := by omega
    simp [this]
theorem decI_enc {n : Int} (h : J64 n) (t : Bs) : decI (encI n ++ t) = some (n, t) := by
  obtain ⟨h1, h2⟩ := head_of n
  have hl := be_length (kOf n) n
  have e1 : (be (kOf n) n ++ t).take (kOf n) = be (kOf n) n := List.take_left' hl
  have e2 : (be (kOf n) n ++ t).drop (kOf n) = t := List.drop_left' hl
  have e3 := bval_be (kOf n) n
  rw [start_div h] at e3
  show decI (UInt8.ofNat (headN n) :: (be (kOf n) n ++ t)) = _
  rw [decI_cons]
  rw [h1, h2, e1, e2, e3, if_pos ⟨by simp [hl], h, rfl⟩]
theorem bval_neg (h : UInt8) (t : Bs) : (bval (st h) t < 0) ↔ isNeg h = true := by
  have hd := (be_bval t (st h)).2
  have hp := pow_pos t.length
  unfold st at *
  cases hn : isNeg h with
  | true =>
    simp only [hn, if_true] at *
    have := (Int.ediv_eq_iff_of_pos hp).1 hd
    simp; omega
  | false =>
    simp only [hn, Bool.false_eq_true, if_false] at *
    have := (Int.ediv_eq_iff_of_pos hp).1 hd
    simp; omega
theorem decI_some {s t : Bs} {n : Int} (h : decI s = some (n, t)) : J64 n ∧ s = encI n ++ t := by
  cases s with
  | nil => simp [decI] at h
  | cons a u =>
    rw [decI_cons] at h
    split at h
    · rename_i hc
      obtain ⟨c1, c2, c3⟩ := hc
      simp only [Option.some.injEq, Prod.mk.injEq] at h
      obtain ⟨rfl, rfl⟩ := h
      refine ⟨c2, ?_⟩
      have hl : (u.take (kH a)).length = kH a := by simp; omega
      have hb := (be_bval (u.take (kH a)) (st a)).1
      rw [hl] at hb
      unfold encI
      rw [c3, hb, List.cons_append, List.take_append_drop]
      congr 1
      have hneg := bval_neg a (u.take (kH a))
      have ha : a.toNat < 256 := a.toNat_lt
      apply UInt8.toNat_inj.1
      rw [UInt8.toNat_ofNat']
      unfold headN
      rw [c3]
      have hk := kOf_le (bval (st a) (u.take (kH a)))
      rw [c3] at hk
      by_cases hn : isNeg a = true
      · rw [if_pos (hneg.2 hn)]
        have : a.toNat < 128 := of_decide_eq_true hn
        unfold kH at hk ⊢
        rw [if_pos hn] at hk ⊢
        omega
      · rw [if_neg (fun e => hn (hneg.1 e))]
        have hn' : isNeg a = false := by simpa using hn
        have : ¬ a.toNat < 128 := of_decide_eq_false hn'
        unfold kH at hk ⊢
        rw [if_neg hn] at hk ⊢
        omega
    · cases h
theorem encI_inj {n m : Int} (hn : J64 n) (hm : J64 m) {t u : Bs} (h : encI n ++ t = encI m ++ u) : n = m ∧ t = u := by
  have h1 := decI_enc hn t
  rw [h, decI_enc hm u] at h1
  simp only [Option.some.injEq, Prod.mk.injEq] at h1
  exact ⟨h1.1.symm, h1.2.symm⟩
theorem decI_yes {h : UInt8} {t u : Bs} {m : Int} (e : decI (h :: t) = some (m, u)) : kH h ≤ t.length ∧ bval (st h) (t.take (kH h)) = m ∧ J64 m ∧ kOf m = kH h ∧ u = t.drop (kH h) ∧ (m < 0 ↔ isNeg h = true) := by
  rw [decI_cons] at e
  split at e
  · rename_i hc
    obtain ⟨c1, c2, c3⟩ := hc
    simp only [Option.some.injEq, Prod.mk.injEq] at e
    obtain ⟨rfl, rfl⟩ := e
    exact ⟨c1, rfl, c2, c3, rfl, bval_neg h _⟩
  · cases e
/-- What a reading of 64 bits that wraps finds where nothing is written. -/
theorem decI_no {h : UInt8} {t : Bs} (hx : decI (h :: t) = none) (hk : kH h ≤ t.length) {m : Int} (hm : J64 m) (e : ∃ c : Int, m = bval (st h) (t.take (kH h)) + c * 18446744073709551616)
    (a1 : kOf m = kH h) (a2 : m < 0 ↔ isNeg h = true) : False := by
  obtain ⟨c, rfl⟩ := e
  have hl : (t.take (kH h)).length = kH h := by simp; omega
  have hd := (be_bval (t.take (kH h)) (st h)).2
  rw [hl] at hd
  have hneg := bval_neg h (t.take (kH h))
  have hp := pow_pos (kH h)
  have hdd := (Int.ediv_eq_iff_of_pos hp).1 hd
  rw [decI_cons] at hx
  generalize bval (st h) (t.take (kH h)) = v at *
  have hs : (isNeg h = true ∧ st h = -1) ∨ (isNeg h = false ∧ st h = 0) := by
    unfold st; cases isNeg h <;> simp
  have hk8 := kOf_le (v + c * 18446744073709551616)
  rw [a1] at hk8
  have hpl : (256 : Int) ^ kH h ≤ 18446744073709551616 := by
    have h3 : ((256 ^ kH h : Nat) : Int) ≤ ((256 ^ 8 : Nat) : Int) := Int.ofNat_le.2 (Nat.pow_le_pow_right (by decide) hk8)
    rw [pow_cast] at h3
    exact h3
  have hc : c = 0 := by
    unfold J64 at hm
    rcases hs with ⟨e1, e2⟩ | ⟨e1, e2⟩
    · rw [e2] at hdd
      have := a2.2 e1
      omega
    · rw [e2] at hdd
      have : ¬ (v + c * 18446744073709551616 < 0) := fun e => by have := a2.1 e; rw [e1] at this; cases this
      omega
  subst hc
  simp only [Int.zero_mul, Int.add_zero] at *
  rw [if_pos ⟨hk, hm, a1⟩] at hx
  cases hx

/-! The order: two texts that differ at some place, the first one with the lesser byte there. -/
def D (s t : Bs) : Prop := ∃ (p : Bs) (a b : UInt8) (x y : Bs), s = p ++ a :: x ∧ t = p ++ b :: y ∧ a.toNat < b.toNat
theorem D.app {s t : Bs} (h : D s t) (u v : Bs) : D (s ++ u) (t ++ v) := by
  obtain ⟨p, a, b, x, y, rfl, rfl, hab⟩ := h
  exact ⟨p, a, b, x ++ u, y ++ v, by simp, by simp, hab⟩
theorem D.pre {s t : Bs} (h : D s t) (q : Bs) : D (q ++ s) (q ++ t) := by
  obtain ⟨p, a, b, x, y, rfl, rfl, hab⟩ := h
  exact ⟨q ++ p, a, b, x, y, by simp, by simp, hab⟩
theorem D.at_ {a b : UInt8} (h : a.toNat < b.toNat) (x y : Bs) : D (a :: x) (b :: y) := ⟨[], a, b, x, y, rfl, rfl, h⟩
theorem D.not_pre {s t : Bs} (h : D s t) : ¬ s <+: t ∧ ¬ t <+: s := by
  obtain ⟨p, a, b, x, y, rfl, rfl, hab⟩ := h
  constructor
  · intro hp
    rw [List.prefix_append_right_inj] at hp
    have := (List.cons_prefix_cons.1 hp).1
    subst this
    omega
  · intro hp
    rw [List.prefix_append_right_inj] at hp
    have := (List.cons_prefix_cons.1 hp).1
    subst this
    omega
theorem be_lt (k : Nat) {v w : Int} (h : v < w) (e : v / 256 ^ k = w / 256 ^ k) : D (be k v) (be k w) := by
  induction k with
  | zero => simp at e; omega
  | succ k ih =>
    show D (byt (v / 256 ^ k) :: be k v) (byt (w / 256 ^ k) :: be k w)
    by_cases hq : v / 256 ^ k = w / 256 ^ k
    · rw [hq]
      exact (ih hq).pre [_]
    · refine D.at_ ?_ _ _
      have hle : v / 256 ^ k ≤ w / 256 ^ k := Int.ediv_le_ediv (pow_pos k) (by omega)
      rw [div_succ, div_succ] at e
      have h1 := byt_toNat (v / 256 ^ k)
      have h2 := byt_toNat (w / 256 ^ k)
      omega
theorem headN_mono {n m : Int} (hn : J64 n) (hm : J64 m) (h : n < m) : headN n ≤ headN m := by
  have b1 := mag_bd hn
  have b2 := mag_bd hm
  have k1 := kOf_le n
  have k2 := kOf_le m
  unfold headN
  by_cases h1 : n < 0
  · by_cases h2 : m < 0
    · rw [if_pos h1, if_pos h2]
      have : kOf m ≤ kOf n := nby_mono (by unfold mag; rw [if_pos h1, if_pos h2]; omega) (by omega)
      omega
    · rw [if_pos h1, if_neg h2]
      omega
  · have h2 : ¬ m < 0 := by omega
    rw [if_neg h1, if_neg h2]
    have : kOf n ≤ kOf m := nby_mono (by unfold mag; rw [if_neg h1, if_neg h2]; omega) (by omega)
    omega
theorem encI_lt {n m : Int} (hn : J64 n) (hm : J64 m) (h : n < m) : D (encI n) (encI m) := by
  have h0 := headN_mono hn hm h
  by_cases he : headN n = headN m
  · have hk : kOf n = kOf m ∧ (n < 0 ↔ m < 0) := by
      have k1 := kOf_le n
      have k2 := kOf_le m
      unfold headN at he
      by_cases h1 : n < 0
      · by_cases h2 : m < 0
        · rw [if_pos h1, if_pos h2] at he
          exact ⟨by omega, by simp [h1, h2]⟩
        · rw [if_pos h1, if_neg h2] at he
          omega
      · by_cases h2 : m < 0
        · omega
        · rw [if_neg h1, if_neg h2] at he
          exact ⟨by omega, by simp [h1, h2]⟩
    unfold encI
    rw [he, hk.1]
    refine (be_lt _ h ?_).pre [_]
    have e1 := start_div hn
    have e2 := start_div hm
    rw [hk.1] at e1
    rw [e1, e2]
    by_cases h1 : n < 0
    · rw [if_pos h1, if_pos (hk.2.1 h1)]
    · rw [if_neg h1, if_neg (fun e => h1 (hk.2.2 e))]
  · refine D.at_ ?_ _ _
    have a1 := headN_lt n
    have a2 := headN_lt m
    rw [UInt8.toNat_ofNat', UInt8.toNat_ofNat']
    omega

/-! Texts. -/
def esc : Bs → Bs
  | [] => []
  | b :: t => if b = 0 then 0 :: 255 :: esc t else b :: esc t
theorem esc_zero (t : Bs) : esc (0 :: t) = 0 :: 255 :: esc t := rfl
theorem esc_other {b : UInt8} (h : b ≠ 0) (t : Bs) : esc (b :: t) = b :: esc t := by show (if b = 0 then _ else _) = _; rw [if_neg h]
theorem esc_append (s t : Bs) : esc (s ++ t) = esc s ++ esc t := by
  induction s with
  | nil => rfl
  | cons b s ih =>
    by_cases hb : b = 0
    · subst hb; rw [List.cons_append, esc_zero, esc_zero, ih]; rfl
    · rw [List.cons_append, esc_other hb, esc_other hb, ih]; rfl
theorem esc_length (s : Bs) : s.length ≤ (esc s).length ∧ (esc s).length ≤ 2 * s.length := by
  induction s with
  | nil => simp [esc]
  | cons b s ih =>
    by_cases hb : b = 0
    · subst hb; rw [esc_zero]; simp; omega
    · rw [esc_other hb]; simp; omega
def encT (s : Bs) : Bs := esc s ++ [0, 1]
theorem encT_length (s : Bs) : (encT s).length = (esc s).length + 2 := by simp [encT]
theorem encT_le (s : Bs) : (encT s).length ≤ 2 * s.length + 2 := by have := (esc_length s).2; rw [encT_length]; omega
def decT : Bs → Option (Bs × Bs)
  | [] => none
  | b :: t => if b = 0 then (match t with | [] => none | c :: u => if c = 1 then some ([], u) else if c = 255 then (decT u).map (fun p => (0 :: p.1, p.2)) else none)
      else (decT t).map (fun p => (b :: p.1, p.2))
theorem decT_end (u : Bs) : decT (0 :: 1 :: u) = some ([], u) := by rw [decT.eq_def]; simp
theorem decT_zero (u : Bs) : decT (0 :: 255 :: u) = (decT u).map (fun p => (0 :: p.1, p.2)) := by rw [decT.eq_def]; simp
theorem decT_bad {c : UInt8} (u : Bs) (h1 : c ≠ 1) (h2 : c ≠ 255) : decT (0 :: c :: u) = none := by rw [decT.eq_def]; simp [h1, h2]
theorem decT_one : decT [0] = none := by rw [decT.eq_def]; simp
theorem decT_other {b : UInt8} (h : b ≠ 0) (t : Bs) : decT (b :: t) = (decT t).map (fun p => (b :: p.1, p.2)) := by rw [decT.eq_def]; simp [h]
theorem decT_enc (s t : Bs) : decT (encT s ++ t) = some (s, t) := by
  induction s with
  | nil => exact decT_end t
  | cons b s ih =>
    unfold encT at ih ⊢
    by_cases hb : b = 0
    · subst hb
      rw [esc_zero]
      show decT (0 :: 255 :: (esc s ++ [0, 1] ++ t)) = _
      rw [decT_zero, ih]; rfl
    · rw [esc_other hb]
      show decT (b :: (esc s ++ [0, 1] ++ t)) = _
      rw [decT_other hb, ih]; rfl
theorem decT_some : ∀ (s x t : Bs), decT s = some (x, t) → s = encT x ++ t
  | [], x, t, h => by simp [decT] at h
  | [b], x, t, h => by
    by_cases hb : b = 0
    · subst hb; rw [decT_one] at h; cases h
    · rw [decT_other hb] at h; simp [decT] at h
  | b :: c :: u, x, t, h => by
    by_cases hb : b = 0
    · subst hb
      by_cases h1 : c = 1
      · subst h1
        rw [decT_end] at h
        simp only [Option.some.injEq, Prod.mk.injEq] at h
        obtain ⟨rfl, rfl⟩ := h
        rfl
      · by_cases h2 : c = 255
        · subst h2
          rw [decT_zero, Option.map_eq_some_iff] at h
          obtain ⟨⟨y, z⟩, hy, he⟩ := h
          simp only [Prod.mk.injEq] at he
          obtain ⟨rfl, rfl⟩ := he
          rw [decT_some u y z hy]
          unfold encT
          rw [esc_zero]
          rfl
        · rw [decT_bad u h1 h2] at h; cases h
    · rw [decT_other hb, Option.map_eq_some_iff] at h
      obtain ⟨⟨y, z⟩, hy, he⟩ := h
      simp only [Prod.mk.injEq] at he
      obtain ⟨rfl, rfl⟩ := he
      rw [decT_some (c :: u) y z hy]
      unfold encT
      rw [esc_other hb]
      rfl
theorem encT_inj {x y t u : Bs} (h : encT x ++ t = encT y ++ u) : x = y ∧ t = u := by
  have h1 := decT_enc x t
  rw [h, decT_enc y u] at h1
  simp only [Option.some.injEq, Prod.mk.injEq] at h1
  exact ⟨h1.1.symm, h1.2.symm⟩
/-- The order of texts. -/
def Lx (x y : Bs) : Prop := D x y ∨ ∃ b u, y = x ++ b :: u
theorem Lx.cons {x y : Bs} (h : Lx x y) (b : UInt8) : Lx (b :: x) (b :: y) := by
  rcases h with h | ⟨c, u, rfl⟩
  · exact .inl (h.pre [b])
  · exact .inr ⟨c, u, rfl⟩
theorem Lx_total (x y : Bs) : x = y ∨ Lx x y ∨ Lx y x := by
  induction x generalizing y with
  | nil =>
    cases y with
    | nil => exact .inl rfl
    | cons b u => exact .inr (.inl (.inr ⟨b, u, rfl⟩))
  | cons a x ih =>
    cases y with
    | nil => exact .inr (.inr (.inr ⟨a, x, rfl⟩))
    | cons b y =>
      by_cases hab : a.toNat < b.toNat
      · exact .inr (.inl (.inl (D.at_ hab _ _)))
      · by_cases hba : b.toNat < a.toNat
        · exact .inr (.inr (.inl (D.at_ hba _ _)))
        · have : a = b := UInt8.toNat_inj.1 (by omega)
          subst this
          rcases ih y with rfl | h | h
          · exact .inl rfl
          · exact .inr (.inl (h.cons a))
          · exact .inr (.inr (h.cons a))
theorem encT_lt {x y : Bs} (h : Lx x y) : D (encT x) (encT y) := by
  unfold encT
  rcases h with ⟨p, a, b, u, v, rfl, rfl, hab⟩ | ⟨b, u, rfl⟩
  · rw [esc_append, esc_append, List.append_assoc, List.append_assoc]
    refine D.pre ?_ _
    have hb : b ≠ 0 := fun e => by subst e; simp at hab
    rw [esc_other hb]
    by_cases ha : a = 0
    · subst ha; rw [esc_zero]; exact D.at_ hab _ _
    · rw [esc_other ha]; exact D.at_ hab _ _
  · rw [esc_append, List.append_assoc]
    refine D.pre ?_ _
    by_cases hb : b = 0
    · subst hb; rw [esc_zero]; exact ⟨[0], 1, 255, [], _, rfl, rfl, by decide⟩
    · rw [esc_other hb]
      refine D.at_ ?_ _ _
      have : b.toNat ≠ 0 := fun e => hb (UInt8.toNat_inj.1 e)
      show 0 < b.toNat
      omega

/-! Lists. -/
def pre {α : Type} (enc : α → Bs) : List α → Bs
  | [] => []
  | x :: l => 1 :: (enc x ++ pre enc l)
def encL {α : Type} (enc : α → Bs) (l : List α) : Bs := pre enc l ++ [0]
theorem pre_append {α : Type} (enc : α → Bs) (l m : List α) : pre enc (l ++ m) = pre enc l ++ pre enc m := by
  induction l with
  | nil => rfl
  | cons x l ih => simp [pre, ih]
theorem pre_snoc {α : Type} (enc : α → Bs) (l : List α) (x : α) : pre enc (l ++ [x]) = pre enc l ++ 1 :: enc x := by rw [pre_append]; simp [pre]
theorem pre_le {α : Type} (enc : α → Bs) (l : List α) (c : Nat) (h : ∀ x ∈ l, (enc x).length ≤ c) : (pre enc l).length ≤ l.length * (c + 1) := by
  induction l with
  | nil => simp [pre]
  | cons x l ih =>
    have h1 := ih fun y hy => h y (by simp [hy])
    have h2 := h x (by simp)
    simp only [pre, List.length_cons, List.length_append, Nat.add_mul]
    omega
theorem encL_le {α : Type} (enc : α → Bs) (l : List α) (c : Nat) (h : ∀ x ∈ l, (enc x).length ≤ c) : (encL enc l).length ≤ l.length * (c + 1) + 1 := by
  have := pre_le enc l c h
  simp [encL]; omega
/-- Whatever begins with some elements and is the writing of a list: the list begins with them. -/
theorem encL_peel {α : Type} {enc : α → Bs} (good : α → Prop) (inj : ∀ x y t u, good x → good y → enc x ++ t = enc y ++ u → x = y ∧ t = u) :
    ∀ (l : List α) (r : Bs) (l' : List α) (t' : Bs), (∀ x ∈ l, good x) → (∀ x ∈ l', good x) → pre enc l ++ r = encL enc l' ++ t' → ∃ l'', l' = l ++ l'' ∧ r = encL enc l'' ++ t'
  | [], r, l', t', _, _, h => ⟨l', rfl, h⟩
  | x :: l, r, [], t', _, _, h => by simp [pre, encL] at h
  | x :: l, r, y :: l', t', hg, hg', h => by
    have h2 : enc x ++ (pre enc l ++ r) = enc y ++ (encL enc l' ++ t') := by simpa [pre, encL] using h
    obtain ⟨rfl, h3⟩ := inj x y _ _ (hg x (by simp)) (hg' y (by simp)) h2
    obtain ⟨l'', rfl, hr⟩ := encL_peel good inj l r l' t' (fun z hz => hg z (by simp [hz])) (fun z hz => hg' z (by simp [hz])) h3
    exact ⟨l'', rfl, hr⟩
theorem encL_inj {α : Type} {enc : α → Bs} (good : α → Prop) (inj : ∀ x y t u, good x → good y → enc x ++ t = enc y ++ u → x = y ∧ t = u)
    (l : List α) (t : Bs) (l' : List α) (t' : Bs) (hg : ∀ x ∈ l, good x) (hg' : ∀ x ∈ l', good x) (h : encL enc l ++ t = encL enc l' ++ t') : l = l' ∧ t = t' := by
  have h1 : pre enc l ++ (0 :: t) = encL enc l' ++ t' := by simpa [encL] using h
  obtain ⟨l'', rfl, hr⟩ := encL_peel good inj l _ l' t' hg hg' h1
  cases l'' with
  | nil => simp [encL, pre] at hr; exact ⟨by simp, hr⟩
  | cons y l'' => simp [encL, pre] at hr
/-- The order of lists, by the first elements that differ. -/
def LL {α : Type} (lt : α → α → Prop) (l m : List α) : Prop := (∃ p a b x y, l = p ++ a :: x ∧ m = p ++ b :: y ∧ lt a b) ∨ ∃ b u, m = l ++ b :: u
theorem encL_lt {α : Type} {enc : α → Bs} {lt : α → α → Prop} (hlt : ∀ a b, lt a b → D (enc a) (enc b)) {l m : List α} (h : LL lt l m) : D (encL enc l) (encL enc m) := by
  unfold encL
  rcases h with ⟨p, a, b, x, y, rfl, rfl, hab⟩ | ⟨b, u, rfl⟩
  · rw [pre_append, pre_append, List.append_assoc, List.append_assoc]
    refine D.pre ?_ _
    simp only [pre, List.cons_append, List.append_assoc]
    exact ((hlt a b hab).app _ _).pre [1]
  · rw [pre_append, List.append_assoc]
    refine D.pre ?_ _
    simp only [pre, List.cons_append]
    exact D.at_ (by decide) _ _
end Wm
end Go.Proofs.YtfmjankmfddefaaDoor.Wr
