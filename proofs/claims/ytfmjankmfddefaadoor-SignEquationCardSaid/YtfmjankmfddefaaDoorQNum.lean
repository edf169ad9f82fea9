/- Prime numbers, the theorem of Fermat, and a test that proves a number prime by a prime factor of what precedes it. Plain mathematics on natural numbers, without the program. Conditions: those of each lemma. -/
import Derived.KernelRfl
namespace Go.Proofs.YtfmjankmfddefaaDoor.Gp.Num
set_option linter.unusedVariables false

def Pr (p : Nat) : Prop := 2 ≤ p ∧ ∀ d, d ∣ p → d = 1 ∨ d = p
theorem Pr.pos {p : Nat} (h : Pr p) : 0 < p := by have := h.1; omega
theorem Pr.cop {p a : Nat} (hp : Pr p) (h : ¬ p ∣ a) : Nat.Coprime p a := by
  rcases hp.2 (Nat.gcd p a) (Nat.gcd_dvd_left p a) with h1 | h1
  · exact h1
  · exact absurd (h1 ▸ Nat.gcd_dvd_right p a) h
theorem Pr.dvd_mul {p a b : Nat} (hp : Pr p) (h : p ∣ a * b) : p ∣ a ∨ p ∣ b := by
  by_cases ha : p ∣ a
  · exact .inl ha
  · exact .inr ((hp.cop ha).dvd_of_dvd_mul_left h)

/-- Every number from 2 has a prime divisor. -/
theorem prime_divisor (n : Nat) (hn : 2 ≤ n) : ∃ p, Pr p ∧ p ∣ n := by
  induction n using Nat.strongRecOn with
  | ind n ih =>
    by_cases h : Pr n
    · exact ⟨n, h, Nat.dvd_refl n⟩
    · obtain ⟨d, hd, h1, h2⟩ : ∃ d, d ∣ n ∧ d ≠ 1 ∧ d ≠ n := by
        apply Classical.byContradiction
        intro hc
        apply h
        refine ⟨hn, fun d hd => ?_⟩
        apply Classical.byContradiction
        intro h'
        exact hc ⟨d, hd, fun h1 => h' (.inl h1), fun h1 => h' (.inr h1)⟩
      have hle := Nat.le_of_dvd (by omega) hd
      have h0 : d ≠ 0 := by
        rintro rfl
        have := Nat.zero_dvd.1 hd
        omega
      obtain ⟨p, hp, hpd⟩ := ih d (by omega) (by omega)
      exact ⟨p, hp, Nat.dvd_trans hpd hd⟩
/-- A number that is not prime has a prime divisor whose square is not greater. -/
theorem small_divisor (n : Nat) (hn : 2 ≤ n) (h : ¬ Pr n) : ∃ p, Pr p ∧ p ∣ n ∧ p * p ≤ n := by
  obtain ⟨d, hd, h1, h2⟩ : ∃ d, d ∣ n ∧ d ≠ 1 ∧ d ≠ n := by
    apply Classical.byContradiction
    intro hc
    apply h
    refine ⟨hn, fun d hd => ?_⟩
    apply Classical.byContradiction
    intro h'
    exact hc ⟨d, hd, fun h1 => h' (.inl h1), fun h1 => h' (.inr h1)⟩
  obtain ⟨e, rfl⟩ := hd
  have hd0 : d ≠ 0 := by rintro rfl; simp at hn
  have he0 : e ≠ 0 := by rintro rfl; simp at hn
  have he1 : e ≠ 1 := by rintro rfl; simp at h2
  by_cases hle : d ≤ e
  · obtain ⟨p, hp, hpd⟩ := prime_divisor d (by omega)
    have := Nat.le_of_dvd (by omega) hpd
    exact ⟨p, hp, Nat.dvd_trans hpd (Nat.dvd_mul_right _ _), Nat.le_trans (Nat.mul_le_mul this this) (Nat.mul_le_mul_left _ hle)⟩
  · obtain ⟨p, hp, hpd⟩ := prime_divisor e (by omega)
    have := Nat.le_of_dvd (by omega) hpd
    exact ⟨p, hp, Nat.dvd_trans hpd (Nat.dvd_mul_left _ _), Nat.le_trans (Nat.mul_le_mul this this) (Nat.mul_le_mul_right _ (by omega))⟩

/-! Fermat: the multiples of a, modulo p, are the numbers from 1 to p - 1 in another order. -/
def pro : List Nat → Nat
  | [] => 1
  | x :: l => x * pro l
theorem pro_perm {a b : List Nat} (h : a.Perm b) : pro a = pro b := by
  induction h with
  | nil => rfl
  | cons x _ ih => simp only [pro, ih]
  | swap x y l => simp only [pro]; exact Nat.mul_left_comm _ _ _
  | trans _ _ h1 h2 => rw [h1, h2]
theorem pro_map (a p : Nat) (l : List Nat) : pro (l.map fun i => a * i % p) % p = a ^ l.length * pro l % p := by
  induction l with
  | nil => rfl
  | cons x l ih =>
    simp only [List.map_cons, pro, List.length_cons]
    rw [Nat.mul_mod, ih, Nat.mod_mod, ← Nat.mul_mod, Nat.pow_succ, Nat.mul_mul_mul_comm, Nat.mul_comm a (a ^ l.length)]
def upTo (p : Nat) : List Nat := List.range' 1 (p - 1)
theorem mem_upTo {p i : Nat} : i ∈ upTo p ↔ 1 ≤ i ∧ i < p := by
  unfold upTo
  rw [List.mem_range'_1]
  omega
theorem cop_pro {p : Nat} (hp : Pr p) {l : List Nat} (h : ∀ i ∈ l, ¬ p ∣ i) : ¬ p ∣ pro l := by
  induction l with
  | nil => intro hd; have := Nat.le_of_dvd (by decide) hd; have := hp.1; simp [pro] at *; omega
  | cons x l ih =>
    intro hd
    rcases hp.dvd_mul hd with h1 | h1
    · exact h x (by simp) h1
    · exact ih (fun i hi => h i (by simp [hi])) h1
theorem not_dvd_lt {p i : Nat} (h1 : 1 ≤ i) (h2 : i < p) : ¬ p ∣ i := fun hd => by have := Nat.le_of_dvd h1 hd; omega
/-- What is common to both sides and coprime to the modulus can be left out. -/
theorem cancel {p a b c : Nat} (hp : Nat.Coprime p c) (h : a * c % p = b * c % p) : a % p = b % p := by
  have key : ∀ {x y : Nat}, y ≤ x → x * c % p = y * c % p → x % p = y % p := by
    intro x y hxy hh
    obtain ⟨d, rfl⟩ : ∃ d, x = y + d := ⟨x - y, by omega⟩
    have hd : p ∣ d * c := by
      rw [Nat.add_mul] at hh
      have h2 : (y * c + d * c) - y * c = d * c := by omega
      rw [← h2]
      exact Nat.dvd_of_mod_eq_zero (Nat.sub_mod_eq_zero_of_mod_eq hh)
    have := hp.dvd_of_dvd_mul_right hd
    obtain ⟨k, rfl⟩ := this
    rw [Nat.add_mul_mod_self_left]
  rcases Nat.le_total b a with hl | hl
  · exact key hl h
  · exact (key hl h.symm).symm
theorem perm_upTo {p a : Nat} (hp : Pr p) (ha : ¬ p ∣ a) : ((upTo p).map fun i => a * i % p).Perm (upTo p) := by
  have nd : (upTo p).Nodup := List.nodup_range' ..
  have inj : ∀ i, i ∈ upTo p → ∀ j, j ∈ upTo p → a * i % p = a * j % p → i = j := by
    intro i hi j hj h
    rw [mem_upTo] at hi hj
    rw [Nat.mul_comm a i, Nat.mul_comm a j] at h
    have := cancel (hp.cop ha) h
    rw [Nat.mod_eq_of_lt hi.2, Nat.mod_eq_of_lt hj.2] at this
    exact this
  have nd' : ((upTo p).map fun i => a * i % p).Nodup := by
    unfold List.Nodup at nd ⊢
    rw [List.pairwise_map]
    refine List.Pairwise.imp_of_mem ?_ nd
    intro i j hi hj hne h
    exact hne (inj i hi j hj h)
  have sub : ∀ x, x ∈ ((upTo p).map fun i => a * i % p) → x ∈ upTo p := by
    intro x hx
    obtain ⟨i, hi, rfl⟩ := List.mem_map.1 hx
    rw [mem_upTo] at hi ⊢
    refine ⟨?_, Nat.mod_lt _ hp.pos⟩
    apply Nat.pos_of_ne_zero
    intro h0
    rcases hp.dvd_mul (Nat.dvd_of_mod_eq_zero h0) with h | h
    · exact ha h
    · exact not_dvd_lt hi.1 hi.2 h
  refine (List.perm_ext_iff_of_nodup nd' nd).2 fun x => ⟨sub x, fun hx => ?_⟩
  apply Classical.byContradiction
  intro hn
  have := List.Nodup.length_le_of_subset (l₁ := x :: ((upTo p).map fun i => a * i % p)) (l₂ := upTo p) (List.nodup_cons.2 ⟨hn, nd'⟩) (fun y hy => by
    rcases List.mem_cons.1 hy with rfl | hy
    · exact hx
    · exact sub y hy)
  simp only [List.length_cons, List.length_map] at this
  omega
theorem fermat {p a : Nat} (hp : Pr p) (ha : ¬ p ∣ a) : a ^ (p - 1) % p = 1 := by
  have h := pro_map a p (upTo p)
  rw [pro_perm (perm_upTo hp ha), show (upTo p).length = p - 1 by simp [upTo]] at h
  have hc : ¬ p ∣ pro (upTo p) := cop_pro hp fun i hi => by rw [mem_upTo] at hi; exact not_dvd_lt hi.1 hi.2
  have h2 := cancel (a := 1) (b := a ^ (p - 1)) (hp.cop hc) (by rw [Nat.one_mul]; exact h)
  rw [← h2, Nat.mod_eq_of_lt hp.1]

theorem fermat' {p a n : Nat} (hp : Pr p) (hn : n + 1 = p) (ha : ¬ p ∣ a) : a ^ n % p = 1 := by
  have h := fermat hp ha
  rw [← hn, Nat.add_sub_cancel, hn] at h
  exact h
/-- The exponents whose power is 1 contain the greatest common divisor of any two of them. -/
theorem pow_gcd {p x : Nat} (hp : 2 ≤ p) (m n : Nat) : x ^ m % p = 1 → x ^ n % p = 1 → x ^ Nat.gcd m n % p = 1 := by
  induction m, n using Nat.gcd.induction with
  | H0 n => intro _ h; rw [Nat.gcd_zero_left]; exact h
  | H1 m n hm ih =>
    intro h1 h2
    rw [Nat.gcd_rec]
    refine ih ?_ h1
    have e := Nat.div_add_mod n m
    rw [← e, Nat.pow_add, Nat.pow_mul, Nat.mul_mod, Nat.pow_mod, h1, Nat.one_pow, Nat.mod_eq_of_lt hp, Nat.one_mul, Nat.mod_mod] at h2
    exact h2
theorem pow_dvd_one {p x : Nat} (hp : 2 ≤ p) {m n : Nat} (h : x ^ m % p = 1) (hd : m ∣ n) : x ^ n % p = 1 := by
  obtain ⟨k, rfl⟩ := hd
  rw [Nat.pow_mul, Nat.pow_mod, h, Nat.one_pow, Nat.mod_eq_of_lt hp]
/-- An element whose power with a prime exponent is 1 has no other exponents than the multiples of that one, if it is not 1. -/
theorem order_prime {p q x : Nat} (hp : 2 ≤ p) (hq : Pr q) (h : x ^ q % p = 1) (hx : x % p ≠ 1) (n : Nat) : x ^ n % p = 1 ↔ q ∣ n := by
  constructor
  · intro hn
    apply Classical.byContradiction
    intro hd
    have h1 := pow_gcd hp q n h hn
    rw [show Nat.gcd q n = 1 from hq.cop hd, Nat.pow_one] at h1
    exact hx h1
  · exact pow_dvd_one hp h

/-- N = q k + 1 is prime, if q is a prime with (q + 1)^2 > N, some a has a^(N-1) = 1 modulo N, and a^k - 1 is coprime to N. -/
theorem pock {N q k a c : Nat} (hq : Pr q) (hk : 1 ≤ k) (hN : N = q * k + 1) (hlt : N < (q + 1) * (q + 1)) (h1 : a ^ (q * k) % N = 1) (hc : a ^ k % N = c) (hc1 : 1 ≤ c) (h2 : Nat.gcd (c - 1) N = 1) : Pr N := by
  have hqk : 0 < q * k := Nat.mul_pos hq.pos hk
  have hN2 : 2 ≤ N := by omega
  apply Classical.byContradiction
  intro hn
  obtain ⟨p, hp, hpN, hpp⟩ := small_divisor N hN2 hn
  have h1p : a ^ (q * k) % p = 1 := by
    rw [← Nat.mod_mod_of_dvd _ hpN, h1, Nat.mod_eq_of_lt hp.1]
  have hap : ¬ p ∣ a ^ k := by
    intro hd
    have : p ∣ a ^ (q * k) := by
      rw [Nat.mul_comm, Nat.pow_mul]
      exact Nat.dvd_trans hd (Nat.dvd_trans (by rw [Nat.pow_one]; exact Nat.dvd_refl _) (Nat.pow_dvd_pow _ (show 1 ≤ q from hq.pos)))
    rw [Nat.mod_eq_zero_of_dvd this] at h1p
    omega
  have hf := fermat hp hap
  have hb : (a ^ k) ^ q % p = 1 := by rw [← Nat.pow_mul, Nat.mul_comm]; exact h1p
  have hp2 := hp.1
  by_cases hd : q ∣ p - 1
  · have hle := Nat.le_of_dvd (by have := hp.1; omega) hd
    have : (q + 1) * (q + 1) ≤ p * p := Nat.mul_le_mul (by omega) (by omega)
    omega
  · have h3 := pow_gcd hp.1 q (p - 1) hb hf
    rw [show Nat.gcd q (p - 1) = 1 from hq.cop hd, Nat.pow_one, ← Nat.mod_mod_of_dvd _ hpN, hc] at h3
    have h4 : p ∣ c - 1 := by
      have h5 : (c - 1) = c - c % p + (c % p - 1) := by have := Nat.mod_le c p; omega
      rw [h5, h3, Nat.sub_self, Nat.add_zero, ← h3]
      exact Nat.dvd_sub_mod c
    have h5 := Nat.dvd_gcd h4 hpN
    rw [h2] at h5
    have := Nat.le_of_dvd (by decide) h5
    have := hp.1
    omega

/-- The residue of a power, by squaring; n bounds the bits of the exponent. -/
def pm (N : Nat) : Nat → Nat → Nat → Nat
  | 0, _, _ => 1
  | f + 1, a, e => if e = 0 then 1 else if e % 2 = 1 then a * pm N f (a * a % N) (e / 2) % N else pm N f (a * a % N) (e / 2)
theorem pm_eq (N : Nat) (hN : 2 ≤ N) (f : Nat) : ∀ a e, e < 2 ^ f → pm N f a e % N = a ^ e % N := by
  induction f with
  | zero => intro a e he; have : e = 0 := by simpa using he
            subst this; rfl
  | succ f ih =>
    intro a e he
    rw [Nat.pow_succ] at he
    have hs : ∀ n, (a * a % N) ^ n % N = a ^ (2 * n) % N := by
      intro n
      rw [← Nat.pow_mod, Nat.pow_mul, Nat.pow_two]
    unfold pm
    split
    · next h => subst h; rfl
    · split
      · next h =>
        rw [Nat.mod_mod, Nat.mul_mod, ih _ _ (by omega), hs, ← Nat.mul_mod]
        conv => rhs; rw [show e = 2 * (e / 2) + 1 by omega, Nat.pow_succ, Nat.mul_comm]
      · next h =>
        rw [ih _ _ (by omega), hs]
        conv => rhs; rw [show e = 2 * (e / 2) by omega]

/-- No number from lo to lo + 2^f - 1 divides n. -/
def noDiv (n : Nat) : Nat → Nat → Bool
  | 0, lo => n % lo != 0
  | f + 1, lo => noDiv n f lo && noDiv n f (lo + 2 ^ f)
theorem noDiv_sound (n : Nat) (f : Nat) : ∀ lo, noDiv n f lo = true → ∀ d, lo ≤ d → d < lo + 2 ^ f → ¬ d ∣ n := by
  induction f with
  | zero =>
    intro lo h d h1 h2 hd
    have : d = lo := by simp at h2; omega
    subst this
    simp only [noDiv, bne_iff_ne, ne_eq] at h
    exact h (Nat.mod_eq_zero_of_dvd hd)
  | succ f ih =>
    intro lo h d h1 h2 hd
    simp only [noDiv, Bool.and_eq_true] at h
    rw [Nat.pow_succ] at h2
    by_cases hl : d < lo + 2 ^ f
    · exact ih lo h.1 d h1 hl hd
    · exact ih _ h.2 d (by omega) (by omega) hd
theorem pr_of_noDiv {n f : Nat} (hn : 2 ≤ n) (hf : n < (2 + 2 ^ f) * (2 + 2 ^ f)) (h : noDiv n f 2 = true) : Pr n := by
  apply Classical.byContradiction
  intro hp
  obtain ⟨p, h1, h2, h3⟩ := small_divisor n hn hp
  refine noDiv_sound n f 2 h p h1.1 ?_ h2
  apply Classical.byContradiction
  intro hc
  have : (2 + 2 ^ f) * (2 + 2 ^ f) ≤ p * p := Nat.mul_le_mul (by omega) (by omega)
  omega
end Go.Proofs.YtfmjankmfddefaaDoor.Gp.Num
