/- What hexadecimal digits mean: the plain mathematics. Conditions: those of each lemma. -/
import Derived.Test.YtobhbdaenlkodaaDoorGHex
import Derived.Test.YtobhbdaenlkodaaDoorShelf
namespace Go.Proofs.YtobhbdaenlkodaaDoor
open Go.RowKit Gm
set_option linter.unusedVariables false

/-- The number of a digit, or -1. -/
def dval (c : UInt8) : Int := if 48 ≤ c.toNat ∧ c.toNat ≤ 57 then (c.toNat : Int) - 48 else if 97 ≤ c.toNat ∧ c.toNat ≤ 102 then (c.toNat : Int) - 87 else -1
theorem dval_index0 : ∀ c : Fin 256, Lib.indexByte digs.data.toList (UInt8.ofNat c.val) = dval (UInt8.ofNat c.val) := by decide +kernel
theorem dval_index (c : UInt8) : Lib.indexByte digs.data.toList c = dval c := by
  have := dval_index0 ⟨c.toNat, byte_lt c⟩
  simpa using this
theorem dval_bd (c : UInt8) : -1 ≤ dval c ∧ dval c < 16 := by unfold dval; (repeat' split) <;> omega
theorem dval_hexd0 : ∀ n : Fin 16, dval (hexd n.val) = (n.val : Int) := by decide +kernel
theorem dval_hexd (n : Nat) (h : n < 16) : dval (hexd n) = n := dval_hexd0 ⟨n, h⟩
theorem hexd_dval0 : ∀ c : Fin 256, 0 ≤ dval (UInt8.ofNat c.val) → hexd (dval (UInt8.ofNat c.val)).toNat = UInt8.ofNat c.val := by decide +kernel
theorem hexd_dval (c : UInt8) (h : 0 ≤ dval c) : hexd (dval c).toNat = c := by
  have := hexd_dval0 ⟨c.toNat, byte_lt c⟩
  simp only [UInt8.ofNat_toNat] at this
  exact this h
/-- The bytes of as many digits. -/
def unhexs : Bs → Option Bs
  | [] => some []
  | [_] => none
  | a :: b :: l => if 0 ≤ dval a ∧ 0 ≤ dval b then (unhexs l).map (UInt8.ofNat (16 * (dval a).toNat + (dval b).toNat) :: ·) else none
def pairs : Bs → Bs
  | a :: b :: l => UInt8.ofNat (16 * (dval a).toNat + (dval b).toNat) :: pairs l
  | _ => []
def okB (l : Bs) : Bool := l.all fun c => decide (0 ≤ dval c)
theorem pairs_length : ∀ l : Bs, (pairs l).length = l.length / 2
  | [] => rfl
  | [_] => by simp [pairs]
  | a :: b :: l => by
    have := pairs_length l
    simp only [pairs, List.length_cons, this]
    omega
theorem pairs_at (p : Nat) : ∀ (l : Bs), p < l.length / 2 → (pairs l).getD p 0 = UInt8.ofNat (16 * (dval (l.getD (2 * p) 0)).toNat + (dval (l.getD (2 * p + 1) 0)).toNat) := by
  induction p with
  | zero =>
    intro l h
    match l, h with
    | a :: b :: l, _ => rfl
    | [_], h => exact absurd h (by simp)
    | [], h => exact absurd h (by simp)
  | succ p ih =>
    intro l h
    match l, h with
    | a :: b :: l, h =>
      have h' : p < l.length / 2 := by simp only [List.length_cons] at h; omega
      have := ih l h'
      show (pairs l).getD p 0 = _
      rw [this]
      have e1 : 2 * (p + 1) = 2 * p + 1 + 1 := by omega
      rw [e1]
      rfl
    | [_], h => exact absurd h (by simp)
    | [], h => exact absurd h (by simp)
theorem unhexs_eq : ∀ l : Bs, unhexs l = if l.length % 2 = 0 ∧ okB l = true then some (pairs l) else none
  | [] => rfl
  | [_] => by simp [unhexs]
  | a :: b :: l => by
    have ih := unhexs_eq l
    have hlen : (a :: b :: l).length % 2 = l.length % 2 := by simp only [List.length_cons]; omega
    have hok : okB (a :: b :: l) = (decide (0 ≤ dval a) && (decide (0 ≤ dval b) && okB l)) := rfl
    show (if 0 ≤ dval a ∧ 0 ≤ dval b then (unhexs l).map _ else none) = _
    rw [ih, hlen, hok]
    by_cases ha : 0 ≤ dval a <;> by_cases hb : 0 ≤ dval b <;> by_cases hl : l.length % 2 = 0 <;> cases ho : okB l <;> simp [ha, hb, hl, pairs]
theorem unhexs_hexs (s : Bs) : unhexs (hexs s) = some s := by
  induction s with
  | nil => rfl
  | cons b s ih =>
    have h := byte_lt b
    show (if 0 ≤ dval (hexd (b.toNat / 16)) ∧ 0 ≤ dval (hexd (b.toNat % 16)) then (unhexs (hexs s)).map _ else none) = _
    rw [dval_hexd _ (by omega), dval_hexd _ (by omega), if_pos ⟨by omega, by omega⟩, ih]
    show some (UInt8.ofNat _ :: s) = _
    rw [Int.toNat_natCast, Int.toNat_natCast, show 16 * (b.toNat / 16) + b.toNat % 16 = b.toNat by omega, UInt8.ofNat_toNat]
theorem hexs_unhexs : ∀ (h b : Bs), unhexs h = some b → hexs b = h
  | [], b, e => by
    have : b = [] := by simpa [unhexs] using e.symm
    rw [this]; rfl
  | [_], b, e => by simp [unhexs] at e
  | x :: y :: l, b, e => by
    have e' : (if 0 ≤ dval x ∧ 0 ≤ dval y then (unhexs l).map (UInt8.ofNat (16 * (dval x).toNat + (dval y).toNat) :: ·) else none) = some b := e
    split at e'
    · rename_i hd
      cases hu : unhexs l with
      | none => rw [hu] at e'; cases e'
      | some t =>
        rw [hu] at e'
        have hb : b = UInt8.ofNat (16 * (dval x).toNat + (dval y).toNat) :: t := (Option.some.inj e').symm
        have ih := hexs_unhexs l t hu
        have hx := dval_bd x
        have hy := dval_bd y
        rw [hb]
        show hexd ((UInt8.ofNat _).toNat / 16) :: hexd ((UInt8.ofNat _).toNat % 16) :: hexs t = _
        rw [UInt8.toNat_ofNat', Nat.mod_eq_of_lt (by omega : 16 * (dval x).toNat + (dval y).toNat < 2 ^ 8), show (16 * (dval x).toNat + (dval y).toNat) / 16 = (dval x).toNat by omega,
          show (16 * (dval x).toNat + (dval y).toNat) % 16 = (dval y).toNat by omega, hexd_dval x hd.1, hexd_dval y hd.2, ih]
    · cases e'
/-- The bytes after i digits. -/
def ub (s : Bs) (i : Nat) : Bs := (List.range (s.length / 2)).map fun p =>
  if 2 * p + 1 < i then UInt8.ofNat (16 * (dval (s.getD (2 * p) 0)).toNat + (dval (s.getD (2 * p + 1) 0)).toNat) else if 2 * p < i then UInt8.ofNat (dval (s.getD (2 * p) 0)).toNat else 0
theorem ub_length (s : Bs) (i : Nat) : (ub s i).length = s.length / 2 := by simp [ub]
theorem ub_zero (s : Bs) : ub s 0 = List.replicate (s.length / 2) 0 := by
  apply List.ext_getElem
  · simp [ub]
  · intro i h1 h2
    rw [List.getElem_replicate]
    simp only [ub, List.getElem_map, List.getElem_range]
    rw [if_neg (by omega), if_neg (by omega)]
theorem ub_all (s : Bs) (h : s.length % 2 = 0) : ub s s.length = pairs s := by
  apply List.ext_getElem
  · rw [ub_length, pairs_length]
  · intro p h1 h2
    have hp : p < s.length / 2 := by rw [ub_length] at h1; exact h1
    have := pairs_at p s hp
    rw [List.getD_eq_getElem?_getD, List.getElem?_eq_getElem h2] at this
    simp only [ub, List.getElem_map, List.getElem_range]
    rw [if_pos (by omega)]
    exact this.symm
theorem ub_step (s : Bs) (i : Nat) (h : i < s.length) (he : s.length % 2 = 0) (hd : 0 ≤ dval (s.getD i 0)) :
    ub s (i + 1) = (ub s i).set (i / 2) (UInt8.ofNat (16 * ((ub s i).getD (i / 2) 0).toNat % 256 ||| (dval (s.getD i 0)).toNat)) ∧ ((ub s i).getD (i / 2) 0).toNat < 16 := by
  have hp : i / 2 < s.length / 2 := by omega
  have hold : (ub s i).getD (i / 2) 0 = if i % 2 = 1 then UInt8.ofNat (dval (s.getD (i - 1) 0)).toNat else 0 := by
    rw [List.getD_eq_getElem?_getD, List.getElem?_eq_getElem (by rw [ub_length]; exact hp)]
    simp only [ub, List.getElem_map, List.getElem_range, Option.getD_some]
    rw [if_neg (by omega)]
    by_cases hi : i % 2 = 1
    · rw [if_pos (by omega), if_pos hi, show 2 * (i / 2) = i - 1 by omega]
    · rw [if_neg (by omega), if_neg hi]
  have b0 := dval_bd (s.getD i 0)
  have b1 := dval_bd (s.getD (i - 1) 0)
  have hlt : ((ub s i).getD (i / 2) 0).toNat < 16 := by
    rw [hold]
    split
    · rw [UInt8.toNat_ofNat']; omega
    · decide
  refine ⟨?_, hlt⟩
  have hnew : UInt8.ofNat (16 * ((ub s i).getD (i / 2) 0).toNat % 256 ||| (dval (s.getD i 0)).toNat) = if i % 2 = 1 then UInt8.ofNat (16 * (dval (s.getD (i - 1) 0)).toNat + (dval (s.getD i 0)).toNat) else UInt8.ofNat (dval (s.getD i 0)).toNat := by
    rw [hold]
    by_cases hi : i % 2 = 1
    · rw [if_pos hi, if_pos hi, UInt8.toNat_ofNat', Nat.mod_eq_of_lt (by omega : (dval (s.getD (i - 1) 0)).toNat < 2 ^ 8), Nat.mod_eq_of_lt (by omega : 16 * (dval (s.getD (i - 1) 0)).toNat < 256)]
      congr 1
      have := nat_join 4 (16 * (dval (s.getD (i - 1) 0)).toNat) (dval (s.getD i 0)).toNat (by omega) (by omega)
      exact this
    · rw [if_neg hi, if_neg hi]
      show UInt8.ofNat (16 * (0 : UInt8).toNat % 256 ||| _) = _
      rw [show 16 * (0 : UInt8).toNat % 256 = 0 from rfl, Nat.zero_or]
  rw [hnew]
  apply List.ext_getElem
  · simp [ub]
  · intro p h1 h2
    rw [List.getElem_set]
    simp only [ub, List.getElem_map, List.getElem_range]
    by_cases e : i / 2 = p
    · rw [if_pos e]
      by_cases hi : i % 2 = 1
      · rw [if_pos hi, if_pos (by omega), show 2 * p = i - 1 by omega, show i - 1 + 1 = i by omega]
      · rw [if_neg hi, if_neg (by omega), if_pos (by omega), show 2 * p = i by omega]
    · rw [if_neg e]
      by_cases c1 : 2 * p + 1 < i
      · rw [if_pos c1, if_pos (by omega)]
      · rw [if_neg c1, if_neg (by omega)]
        by_cases c2 : 2 * p < i
        · rw [if_pos c2, if_pos (by omega)]
        · rw [if_neg c2, if_neg (by omega)]
end Go.Proofs.YtobhbdaenlkodaaDoor
