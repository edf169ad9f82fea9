/- Words of 32 bits: as cells of an array, and out of the bytes of a text. Conditions: those of each lemma. -/
import Derived.Test.YtfmjankmfddefaaDoorGCrc
namespace Go.Proofs.YtfmjankmfddefaaDoor.Dg
open Go.RowKit Gm
set_option linter.unusedVariables false

def wl (l : List Int) : Array Value := (l.map (Value.int .u32)).toArray
def zl (l : List Int) : Array Value := (l.map (Value.int .u8)).toArray
theorem wl_at (l : List Int) (i : Nat) (h : i < l.length) : (wl l)[i]? = some (.int .u32 (l.getD i 0)) := by
  simp [wl, List.getD_eq_getElem?_getD, h]
theorem zl_at (l : List Int) (i : Nat) (h : i < l.length) : (zl l)[i]? = some (.int .u8 (l.getD i 0)) := by
  simp [zl, List.getD_eq_getElem?_getD, h]
theorem wl_set (l : List Int) (i : Nat) (x : Int) : (wl l).setIfInBounds i (.int .u32 x) = wl (l.set i x) := by
  simp [wl, List.map_set]
theorem wl_size (l : List Int) : (wl l).size = l.length := by simp [wl]
theorem wl_one (l : List Int) : (wl l).all (·.oneCell') = true := by
  simp [wl, Value.oneCell']
theorem hide_world {P : Program} {C : Code} {Q : Exit → Act → World → Prop} {a : Act} {W : World} {X : World → Prop} (hX : X W) (h : ∀ W, X W → C.wp P Q a W) : C.wp P Q a W := h W hX
theorem hide_any {P : Program} {md : Region.Mode} {ops : Array Oper} {Q : Exit → Act → World → Prop} {f : Nat} {ls : Array Bool} {a : Act} {W : World} {X : World → Prop} (hX : X W) (h : ∀ W, X W → wpAny P md ops Q f ls a W) : wpAny P md ops Q f ls a W := h W hX
theorem hide_list {P : Program} {ops : Array Oper} {Q : Exit → Act → World → Prop} {l : List Oper} {a : Act} {W : World} {X : World → Prop} (hX : X W) (h : ∀ W, X W → wpList P ops Q l a W) : wpList P ops Q l a W := h W hX
theorem Blk.row {w : World} {g : Nat} {t : TypeId} {old : Array Value} (h : Blk w g t old) (cs : Array Value) : Blk (w.setRow g cs) g t cs := setRow_heap w g old cs t (0, 0) h
theorem Blk.rowFar {w : World} {g k : Nat} {t : TypeId} {old : Array Value} (h : Blk w k t old) (hk : k ≠ g) (cs : Array Value) : Blk (w.setRow g cs) k t old := (setRow_other w g k cs hk).trans h
theorem below_row {B : Nat} {a w : World} (h : Below B a w) {g : Nat} (hg : B ≤ g) (cs : Array Value) : Below B a (w.setRow g cs) :=
  ⟨h.os, h.tape, h.output, by simpa [World.setRow] using h.size, fun i hi => (setRow_other w g i cs (by omega)).trans (h.block i hi)⟩
theorem blockInfo : (Tryd.prog.info? 82).map (·.size) = some 16 := by kernel_rfl
theorem stateInfo : (Tryd.prog.info? 80).map (·.size) = some 8 := by kernel_rfl
theorem orderInfo : (Tryd.prog.info? 94).map (·.size) = some 16 := by kernel_rfl

/-- The word j of a text, its first byte the least significant. -/
def wordN (s : Bs) (j : Nat) : Nat := (s.getD (4 * j) 0).toNat + 256 * (s.getD (4 * j + 1) 0).toNat + 65536 * (s.getD (4 * j + 2) 0).toNat + 16777216 * (s.getD (4 * j + 3) 0).toNat
def blk (s : Bs) : List Int := (List.range 16).map fun j => ((wordN s j : Nat) : Int)
theorem blk_length (s : Bs) : (blk s).length = 16 := by simp [blk]
theorem blk_at (s : Bs) (j : Nat) (h : j < 16) : (blk s).getD j 0 = (wordN s j : Nat) := by
  simp [blk, List.getD_eq_getElem?_getD, h]
theorem blk_nil : blk [] = List.replicate 16 0 := by decide
theorem take_getD (s : Bs) (i k : Nat) : (s.take i).getD k 0 = if k < i then s.getD k 0 else 0 := by
  rw [List.getD_eq_getElem?_getD, List.getD_eq_getElem?_getD, List.getElem?_take]
  split <;> rfl
theorem z0 : (0 : UInt8).toNat = 0 := rfl
/-- One byte more. -/
theorem wordN_snoc (s : Bs) (p q : Nat) (hq : q < 4) : wordN (s.take (4 * p + q + 1)) p = wordN (s.take (4 * p + q)) p + (s.getD (4 * p + q) 0).toNat * 2 ^ (8 * q) ∧ wordN (s.take (4 * p + q)) p < 2 ^ (8 * q) := by
  have b0 := byte_lt (s.getD (4 * p) 0)
  have b1 := byte_lt (s.getD (4 * p + 1) 0)
  have b2 := byte_lt (s.getD (4 * p + 2) 0)
  have b3 := byte_lt (s.getD (4 * p + 3) 0)
  have hc : q = 0 ∨ q = 1 ∨ q = 2 ∨ q = 3 := by omega
  unfold wordN
  simp only [take_getD]
  rcases hc with rfl | rfl | rfl | rfl
  · rw [if_pos (by omega), if_neg (by omega), if_neg (by omega), if_neg (by omega), if_neg (by omega), if_neg (by omega), if_neg (by omega), if_neg (by omega), z0]
    have e : (2 : Nat) ^ (8 * 0) = 1 := by decide
    simp only [e, Nat.add_zero]
    exact ⟨by omega, by omega⟩
  · rw [if_pos (by omega), if_pos (by omega), if_neg (by omega), if_neg (by omega), if_pos (by omega), if_neg (by omega), if_neg (by omega), if_neg (by omega), z0]
    have e : (2 : Nat) ^ (8 * 1) = 256 := by decide
    rw [e]
    exact ⟨by omega, by omega⟩
  · rw [if_pos (by omega), if_pos (by omega), if_pos (by omega), if_neg (by omega), if_pos (by omega), if_pos (by omega), if_neg (by omega), if_neg (by omega), z0]
    have e : (2 : Nat) ^ (8 * 2) = 65536 := by decide
    rw [e]
    exact ⟨by omega, by omega⟩
  · rw [if_pos (by omega), if_pos (by omega), if_pos (by omega), if_pos (by omega), if_pos (by omega), if_pos (by omega), if_pos (by omega), if_neg (by omega), z0]
    have e : (2 : Nat) ^ (8 * 3) = 16777216 := by decide
    rw [e]
    exact ⟨by omega, by omega⟩
theorem wordN_other (s : Bs) (p q j : Nat) (hq : q < 4) (hj : j ≠ p) : wordN (s.take (4 * p + q + 1)) j = wordN (s.take (4 * p + q)) j := by
  unfold wordN
  simp only [take_getD]
  have e : ∀ r, r < 4 → (if 4 * j + r < 4 * p + q + 1 then s.getD (4 * j + r) 0 else 0) = (if 4 * j + r < 4 * p + q then s.getD (4 * j + r) 0 else 0) := fun r hr => by
    by_cases h : 4 * j + r < 4 * p + q
    · rw [if_pos h, if_pos (by omega)]
    · rw [if_neg h, if_neg (by omega)]
  have e0 := e 0 (by decide)
  rw [Nat.add_zero] at e0
  rw [e0, e 1 (by decide), e 2 (by decide), e 3 (by decide)]
theorem wordN_lt (s : Bs) (j : Nat) : wordN s j < 4294967296 := by
  have b0 := byte_lt (s.getD (4 * j) 0)
  have b1 := byte_lt (s.getD (4 * j + 1) 0)
  have b2 := byte_lt (s.getD (4 * j + 2) 0)
  have b3 := byte_lt (s.getD (4 * j + 3) 0)
  unfold wordN
  omega
theorem blk_snoc (s : Bs) (p q : Nat) (hp : p < 16) (hq : q < 4) : blk (s.take (4 * p + q + 1)) = (blk (s.take (4 * p + q))).set p ((wordN (s.take (4 * p + q + 1)) p : Nat) : Int) := by
  apply List.ext_getElem
  · simp [blk]
  · intro j h1 h2
    have hj : j < 16 := by simpa [blk] using h1
    rw [List.getElem_set]
    by_cases h : p = j
    · subst h; simp [blk]
    · rw [if_neg h]
      simp only [blk, List.getElem_map, List.getElem_range]
      rw [wordN_other s p q j hq (fun e => h e.symm)]
theorem or_join (k x y : Nat) (hy : y < 2 ^ k) : x * 2 ^ k ||| y = x * 2 ^ k + y := by
  apply nat_join k _ _ _ hy
  exact Nat.mul_mod_left _ _
/-- What the or of the word with the shifted byte is. -/
theorem or_word (s : Bs) (p q : Nat) (hq : q < 4) : bits .or .u32 ((wordN (s.take (4 * p + q)) p : Nat) : Int) ((((s.getD (4 * p + q) 0).toNat * 2 ^ (8 * q) : Nat) : Int)) = ((wordN (s.take (4 * p + q + 1)) p : Nat) : Int) := by
  obtain ⟨h1, h2⟩ := wordN_snoc s p q hq
  have h3 := wordN_lt (s.take (4 * p + q + 1)) p
  rw [u32_or_nat _ _ (wordN_lt _ _) (by omega), Nat.or_comm, or_join _ _ _ h2, h1, Nat.add_comm]
end Go.Proofs.YtfmjankmfddefaaDoor.Dg
