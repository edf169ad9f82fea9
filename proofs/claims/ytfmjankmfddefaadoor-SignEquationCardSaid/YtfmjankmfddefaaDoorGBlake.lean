/- The digest BLAKE2s-256 in the model's own words: what it makes of a text. Conditions: those of each lemma. -/
import Derived.Test.YtfmjankmfddefaaDoorGMix
import Derived.Test.YtfmjankmfddefaaDoorGWordL
namespace Go.Proofs.YtfmjankmfddefaaDoor.Dg
open Go.RowKit Gm
set_option linter.unusedVariables false

/-- One mixing of four words. -/
def gg (l : List Int) (a b c d : Nat) (x y : Int) : List Int :=
  let r := qq (l.getD a 0) (l.getD b 0) (l.getD c 0) (l.getD d 0) x y
  (((l.set a r.1).set b r.2.1).set c r.2.2.1).set d r.2.2.2
theorem gg_length (l : List Int) (a b c d : Nat) (x y : Int) : (gg l a b c d x y).length = l.length := by simp [gg]
def ix (m z : List Int) (k : Nat) : Int := m.getD (z.getD k 0).toNat 0
def rnd (l m z : List Int) : List Int :=
  let l := gg l 0 4 8 12 (ix m z 0) (ix m z 1)
  let l := gg l 1 5 9 13 (ix m z 2) (ix m z 3)
  let l := gg l 2 6 10 14 (ix m z 4) (ix m z 5)
  let l := gg l 3 7 11 15 (ix m z 6) (ix m z 7)
  let l := gg l 0 5 10 15 (ix m z 8) (ix m z 9)
  let l := gg l 1 6 11 12 (ix m z 10) (ix m z 11)
  let l := gg l 2 7 8 13 (ix m z 12) (ix m z 13)
  gg l 3 4 9 14 (ix m z 14) (ix m z 15)

def startL : List Int := [1779033703, 3144134277, 1013904242, 2773480762, 1359893119, 2600822924, 528734635, 1541459225]
def ordersL : List (List Int) := [
  [0, 1, 2, 3, 4, 5, 6, 7, 8, 9, 10, 11, 12, 13, 14, 15],
  [14, 10, 4, 8, 9, 15, 13, 6, 1, 12, 0, 2, 11, 7, 5, 3],
  [11, 8, 12, 0, 5, 2, 15, 13, 10, 14, 3, 6, 7, 1, 9, 4],
  [7, 9, 3, 1, 13, 12, 11, 14, 2, 6, 5, 10, 4, 0, 15, 8],
  [9, 0, 5, 7, 2, 4, 10, 15, 14, 1, 11, 12, 6, 8, 3, 13],
  [2, 12, 6, 10, 0, 11, 8, 3, 4, 13, 7, 5, 15, 14, 1, 9],
  [12, 5, 1, 15, 14, 13, 4, 10, 0, 7, 6, 3, 9, 2, 8, 11],
  [13, 11, 7, 14, 12, 1, 3, 9, 5, 0, 15, 4, 8, 6, 2, 10],
  [6, 15, 14, 9, 11, 3, 0, 8, 12, 2, 13, 7, 1, 4, 10, 5],
  [10, 2, 8, 4, 7, 6, 1, 5, 15, 11, 9, 14, 3, 12, 13, 0]]
theorem rnd_length (l m z : List Int) : (rnd l m z).length = l.length := by simp only [rnd, gg_length]
/-- The work after the first k rounds. -/
def rnds (m : List Int) : Nat → List Int → List Int
  | 0, v => v
  | k + 1, v => rnd (rnds m k v) m (ordersL.getD k [])
theorem rnds_length (m : List Int) (k : Nat) (v : List Int) : (rnds m k v).length = v.length := by
  induction k with
  | zero => rfl
  | succ k ih => show (rnd _ _ _).length = _; rw [rnd_length, ih]
/-- The work before the rounds. -/
def work (h : List Int) (t : Nat) (last : Bool) : List Int :=
  [h.getD 0 0, h.getD 1 0, h.getD 2 0, h.getD 3 0, h.getD 4 0, h.getD 5 0, h.getD 6 0, h.getD 7 0,
   1779033703, 3144134277, 1013904242, 2773480762, xr 1359893119 ((t % 4294967296 : Nat) : Int), xr 2600822924 ((t / 4294967296 % 4294967296 : Nat) : Int),
   (if last then 4294967295 - 528734635 else 528734635), 1541459225]
def fin (h v : List Int) (k : Nat) : Int := xr (h.getD k 0) (xr (v.getD k 0) (v.getD (k + 8) 0))
def comp (h m : List Int) (t : Nat) (last : Bool) : List Int :=
  (List.range 8).map (fin h (rnds m 10 (work h t last)))
theorem comp_length (h m : List Int) (t : Nat) (last : Bool) : (comp h m t last).length = 8 := by simp [comp]
/-- The state after the blocks that begin before number done, but for the last. -/
def blocks (s : Bs) : Nat → List Int
  | 0 => startL.set 0 (xr 1779033703 16842784)
  | k + 1 => comp (blocks s k) (blk ((s.drop (64 * k)).take 64)) (64 * (k + 1)) false
theorem blocks_length (s : Bs) (k : Nat) : (blocks s k).length = 8 := by
  cases k with
  | zero => rfl
  | succ k => exact comp_length _ _ _ _
/-- How many blocks come before the last one. -/
def nb (n : Nat) : Nat := (n - 1) / 64
def sumL (s : Bs) : List Int := comp (blocks s (nb s.length)) (blk ((s.drop (64 * nb s.length)).take 64)) s.length true
def byteAt (h : List Int) (i : Nat) : Int := h.getD (i / 4) 0 / 2 ^ (8 * (i % 4)) % 256
def outL (h : List Int) : Bs := (List.range 32).map fun i => UInt8.ofNat (byteAt h i).toNat
def sums (s : Bs) : Bs := outL (sumL s)
end Go.Proofs.YtfmjankmfddefaaDoor.Dg
