/- digest.write: the bytes of a state. Conditions: the state has 8 words. -/
import Derived.Test.YtfmjankmfddefaaDoorGBytes
import Derived.Test.YtfmjankmfddefaaDoorGBlake
namespace Go.Proofs.YtfmjankmfddefaaDoor.Dg
open Go.RowKit Gm
set_option linter.unusedVariables false

/-- The bytes that have been written before number k. -/
def outK (h : List Int) (k : Nat) : Bs := (List.range 32).map fun i => if i < k then UInt8.ofNat (byteAt h i).toNat else 0
theorem outK_length (h : List Int) (k : Nat) : (outK h k).length = 32 := by simp [outK]
theorem outK_zero (h : List Int) : outK h 0 = List.replicate 32 0 := by
  apply List.ext_getElem
  · simp [outK]
  · intro i h1 h2; rw [List.getElem_replicate]; simp only [outK, List.getElem_map, List.getElem_range]; rw [if_neg (by omega)]
theorem outK_all (h : List Int) : outK h 32 = outL h := by
  apply List.map_congr_left
  intro i hi
  rw [if_pos (List.mem_range.1 hi)]
theorem outK_succ (h : List Int) (k : Nat) : outK h (k + 1) = (outK h k).set k (UInt8.ofNat (byteAt h k).toNat) := by
  apply List.ext_getElem
  · simp [outK]
  · intro i h1 h2
    rw [List.getElem_set]
    simp only [outK, List.getElem_map, List.getElem_range]
    by_cases e : k = i
    · subst e; rw [if_pos rfl, if_pos (by omega)]
    · rw [if_neg e]
      by_cases h : i < k
      · rw [if_pos h, if_pos (by omega)]
      · rw [if_neg h, if_neg (by omega)]
theorem byte_back (v : Int) : ((UInt8.ofNat (v % 256).toNat).toNat : Int) = v % 256 := by
  rw [UInt8.toNat_ofNat']
  omega

set_option maxHeartbeats 2000000 in
set_option maxRecDepth 100000 in
theorem write_any (h : List Int) (hh : h.length = 8) (w : World) : Calls Tryd.prog 70 #[.agg (wl h)] w fun e w' => e = .returned (.string (sv (outL h))) ∧ Below w.heap.size w w' := by
  obtain ⟨g, hg⟩ : ∃ g, w.heap.size = g := ⟨_, rfl⟩
  have HGS := Lib.hid hg
  have hmk : ∀ w, (Instr.makeSlice 56 (.int .i64 32) (.int .i64 32)).run Tryd.prog w = .ok (.slice (some ⟨w.heap.size, 0, none⟩) 32 32) (w.alloc (.cells (bcs (List.replicate 32 0)) 5 (0, 0))) := run_mkb 32 (by omega)
  go_enter Tryd.func70, Tryd.ntmps70
  go_upto_region 2 with fail
  refine hide_world (X := fun W => Hid (Blk W (g + 1) 5 (bcs (outK h 0)) ∧ Blk W g 80 (wl h) ∧ Below g w W)) ?_ ?_
  · refine Lib.hid ⟨?_, ?_, ?_⟩
    · rw [outK_zero]
      have := Blk.new (w.alloc (.cells (wl h) 80)) 5 (bcs (List.replicate 32 0))
      rw [show (w.alloc (.cells (wl h) 80)).heap.size = g + 1 by simp [hg]] at this
      exact this
    · rw [← hg]
      exact (Blk.new w 80 (wl h)).alloc _
    · have hb : Below g w w := hg ▸ below_self w
      exact ((hb.alloc (Nat.le_of_eq hg.symm) _).alloc (by simp; omega) _)
  intro W HS
  clear hg
  go_wp2_with fail
  go_loopw [8] (fun i wr => ∃ k : Nat, k ≤ 32 ∧ i = .int .i64 k ∧ Hid (Blk wr (g + 1) 5 (bcs (outK h k)) ∧ Blk wr g 80 (wl h) ∧ Below g w wr)) (fun i _ => 32 - (intOf i).toNat)
  case atStart => exact ⟨0, Nat.zero_le _, rfl, HS⟩
  case round =>
    obtain ⟨k, hk, rfl, HK⟩ := hrel
    by_cases hlt : k < 32
    · have dl : decide ((k : Int) < 32) = true := decide_eq_true (by omega)
      obtain ⟨p, q, hq, hkpq⟩ : ∃ p q : Nat, q < 4 ∧ k = 4 * p + q := ⟨k / 4, k % 4, by omega, by omega⟩
      have hp : p < 8 := by omega
      obtain ⟨x, hx⟩ : ∃ x : Int, h.getD p 0 = x := ⟨_, rfl⟩
      obtain ⟨b, hb⟩ : ∃ b, UInt8.ofNat (byteAt h k).toNat = b := ⟨_, rfl⟩
      have hcell : wr.cell? ⟨g, p, none⟩ = some (.int .u32 x) := (HK.out.2.1.cell p).trans (by rw [wl_at _ p (by omega), hx])
      have hold : wr.cell? ⟨g + 1, k, none⟩ = some (.int .u8 (((outK h k).getD k 0).toNat : Int)) := (HK.out.1.cell k).trans (bcs_at _ k (by rw [outK_length]; omega))
      have hfz : wr.frozen? ⟨g + 1, k, none⟩ = false := HK.out.1.frozen k
      have hbyte : x / 2 ^ (8 * q) % 256 = (b.toNat : Int) := by
        rw [← hb, byteAt, show k / 4 = p by omega, show k % 4 = q by omega, hx, byte_back]
      have e1 : (k : Int) / 4 = (p : Int) := by omega
      have e2 : (k : Int) % 4 = (q : Int) := by omega
      have e3 : Int.tdiv (k : Int) 4 = (p : Int) := by rw [Int.tdiv_eq_ediv_of_nonneg (by omega)]; exact e1
      have e4 : Int.tmod (k : Int) 4 = (q : Int) := by rw [Int.tmod_eq_emod_of_nonneg (by omega)]; exact e2
      have hp8 : (p : Int) < 8 := by omega
      have hk32 : (k : Int) < 32 := by omega
      have hq8 : 8 * q ≤ 63 := by omega
      have hwq : wrap64 (8 * (q : Int)) = ((8 * q : Nat) : Int) := by unfold wrap64; omega
      have HKN : Hid (Blk (wr.setCell ⟨g + 1, k, none⟩ (.int .u8 (b.toNat : Int))) (g + 1) 5 (bcs (outK h (k + 1))) ∧ Blk (wr.setCell ⟨g + 1, k, none⟩ (.int .u8 (b.toNat : Int))) g 80 (wl h) ∧ Below g w (wr.setCell ⟨g + 1, k, none⟩ (.int .u8 (b.toNat : Int)))) := Lib.hid (by
        obtain ⟨h1, h2, h3⟩ := HK.out
        refine ⟨?_, h2.far (by show g ≠ g + 1; omega) _, h3.setCell (by show g ≤ g + 1; omega) _⟩
        have := Blk.set_ h1 k (.int .u8 (b.toNat : Int))
        rw [bcs_set, ← hb, ← outK_succ] at this
        rw [← hb]
        exact this)
      clear HK hb hx hkpq
      generalize ((outK h k).getD k 0).toNat = old at *
      generalize b.toNat = bn at *
      go_wp2_with fail
      go_roundw
      case rel => exact ⟨k + 1, by omega, by go_num, HKN⟩
      case measure => simp [intOf]; omega
    · obtain rfl : k = 32 := by omega
      have hconv := back_bytes HK.out.1 32
      rw [outK_length] at hconv
      go_wp2_with fail
      go_ret
      exact ⟨ret_s (by rw [outK_all]), by rw [HGS.out]; exact HK.out.2.2⟩
end Go.Proofs.YtfmjankmfddefaaDoor.Dg
