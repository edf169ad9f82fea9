/- The reference's choice of the next index: the first one in the order of the remainders that has not got one more yet. Conditions: the two lists are blocks of the call's own. -/
import Derived.Test.YtbpibdjmffhmpaaRef
namespace Go.Proofs.Ytbpibdjmffhmpaa
open Go.RowKit Mth
set_option linter.unusedVariables false

def boolsA (n : Nat) (f : Nat → Bool) : Array Value := (Array.range n).map fun i => Value.bool (f i)
def mkB (n : Nat) (f : Nat → Bool) : Obj := .cells (boolsA n f) 4 (0, 0)
def OwnB (w : World) (g n : Nat) (f : Nat → Bool) : Prop := w.heap[g]? = some (mkB n f)
def updB (f : Nat → Bool) (k : Nat) (v : Bool) : Nat → Bool := fun i => if i = k then v else f i
theorem OwnB.lt {w : World} {g n : Nat} {f : Nat → Bool} (h : OwnB w g n f) : g < w.heap.size := (Array.getElem?_eq_some_iff.1 h).1
theorem OwnB.congr {w : World} {g n : Nat} {f f' : Nat → Bool} (h : OwnB w g n f) (he : ∀ i, i < n → f i = f' i) : OwnB w g n f' := by
  unfold OwnB mkB at *
  rw [h]
  have : boolsA n f = boolsA n f' := by
    apply Array.ext
    · simp [boolsA]
    · intro i h1 h2
      simp only [boolsA, Array.size_map, Array.size_range] at h1
      simp [boolsA, he i h1]
  rw [this]
theorem OwnB.cell {w : World} {g n : Nat} {f : Nat → Bool} (h : OwnB w g n f) {j : Nat} (hj : j < n) : w.cell? ⟨g, j, none⟩ = some (.bool (f j)) := by
  rw [cell_of_row w g j _ _ (0, 0) h]
  simp [boolsA, hj]
theorem OwnB.free {w : World} {g n : Nat} {f : Nat → Bool} (h : OwnB w g n f) (j : Nat) : w.frozen? ⟨g, j, none⟩ = false := frozen_of_row w g j _ _ h
theorem OwnB.new (w : World) (n : Nat) (f : Nat → Bool) : OwnB (w.alloc (mkB n f)) w.heap.size n f := heap_alloc_new w _
theorem OwnB.other {w : World} {g n : Nat} {f : Nat → Bool} (h : OwnB w g n f) {a : Addr} (ha : a.block ≠ g) (u : Value) : OwnB (w.setCell a u) g n f := by
  unfold OwnB at *
  rw [heap_setCell_other w a g u (fun e => ha e.symm)]
  exact h
theorem OwnB.set {w : World} {g n : Nat} {f : Nat → Bool} (h : OwnB w g n f) (j : Nat) (v : Bool) : OwnB (w.setCell ⟨g, j, none⟩ (.bool v)) g n (updB f j v) := by
  have h' := heap_setCell_same w g j _ _ (.bool v) h
  unfold OwnB
  rw [h']
  unfold mkB
  have : (boolsA n f).setIfInBounds j (.bool v) = boolsA n (updB f j v) := by
    apply Array.ext
    · simp [boolsA]
    · intro i h1 h2
      simp only [boolsA, Array.size_map, Array.size_range] at h2
      rw [Array.getElem_setIfInBounds]
      · unfold updB
        by_cases hij : j = i
        · subst hij; simp [boolsA]
        · have hij' : ¬ i = j := fun h => hij h.symm
          simp [boolsA, hij, hij']
      · simpa [boolsA] using h2
  rw [this]
theorem madeB_eq (n : Nat) : Obj.cells (madeCells #[Value.bool false] n) 4 (0, 0) = mkB n (fun _ => false) := by
  unfold mkB
  have : madeCells #[Value.bool false] n = boolsA n (fun _ => false) := by
    apply Array.ext
    · simp [boolsA, madeCells]
    · intro i h1 h2
      simp [boolsA, madeCells, Nat.mod_one]
  rw [this]
theorem run_mkB (n : Nat) (hn : n ≤ 140737488351232) (w : World) : (Instr.makeSlice 45 (.int .i64 n) (.int .i64 n)).run Try.prog w = .ok (.slice (some ⟨w.heap.size, 0, none⟩) n n) (w.alloc (mkB n (fun _ => false))) := by
  obtain ⟨i0, hi, hz0, hz1, hz2⟩ := info_parts (show (Try.prog.info? 4).map (fun i => (i.zero, i.size, i.bytes)) = some (some (.bool false), 1, 1) by kernel_rfl)
  rw [run_make w 45 4 i0 (.bool false) Try.underlying45 hi hz0 .i64 .i64 n n (by omega) (by omega) (by rw [hz2]; omega) (by omega)]
  rw [Int.toNat_natCast, hz1, Nat.mul_one, ← madeB_eq]
  rfl

/-- the best of the first k indices that are not marked -/
def Best (f : Nat → Int) (mk : Nat → Bool) (k : Nat) (bv : Int) : Prop :=
  (bv = -1 ∧ ∀ i, i < k → mk i = true) ∨ ∃ b : Nat, b < k ∧ bv = (b : Int) ∧ mk b = false ∧ ∀ i, i < k → mk i = false → i = b ∨ bef f b i = true
theorem best_skip {f : Nat → Int} {mk : Nat → Bool} {k : Nat} {bv : Int} (h : Best f mk k bv) (hm : mk k = true) : Best f mk (k + 1) bv := by
  rcases h with ⟨h1, h2⟩ | ⟨b, h1, h2, h3, h4⟩
  · refine .inl ⟨h1, fun i hi => ?_⟩
    by_cases hik : i = k
    · subst hik; exact hm
    · exact h2 i (by omega)
  · refine .inr ⟨b, by omega, h2, h3, fun i hi hmi => ?_⟩
    by_cases hik : i = k
    · subst hik; rw [hm] at hmi; exact absurd hmi (by decide)
    · exact h4 i (by omega) hmi
theorem best_first {f : Nat → Int} {mk : Nat → Bool} {k : Nat} {bv : Int} (h : Best f mk k bv) (hm : mk k = false) (hb : bv < 0) : Best f mk (k + 1) (k : Int) := by
  rcases h with ⟨h1, h2⟩ | ⟨b, h1, h2, _⟩
  · refine .inr ⟨k, by omega, rfl, hm, fun i hi hmi => ?_⟩
    by_cases hik : i = k
    · exact .inl hik
    · have := h2 i (by omega); rw [this] at hmi; exact absurd hmi (by decide)
  · omega
theorem best_new {f : Nat → Int} {mk : Nat → Bool} {k b : Nat} (h : Best f mk k (b : Int)) (hm : mk k = false) (hg : f b < f k) : Best f mk (k + 1) (k : Int) := by
  rcases h with ⟨h1, h2⟩ | ⟨b', h1, h2, h3, h4⟩
  · omega
  · obtain rfl : b = b' := by omega
    refine .inr ⟨k, by omega, rfl, hm, fun i hi hmi => ?_⟩
    by_cases hik : i = k
    · exact .inl hik
    · right
      rcases h4 i (by omega) hmi with rfl | h5
      · exact decide_eq_true (.inl hg)
      · have := of_decide_eq_true h5
        exact decide_eq_true (by omega)
theorem best_keep {f : Nat → Int} {mk : Nat → Bool} {k b : Nat} (h : Best f mk k (b : Int)) (hg : ¬ f b < f k) : Best f mk (k + 1) (b : Int) := by
  rcases h with ⟨h1, h2⟩ | ⟨b', h1, h2, h3, h4⟩
  · omega
  · obtain rfl : b = b' := by omega
    refine .inr ⟨b, by omega, rfl, h3, fun i hi hmi => ?_⟩
    by_cases hik : i = k
    · subst hik; right; exact decide_eq_true (by omega)
    · exact h4 i (by omega) hmi
theorem best_end {f : Nat → Int} {n k : Nat} {L : List Nat} {bv : Int} (h1 : L.Perm (List.range n)) (h2 : L.Pairwise (fun x y => bef f y x = false)) (hk : k < n)
    (h : Best f (fun i => decide (i ∈ L.take k)) n bv) : bv = (L.getD k 0 : Nat) := by
  have hlen : L.length = n := by rw [h1.length_eq, List.length_range]
  have hkL : k < L.length := by omega
  have e : L.getD k 0 = L[k] := by rw [List.getD_eq_getElem?_getD, List.getElem?_eq_getElem hkL]; rfl
  have hLk : L[k] < n := List.mem_range.1 (h1.mem_iff.1 (List.getElem_mem _))
  have rk : rank f n L[k] = k := rank_at f n L h1 h2 k hkL
  have hun : decide (L[k] ∈ L.take k) = false := decide_eq_false (fun hm => by
    have := (mem_take_rank f n L h1 h2 k L[k] hLk).1 hm
    omega)
  rw [e]
  rcases h with ⟨_, h4⟩ | ⟨b, hb, rfl, hmb, h4⟩
  · have : decide (L[k] ∈ L.take k) = true := h4 L[k] hLk
    rw [hun] at this
    exact absurd this (by decide)
  · rcases h4 L[k] hLk hun with h5 | h5
    · rw [h5]
    · exfalso
      have h6 : ¬ rank f n b < k := fun hr => by
        have := (mem_take_rank f n L h1 h2 k b hb).2 hr
        exact of_decide_eq_false hmb this
      have hbm : b ∈ L := h1.mem_iff.2 (List.mem_range.2 hb)
      obtain ⟨j, hj, rfl⟩ := List.mem_iff_getElem.1 hbm
      rw [rank_at f n L h1 h2 j hj] at h6
      rw [List.pairwise_iff_getElem] at h2
      by_cases hjk : j = k
      · subst hjk; rw [bef_irrefl] at h5; exact absurd h5 (by decide)
      · have := h2 k j hkL hj (by omega)
        rw [this] at h5; exact absurd h5 (by decide)

set_option maxHeartbeats 800000 in
theorem next_any (R M n c c' : Nat) (f : Nat → Int) (mk : Nat → Bool) (w : World) (hn : n ≤ 64) (hR : Own w R n f) (hM : OwnB w M n mk) :
    Calls Try.prog 32 #[.slice (some ⟨R, 0, none⟩) n c, .slice (some ⟨M, 0, none⟩) n c'] w fun e w' => ∃ bv : Int, Best f mk n bv ∧ e = .returned (.int .i64 bv) ∧ ∃ m, w' = w.drewN m := by
  have HR := Lib.hid hR
  have HM := Lib.hid hM
  clear hR hM
  go_enter Try.func32, Try.ntmps32
  go_wp2_with fail
  go_loopw [5, 6] (fun b i wr => ∃ k : Nat, k ≤ n ∧ i = .int .i64 k ∧ ∃ bv : Int, b = .int .i64 bv ∧ Hid (Best f mk k bv) ∧ ∃ m, wr = w.drewN m) (fun _ i _ => n - (intOf i).toNat)
  case atStart => exact ⟨0, Nat.zero_le _, rfl, -1, rfl, Lib.hid (.inl ⟨rfl, fun i hi => absurd hi (Nat.not_lt_zero i)⟩), 0, rfl⟩
  case round =>
    obtain ⟨k, hk, rfl, bv, rfl, hB, m, rfl⟩ := hrel
    by_cases hlt : k < n
    · have cr := HR.out.cell hlt
      have cm := HM.out.cell hlt
      cases hm : mk k with
      | true =>
        rw [hm] at cm
        have B1 := Lib.hid (best_skip hB.out hm)
        clear hm
        go_wp2_with fail
        go_quiet (fail)
        go_wp2_with fail
        go_roundw
        case rel => exact ⟨k + 1, by omega, by go_num, bv, rfl, B1, _, rfl⟩
        case measure => simp [intOf]; omega
      | false =>
        rw [hm] at cm
        by_cases hbv : bv < 0
        · have B1 := Lib.hid (best_first hB.out hm hbv)
          have d1 : decide (bv < 0) = true := decide_eq_true hbv
          clear hm hbv
          go_wp2_with fail
          go_quiet (fail)
          go_wp2_with fail
          go_roundw
          case rel => exact ⟨k + 1, by omega, by go_num, k, rfl, B1, _, rfl⟩
          case measure => simp [intOf]; omega
        · obtain ⟨b, rfl⟩ := Int.eq_ofNat_of_zero_le (show 0 ≤ bv by omega)
          have hbk : b < n := by
            rcases hB.out with ⟨h1, _⟩ | ⟨b', h1, h2, _⟩ <;> omega
          have cb := HR.out.cell hbk
          have d1 : decide ((b : Int) < 0) = false := decide_eq_false (by omega)
          by_cases hg : f b < f k
          · have B1 := Lib.hid (best_new hB.out hm hg)
            have d2 : decide (f b < f k) = true := decide_eq_true hg
            clear hm hbv hg
            generalize f k = fk at *
            generalize f b = fb at *
            go_wp2_with fail
            go_quiet (fail)
            go_wp2_with fail
            go_roundw
            case rel => exact ⟨k + 1, by omega, by go_num, k, rfl, B1, _, rfl⟩
            case measure => simp [intOf]; omega
          · have B1 := Lib.hid (best_keep hB.out hg)
            have d2 : decide (f b < f k) = false := decide_eq_false hg
            clear hm hbv hg
            generalize f k = fk at *
            generalize f b = fb at *
            go_wp2_with fail
            go_quiet (fail)
            go_wp2_with fail
            go_roundw
            case rel => exact ⟨k + 1, by omega, by go_num, b, rfl, B1, _, rfl⟩
            case measure => simp [intOf]; omega
    · obtain rfl : k = n := by omega
      go_wp2_with fail
      go_ret
      exact ⟨bv, hB.out, rfl, _, rfl⟩
end Go.Proofs.Ytbpibdjmffhmpaa
