/- exact.Share at every list of weights and every total. Conditions: the list can be read. -/
import Derived.Test.YtbpibdjmffhmpaaOwn
import Derived.Test.YtbpibdjmffhmpaaRank
namespace Go.Proofs.Ytbpibdjmffhmpaa
set_option linter.unusedVariables false
open Go.RowKit Mth

theorem run_mk (n : Nat) (hn : n * 8 ≤ 140737488351232) (w : World) : (Instr.makeSlice 22 (.int .i64 n) (.int .i64 n)).run Try.prog w = .ok (.slice (some ⟨w.heap.size, 0, none⟩) n n) (w.alloc (mkO n (fun _ => 0))) := by
  obtain ⟨i0, hi, hz0, hz1, hz2⟩ := info_parts (show (Try.prog.info? 3).map (fun i => (i.zero, i.size, i.bytes)) = some (some (.int .i64 0), 1, 8) by kernel_rfl)
  rw [run_make w 22 3 i0 (.int .i64 0) Try.underlying22 hi hz0 .i64 .i64 n n (by omega) (by omega) (by rw [hz2]; omega) (by omega)]
  rw [Int.toNat_natCast, hz1, Nat.mul_one, ← made_eq]
  rfl

theorem share_bad (b off c : Nat) (t : Int) (zs : List Int) (w : World) (hlen : zs.length * 8 ≤ 140737488351232) (hf : Fits zs)
    (hc : ∀ j, j < zs.length → w.cell? ⟨b, off + j, none⟩ = some (.int .i64 (zs.getD j 0))) (hbad : wholeB zs = false ∨ t < 0 ∨ tot zs < t) :
    Calls Try.prog 12 #[.int .i64 t, .slice (some ⟨b, off, none⟩) zs.length c] w fun e w' => e = .returned (.tuple #[.slice none 0 0, .bool false]) ∧ w = w' := by
  have hwh := whole_some b off c zs w hlen hf hc
  have HWH := Lib.hid hwh
  clear hwh hc
  cases hw : wholeB zs with
  | false =>
    rw [hw] at HWH
    go_enter Try.func12, Try.ntmps12
    go_wp2_with (go_at_call 27; refine HWH.out.mono ?_; rintro e w' ⟨x, _, rfl, rfl⟩)
    go_ret2
    exact ⟨rfl, rfl⟩
  | true =>
    rw [hw] at HWH
    by_cases ht : t < 0
    · have d1 : decide (t < 0) = true := decide_eq_true ht
      clear ht
      go_enter Try.func12, Try.ntmps12
      go_wp2_with (go_at_call 27; refine HWH.out.mono ?_; rintro e w' ⟨x, _, rfl, rfl⟩)
      go_ret2
      exact ⟨rfl, rfl⟩
    · have hT : tot zs < t := by
        rcases hbad with h | h | h
        · rw [hw] at h; exact absurd h (by decide)
        · omega
        · exact h
      have HT := Lib.hid hT
      have d1 : decide (t < 0) = false := decide_eq_false ht
      have d2 : decide (tot zs < t) = true := decide_eq_true hT
      clear ht hT hbad
      go_enter Try.func12, Try.ntmps12
      go_wp2_with (go_at_call 27; refine HWH.out.mono ?_; rintro e w' ⟨x, hx, rfl, rfl⟩; obtain rfl := hx rfl)
      go_ret2
      exact ⟨rfl, rfl⟩

theorem share_nil (a : Option Addr) (c : Nat) (w : World) :
    Calls Try.prog 12 #[.int .i64 0, .slice a 0 c] w fun e w' => e = .returned (.tuple #[.slice (some ⟨w.heap.size, 0, none⟩) 0 0, .bool true]) ∧ w' = w.alloc (mkO 0 (fun _ => 0)) := by
  have hmk : ∀ w, (Instr.makeSlice 22 (.int .i64 0) (.int .i64 0)).run Try.prog w = .ok (.slice (some ⟨w.heap.size, 0, none⟩) 0 0) (w.alloc (mkO 0 (fun _ => 0))) := run_mk 0 (by omega)
  go_enter Try.func12, Try.ntmps12
  go_wp2_with (go_at_call 27; refine (whole_none _ _ _).mono ?_; rintro e w' ⟨rfl, rfl⟩)
  go_ret2
  exact ⟨rfl, rfl⟩

theorem share_nil_no (a : Option Addr) (c : Nat) (t : Int) (h0 : t ≠ 0) (w : World) :
    Calls Try.prog 12 #[.int .i64 t, .slice a 0 c] w fun e w' => e = .returned (.tuple #[.slice none 0 0, .bool false]) ∧ w = w' := by
  by_cases h1 : t < 0
  · have d1 : decide (t < 0) = true := decide_eq_true h1
    clear h0 h1
    go_enter Try.func12, Try.ntmps12
    go_wp2_with (go_at_call 27; refine (whole_none _ _ _).mono ?_; rintro e w' ⟨rfl, rfl⟩)
    go_ret2
    exact ⟨rfl, rfl⟩
  · have d1 : decide (t < 0) = false := decide_eq_false h1
    have d2 : decide (0 < t) = true := decide_eq_true (by omega)
    clear h0 h1
    go_enter Try.func12, Try.ntmps12
    go_wp2_with (go_at_call 27; refine (whole_none _ _ _).mono ?_; rintro e w' ⟨rfl, rfl⟩)
    go_ret2
    exact ⟨rfl, rfl⟩

/-- The weights' sum is 0. -/
theorem share_zero (b off c : Nat) (zs : List Int) (w : World) (hlen : zs.length * 8 ≤ 140737488351232) (hf : Fits zs)
    (hc : ∀ j, j < zs.length → w.cell? ⟨b, off + j, none⟩ = some (.int .i64 (zs.getD j 0))) (hw : wholeB zs = true) (h0 : tot zs = 0) :
    Calls Try.prog 12 #[.int .i64 0, .slice (some ⟨b, off, none⟩) zs.length c] w fun e w' => e = .returned (.tuple #[.slice (some ⟨w.heap.size, 0, none⟩) zs.length zs.length, .bool true]) ∧ w' = w.alloc (mkO zs.length (fun _ => 0)) := by
  have hwh := whole_some b off c zs w hlen hf hc
  rw [hw, h0] at hwh
  have HWH := Lib.hid hwh
  have hmk := run_mk zs.length hlen
  clear hwh hc h0
  go_enter Try.func12, Try.ntmps12
  go_wp2_with (go_at_call 27; refine HWH.out.mono ?_; rintro e w' ⟨x, hx, rfl, rfl⟩; obtain rfl := hx rfl)
  go_ret2
  exact ⟨rfl, rfl⟩

theorem sc_ok {t W x : Int} (ht : 0 ≤ t) (htW : t ≤ W) (hW : 0 < W) (hWV : W ≤ 1125899906842624) (hx : 0 ≤ x) (hxW : x ≤ W) : scB t x W = true ∧ scQ t x W = t * x / W ∧ scR t x W = t * x % W := by
  have h1 : t * x / W ≤ x := by
    refine Int.ediv_le_of_le_mul hW ?_
    rw [Int.mul_comm x W]
    exact Int.mul_le_mul_of_nonneg_right htW hx
  have hb : scB t x W = true := by
    unfold scB
    rw [volB_yes ht (by omega), volB_yes hx (by omega), volB_yes (by omega) hWV, decide_eq_true (by omega : W ≠ 0), decide_eq_true (by omega : t * x / W ≤ 1125899906842624)]
    rfl
  exact ⟨hb, sc_yes hb⟩

theorem sumQuo_le {t W : Int} {z : Nat → Int} {n k : Nat} (hW : 0 < W) (ht : 0 ≤ t) (htW : t ≤ W) (hs : sumF z n = W) (hz : ∀ i, 0 ≤ z i) (hk : k ≤ n) : sumF (quo t W z) k ≤ t := by
  have h1 := sum_eq (t := t) (W := W) (z := z) k
  have h2 := sumRem_le (t := t) (z := z) hW k
  have h3 := sumF_mono (f := z) (n := n) (fun i _ => hz i) hk
  rw [hs] at h3
  refine Int.le_of_mul_le_mul_left (a := W) ?_ hW
  have h4 := Int.mul_le_mul_of_nonneg_left h3 ht
  rw [Int.mul_comm t W] at h4
  omega
def zf (zs : List Int) (i : Nat) : Int := zs.getD i 0
def cutF (f : Nat → Int) (k : Nat) : Nat → Int := fun i => if i < k then f i else 0
theorem cutF_upd (f : Nat → Int) (k : Nat) : ∀ i, upd (cutF f k) k (f k) i = cutF f (k + 1) i := by
  intro i
  unfold upd cutF
  by_cases h : i = k
  · subst h; simp
  · rw [if_neg h]
    by_cases h2 : i < k
    · rw [if_pos h2, if_pos (by omega)]
    · rw [if_neg h2, if_neg (by omega)]

theorem cutF_zero (f : Nat → Int) (n : Nat) : ∀ i, i < n → (fun _ => (0 : Int)) i = cutF f 0 i := fun i _ => by simp [cutF]
theorem cutF_all (f : Nat → Int) (n : Nat) : ∀ i, i < n → cutF f n i = f i := fun i hi => if_pos hi

theorem alloc_sz (w : World) (o : Obj) : (w.alloc o).heap.size = w.heap.size + 1 := by simp
/-- The world in which the loops begin. -/
theorem init_world (w : World) (n B : Nat) (hB : w.heap.size = B) (f g h : Nat → Int) (v : Value) (T : TypeId) :
    Own ((((w.alloc (mkO n fun _ => 0)).alloc (mkO n fun _ => 0)).alloc (.cells #[v] T)).alloc (mkO n fun _ => 0)) B n (cutF f 0) ∧
    Own ((((w.alloc (mkO n fun _ => 0)).alloc (mkO n fun _ => 0)).alloc (.cells #[v] T)).alloc (mkO n fun _ => 0)) (B + 1) n (cutF g 0) ∧
    Own ((((w.alloc (mkO n fun _ => 0)).alloc (mkO n fun _ => 0)).alloc (.cells #[v] T)).alloc (mkO n fun _ => 0)) (B + 1 + 1 + 1) n (cutF h 0) ∧
    ((((w.alloc (mkO n fun _ => 0)).alloc (mkO n fun _ => 0)).alloc (.cells #[v] T)).alloc (mkO n fun _ => 0)).heap[B + 1 + 1]? = some (.cells #[v] T (0, 0)) ∧
    Below B w ((((w.alloc (mkO n fun _ => 0)).alloc (mkO n fun _ => 0)).alloc (.cells #[v] T)).alloc (mkO n fun _ => 0)) := by
  subst hB
  refine ⟨((((Own.new w n _).alloc _).alloc _).alloc _).congr (cutF_zero _ n), ?_, ?_, ?_, ?_⟩
  · have h1 := Own.new (w.alloc (mkO n fun _ => 0)) n (fun _ => 0)
    rw [alloc_sz] at h1
    exact ((h1.alloc _).alloc _).congr (cutF_zero _ n)
  · have h1 := Own.new (((w.alloc (mkO n fun _ => 0)).alloc (mkO n fun _ => 0)).alloc (.cells #[v] T)) n (fun _ => 0)
    rw [alloc_sz, alloc_sz, alloc_sz] at h1
    exact h1.congr (cutF_zero _ n)
  · have h1 := heap_alloc_new ((w.alloc (mkO n fun _ => 0)).alloc (mkO n fun _ => 0)) (.cells #[v] T)
    rw [alloc_sz, alloc_sz] at h1
    rw [heap_alloc_old _ _ (by simp)]
    exact h1
  · exact ((((Below.refl _ _).alloc (Nat.le_refl _) _).alloc (by simp) _).alloc (by simp; omega) _).alloc (by simp; omega) _

theorem swo (f : Nat → Int) (n : Nat) : Go.Sort.SWO (Go.Proofs.ltOf (fun x y : Fin n => cf f x.val y.val)) where
  irrefl x := by show decide (cf f x.val x.val < 0) = false; rw [cf_lt]; exact bef_irrefl f _
  trans x y z h1 h2 := by
    change decide (cf f x.val y.val < 0) = true at h1
    change decide (cf f y.val z.val < 0) = true at h2
    show decide (cf f x.val z.val < 0) = true
    rw [cf_lt] at *
    have a := of_decide_eq_true h1
    have b := of_decide_eq_true h2
    exact decide_eq_true (by omega)
  ntrans x y z h1 h2 := by
    change decide (cf f x.val y.val < 0) = false at h1
    change decide (cf f y.val z.val < 0) = false at h2
    show decide (cf f x.val z.val < 0) = false
    rw [cf_lt] at *
    have a := of_decide_eq_false h1
    have b := of_decide_eq_false h2
    exact decide_eq_false (by omega)

def encF (n : Nat) (i : Fin n) : Value := .int .i64 ((i.val : Nat) : Int)

/-- What the sort leaves: the indices in the order of the remainders. -/
theorem sort_any (f : Nat → Int) (n c O R C : Nat) (hn : 0 < n) (hn2 : n ≤ 64) (w : World) (hO : Own w O n (fun i => (i : Int))) (hR : Own w R n f) (hRO : R ≠ O) (hCO : C ≠ O)
    (hC : w.heap[C]? = some (.cells #[.slice (some ⟨R, 0, none⟩) n n] 22 (0, 0))) :
    Calls Try.prog 28 #[.slice (some ⟨O, 0, none⟩) n c, .func (.func 29) #[] #[.pointer (some ⟨C, 0, none⟩)]] w fun e w' =>
      e = .returned (.tuple #[]) ∧ ∃ L : List Nat, L.Perm (List.range n) ∧ L.Pairwise (fun x y => bef f y x = false) ∧ (∀ j, j < n → w'.cell? ⟨O, j, none⟩ = some (.int .i64 (L.getD j 0 : Nat))) ∧
        (∀ g f', g ≠ O → Own w g n f' → Own w' g n f') ∧ (∀ B W, Below B W w → B ≤ O → B ≤ w.heap.size → Below B W w') := by
  obtain ⟨m, rfl⟩ : ∃ m, n = m + 1 := ⟨n - 1, by omega⟩
  have eg : ∀ args w, (callFunc 29 args).run Try.prog w = .ok (.enter 29 args) w := enters_of Try.func29 (by kernel_rfl) rfl
  have hd : (Array.ofFn (fun i : Fin (m + 1) => i)).size = m + 1 := by simp
  have hcmp : Go.Proofs.CmpLays1 Try.prog 29 #[.pointer (some ⟨C, 0, none⟩)] (encF (m + 1)) (fun x y => cf f x.val y.val) O 0 (Array.ofFn (fun i : Fin (m + 1) => i)).size w := by
    intro k os dk hk x y
    have hc : (Go.Proofs.sortWorld (encF (m + 1)) w O 0 k dk os).cell? ⟨C, 0, none⟩ = some (.slice (some ⟨R, 0, none⟩) (m + 1) (m + 1)) := by
      rw [sorted_cell (a := ⟨C, 0, none⟩) (Array.getElem?_eq_some_iff.1 hC).1 hCO, cell_of_row w C 0 _ _ (0, 0) hC]; rfl
    have hr := Own.sorted (enc := encF (m + 1)) hR hRO 0 k dk os
    have := closure_any x.val y.val (m + 1) (m + 1) x.2 y.2 f C R _ hc (hr.cell x.2) (hr.cell y.2)
    exact this
  have hH : Go.Sort.Holds (encF (m + 1)) w O 0 (Array.ofFn (fun i : Fin (m + 1) => i)) := by
    intro j hj
    rw [hd] at hj
    rw [Nat.zero_add]
    refine ⟨?_, hO.free j⟩
    rw [hO.cell hj]
    rw [getElem!_pos _ j (by simpa using hj)]
    simp [encF]
  have S := Try.slices_SortFunc (encF (m + 1)) (fun _ => rfl) (fun x y => cf f x.val y.val) (swo f (m + 1)) 29 #[.pointer (some ⟨C, 0, none⟩)] O 0 c _ w eg hcmp hH hO.lt (by rw [hd]; omega)
  rw [hd] at S
  refine S.mono ?_
  rintro e w' ⟨rfl, d', nn, os, ⟨p1, _, p3⟩, hs, rfl⟩
  rw [hd] at p1
  have hd' : d'.size = m + 1 := p1
  refine ⟨rfl, d'.toList.map Fin.val, ?_, ?_, ?_, ?_, ?_⟩
  · have h1 : (d'.extract 0 (m + 1)) = d' := by
      have := Array.extract_size (xs := d')
      rwa [hd'] at this
    have h2 : ((Array.ofFn (fun i : Fin (m + 1) => i)).extract 0 (m + 1)) = Array.ofFn (fun i : Fin (m + 1) => i) := by
      have := Array.extract_size (xs := Array.ofFn (fun i : Fin (m + 1) => i))
      rw [hd] at this
      exact this
    rw [h1, h2] at p3
    have h3 := p3.map Fin.val
    have h4 : (Array.ofFn (fun i : Fin (m + 1) => i)).toList.map Fin.val = List.range (m + 1) := by
      rw [Array.toList_ofFn, List.map_ofFn]
      apply List.ext_getElem
      · rw [List.length_ofFn, List.length_range]
      · intro i h1 h2
        rw [List.getElem_ofFn, List.getElem_range]
        rfl
    rw [h4] at h3
    exact h3
  · rw [List.pairwise_map]
    rw [List.pairwise_iff_getElem]
    intro i j hi hj hij
    rw [Array.length_toList] at hi hj
    have := hs i j (Nat.zero_le _) hij (by omega)
    change decide (cf f _ _ < 0) = false at this
    rw [cf_lt, getElem!_pos d' i hi, getElem!_pos d' j hj] at this
    simpa using this
  · intro j hj
    have hh := Go.Proofs.holds_sortWorld (encF (m + 1)) w O 0 nn _ d' os hO.lt hH (by rw [hd, hd'])
    have := (hh j (by omega)).1
    rw [Nat.zero_add, getElem!_pos d' j (by omega)] at this
    rw [this]
    unfold encF
    have hl : j < (d'.toList.map Fin.val).length := by simp; omega
    rw [List.getD_eq_getElem?_getD, List.getElem?_eq_getElem hl]
    simp
  · intro g f' hg ho
    exact ho.sorted hg 0 nn d' os
  · intro B W hb hB hBw
    exact sorted_below hb hB hBw 0 nn d' os

/-- The parts when the first k indices of the order have got one more. -/
def stepF (q : Nat → Int) (L : List Nat) (k : Nat) : Nat → Int := fun i => q i + if i ∈ L.take k then 1 else 0
theorem stepF_bd (q : Nat → Int) (L : List Nat) (k i : Nat) : q i ≤ stepF q L k i ∧ stepF q L k i ≤ q i + 1 := by
  unfold stepF; split <;> omega
theorem stepF_upd (q : Nat → Int) (L : List Nat) (hnd : L.Nodup) (k : Nat) (hk : k < L.length) (i : Nat) : upd (stepF q L k) (L.getD k 0) (stepF q L k (L.getD k 0) + 1) i = stepF q L (k + 1) i := by
  have e : L.getD k 0 = L[k] := by rw [List.getD_eq_getElem?_getD, List.getElem?_eq_getElem hk]; rfl
  rw [e]
  have ht : L.take (k + 1) = L.take k ++ [L[k]] := by rw [List.take_add_one, List.getElem?_eq_getElem hk]; rfl
  have hn : L[k] ∉ L.take k := by
    intro h
    have h2 := hnd
    rw [← List.take_append_drop k L] at h2
    have h3 := (List.nodup_append.1 h2).2.2 L[k] h L[k] (by rw [List.drop_eq_getElem_cons hk]; exact List.mem_cons_self)
    exact h3 rfl
  unfold upd stepF
  rw [ht]
  by_cases hi : i = L[k]
  · subst hi
    rw [if_pos rfl, if_neg hn, if_pos (List.mem_append_right _ (List.mem_singleton.2 rfl))]
    omega
  · rw [if_neg hi]
    have : i ∈ L.take k ++ [L[k]] ↔ i ∈ L.take k := by rw [List.mem_append, List.mem_singleton]; exact ⟨fun h => h.resolve_right hi, .inl⟩
    simp only [this]
theorem stepF_part {t x : Int} {z : Nat → Int} {n ov : Nat} {L : List Nat} (h1 : L.Perm (List.range n)) (h2 : L.Pairwise (fun a b => bef (rem t x z) b a = false)) (hov : over t x z n = (ov : Int)) (i : Nat) (hi : i < n) : stepF (quo t x z) L ov i = part t x z n i := by
  unfold stepF part
  rw [hov]
  have := mem_take_rank (rem t x z) n L h1 h2 ov i hi
  by_cases h : i ∈ L.take ov
  · rw [if_pos h, if_pos (by have := this.1 h; omega)]
  · rw [if_neg h, if_neg (by intro h3; exact h (this.2 (by omega)))]

set_option maxHeartbeats 1600000 in
theorem share_main (b off c : Nat) (t : Int) (zs : List Int) (w : World) (hlen : zs.length * 8 ≤ 140737488351232) (hf : Fits zs) (hb : b < w.heap.size)
    (hc : ∀ j, j < zs.length → w.cell? ⟨b, off + j, none⟩ = some (.int .i64 (zs.getD j 0))) (hw : wholeB zs = true) (h0 : 0 < tot zs) (ht : 0 ≤ t) (htW : t ≤ tot zs) :
    Calls Try.prog 12 #[.int .i64 t, .slice (some ⟨b, off, none⟩) zs.length c] w fun e w' => e = .returned (.tuple #[.slice (some ⟨w.heap.size, 0, none⟩) zs.length zs.length, .bool true]) ∧ Own w' w.heap.size zs.length (part t (tot zs) (zf zs) zs.length) ∧ Below w.heap.size w w' := by
  have hwh := whole_some b off c zs w hlen hf hc
  rw [hw] at hwh
  have HWH := Lib.hid hwh
  have hmk := run_mk zs.length hlen
  obtain ⟨w1, w2, w3⟩ := of_wholeB hw
  have hsum := sumF_all zs
  have HC := Lib.hid hc
  have HN := Lib.hid w2
  have HS := Lib.hid hsum
  have hle := nonneg_le w2
  have HLE := Lib.hid hle
  clear hwh hc hw w2 hsum hle
  generalize hW : tot zs = W at *
  have HWW := Lib.hid hW
  clear hW
  have d1 : decide (t < 0) = false := decide_eq_false (by omega)
  have d2 : decide (W < t) = false := decide_eq_false (by omega)
  have d3 : (W == 0) = false := beq_eq_false_iff_ne.2 (by omega)
  go_enter Try.func12, Try.ntmps12
  go_wp2_with (go_at_call 27; refine HWH.out.mono ?_; rintro e w' ⟨x, hx, rfl, rfl⟩; obtain rfl := hx rfl)
  clear hx
  generalize hB : w.heap.size = B at *
  go_loopw [11, 47] (fun o i wr => ∃ k : Nat, k ≤ zs.length ∧ i = .int .i64 k ∧ o = .int .i64 (t - sumF (quo t x (zf zs)) k) ∧
      Own wr B zs.length (cutF (quo t x (zf zs)) k) ∧ Own wr (B + 1) zs.length (cutF (rem t x (zf zs)) k) ∧ Own wr (B + 1 + 1 + 1) zs.length (cutF (fun i => (i : Int)) k) ∧
      wr.heap[B + 1 + 1]? = some (.cells #[.slice (some ⟨B + 1, 0, none⟩) zs.length zs.length] 22 (0, 0)) ∧ Below B w wr) (fun _ i _ => zs.length - (intOf i).toNat)
  case atStart =>
    obtain ⟨i1, i2, i3, i4, i5⟩ := init_world w zs.length B hB (quo t x (zf zs)) (rem t x (zf zs)) (fun i => (i : Int)) (.slice (some ⟨B + 1, 0, none⟩) zs.length zs.length) 22
    exact ⟨0, Nat.zero_le _, rfl, by simp [sumF], i1, i2, i3, i4, i5⟩
  case round =>
    obtain ⟨k, hk, rfl, rfl, oP, oR, oO, oC, hbel⟩ := hrel
    by_cases hlt : k < zs.length
    · have hcell : wr.cell? ⟨b, off + k, none⟩ = some (.int .i64 (zs.getD k 0)) := (hbel.cell (p := ⟨b, off + k, none⟩) hb).trans (HC.out k hlt)
      have hz0 := HN.out.getD k
      have hzx : zs.getD k 0 ≤ x := HLE.out _ (by rw [List.getD_eq_getElem?_getD, List.getElem?_eq_getElem hlt]; exact List.getElem_mem hlt)
      obtain ⟨s1, s2, s3⟩ := sc_ok ht htW h0 w3 hz0 hzx
      have hsc := fun W => scale_any t (zs.getD k 0) x W
      rw [s1, s2, s3] at hsc
      have hC : wr.cell? ⟨B + 1 + 1, 0, none⟩ = some (.slice (some ⟨B + 1, 0, none⟩) zs.length zs.length) := by rw [cell_of_row wr _ 0 _ _ (0, 0) oC]; rfl
      have hP := oP.cell hlt
      have hR := oR.cell hlt
      have fP := oP.free k
      have fR := oR.free k
      have HSC := Lib.hid hsc
      have OP := Lib.hid oP
      have OR := Lib.hid oR
      have OO := Lib.hid oO
      have OC := Lib.hid oC
      have HBEL := Lib.hid hbel
      clear hsc s1 s2 s3 oP oR oO oC hbel
      generalize hz : zs.getD k 0 = z at *
      have HZ : Hid (zf zs k = z) := Lib.hid hz
      clear hz
      go_upto_region 13 with fail
      go_cut [52] from 52 to 65 (fun _ wc => ∃ m, wc = ((wr.drewN m).setCell ⟨B, k, none⟩ (.int .i64 (t * z / x))).setCell ⟨B + 1, k, none⟩ (.int .i64 (t * z % x)))
      case first =>
        go_region_with (go_at_call 10; refine (HSC.out _).mono ?_; rintro e w' ⟨rfl, m, rfl⟩)
        all_goals (go_wp2_with fail; go_meet; exact ⟨_, rfl⟩)
      case rest =>
        obtain ⟨m, hm⟩ := hcut
        have oP : Own wc B zs.length (cutF (quo t x (zf zs)) (k + 1)) := by
          rw [hm, show t * z / x = quo t x (zf zs) k by unfold quo; rw [HZ.out]]
          exact (Own.other (Own.set (OP.out.drewN m) k _) (by first | (simp; done) | (simp; omega)) _).congr (fun i _ => cutF_upd _ k i)
        have oR : Own wc (B + 1) zs.length (cutF (rem t x (zf zs)) (k + 1)) := by
          rw [hm, show t * z % x = rem t x (zf zs) k by unfold rem; rw [HZ.out]]
          exact (Own.set (Own.other (OR.out.drewN m) (by first | (simp; done) | (simp; omega)) _) k _).congr (fun i _ => cutF_upd _ k i)
        have oO : Own wc (B + 1 + 1 + 1) zs.length (cutF (fun i => (i : Int)) k) := by
          rw [hm]
          exact Own.other (Own.other (OO.out.drewN m) (by first | (simp; done) | (simp; omega)) _) (by first | (simp; done) | (simp; omega)) _
        have oC : wc.heap[B + 1 + 1]? = some (.cells #[.slice (some ⟨B + 1, 0, none⟩) zs.length zs.length] 22 (0, 0)) := by
          rw [hm, heap_setCell_other _ _ _ _ (by simp), heap_setCell_other _ _ _ _ (by first | (simp; done) | (simp; omega))]
          exact OC.out
        have hbel : Below B w wc := by
          rw [hm]
          exact ((Below.drewN HBEL.out m).setCell (by first | (simp; done) | (simp; omega)) _).setCell (by first | (simp; done) | (simp; omega)) _
        have hP := oP.cell hlt
        rw [show cutF (quo t x (zf zs)) (k + 1) k = quo t x (zf zs) k from if_pos (Nat.lt_succ_self k)] at hP
        have hO := oO.cell hlt
        have fO := oO.free k
        have q0 := quo_nonneg (t := t) (z := zf zs) (i := k) h0 ht (HN.out.getD k)
        have q1 := quo_le (z := zf zs) (i := k) h0 htW (HN.out.getD k)
        have q2 : zf zs k ≤ x := by rw [HZ.out]; exact hzx
        have q3 := sumF_nonneg (f := quo t x (zf zs)) (n := k) (fun i _ => quo_nonneg h0 ht (HN.out.getD i))
        have q4 := sumQuo_le (z := zf zs) (n := zs.length) h0 ht htW HS.out (fun i => HN.out.getD i) hk
        have oO' := (Own.set oO k (k : Int)).congr (fun i _ => cutF_upd (fun i => (i : Int)) k i)
        have oP' := Own.other oP (a := ⟨B + 1 + 1 + 1, k, none⟩) (by first | (simp; done) | (simp; omega)) (.int .i64 (k : Int))
        have oR' := Own.other oR (a := ⟨B + 1 + 1 + 1, k, none⟩) (by first | (simp; done) | (simp; omega)) (.int .i64 (k : Int))
        have oC' := (heap_setCell_other wc ⟨B + 1 + 1 + 1, k, none⟩ (B + 1 + 1) (.int .i64 (k : Int)) (by simp)).trans oC
        have hbel' := hbel.setCell (p := ⟨B + 1 + 1 + 1, k, none⟩) (by first | (simp; done) | (simp; omega)) (.int .i64 (k : Int))
        have OP' := Lib.hid oP'
        have OR' := Lib.hid oR'
        have OO' := Lib.hid oO'
        have OC' := Lib.hid oC'
        have HBEL' := Lib.hid hbel'
        have hss : sumF (quo t x (zf zs)) (k + 1) = sumF (quo t x (zf zs)) k + quo t x (zf zs) k := rfl
        have HSS := Lib.hid hss
        clear hm oP oR oO oC hbel oP' oR' oO' oC' hbel' hss
        generalize sumF (quo t x (zf zs)) k = sq at *
        generalize quo t x (zf zs) k = qk at *
        go_wp2_with fail
        go_roundw
        case rel => exact ⟨k + 1, by omega, by go_num, by rw [HSS.out]; go_num, OP'.out, OR'.out, OO'.out, OC'.out, HBEL'.out⟩
        case measure => simp [intOf]; omega
    · obtain rfl : k = zs.length := by omega
      have hn0 : 0 < zs.length := by
        apply Decidable.byContradiction
        intro h
        have hz : zs = [] := List.length_eq_zero_iff.1 (by omega)
        have := HWW.out
        rw [hz] at this
        simp [tot] at this
        omega
      have hsort := sort_any (rem t x (zf zs)) zs.length zs.length (B + 1 + 1 + 1) (B + 1) (B + 1 + 1) hn0 w1 wr (oO.congr (cutF_all _ _)) (oR.congr (cutF_all _ _)) (by omega) (by omega) oC
      have ob := over_bd (t := t) h0 HS.out
      obtain ⟨ov, hov⟩ := Int.eq_ofNat_of_zero_le ob.1
      have ob2 : ov ≤ zs.length := by omega
      have hov' : t - sumF (quo t x (zf zs)) zs.length = (ov : Int) := hov
      rw [hov']
      have HSORT := Lib.hid hsort
      have OP := Lib.hid (oP.congr (cutF_all _ _))
      have HBEL := Lib.hid hbel
      have HOV := Lib.hid hov
      have hqv : ∀ i, 0 ≤ quo t x (zf zs) i ∧ quo t x (zf zs) i ≤ 1125899906842624 := fun i => ⟨quo_nonneg h0 ht (HN.out.getD i), by
        have h1 := quo_le (z := zf zs) (i := i) h0 htW (HN.out.getD i)
        have h2 : zf zs i ≤ x := by
          unfold zf
          rw [List.getD_eq_getElem?_getD]
          by_cases hi : i < zs.length
          · rw [List.getElem?_eq_getElem hi]; exact HLE.out _ (List.getElem_mem hi)
          · rw [List.getElem?_eq_none (by omega)]; simp; omega
        omega⟩
      have HQV := Lib.hid hqv
      have hwr : B + 1 + 1 + 1 < wr.heap.size := oO.lt
      have hmf : ∀ (fn : Fn) (first cap : Array Value) (w : World), (Instr.makeFunc fn first cap).run Try.prog w = .ok (.func fn first cap) w := fun _ _ _ _ => rfl
      clear hsort oP oR oO oC hbel ob hov hov' hqv
      go_wp2_with (go_at_call 28; refine HSORT.out.mono ?_; rintro e ws ⟨rfl, L, l1, l2, l3, l4, l5⟩)
      have oP2 := l4 B _ (by omega) OP.out
      have hb2 := l5 B w HBEL.out (by omega) (by omega)
      have L1 := Lib.hid l1
      have L2 := Lib.hid l2
      have L3 := Lib.hid l3
      have OP2 : Hid (Own ws B zs.length (stepF (quo t x (zf zs)) L 0)) := Lib.hid (oP2.congr (fun i _ => by simp [stepF]))
      have HB2 := Lib.hid hb2
      have hLn : L.length = zs.length := by rw [l1.length_eq, List.length_range]
      have hLm : ∀ k, k < zs.length → L.getD k 0 < zs.length := fun k hk => by
        rw [List.getD_eq_getElem?_getD, List.getElem?_eq_getElem (by omega), Option.getD_some]
        exact List.mem_range.1 (l1.mem_iff.1 (List.getElem_mem _))
      have hnd : L.Nodup := l1.nodup_iff.2 List.nodup_range
      have HLN := Lib.hid hLn
      have HLM := Lib.hid hLm
      have HND := Lib.hid hnd
      clear l1 l2 l3 l4 l5 oP2 hb2 hLn hLm hnd
      go_loopw [84] (fun i w2 => ∃ k : Nat, k ≤ ov ∧ i = .int .i64 k ∧ Own w2 B zs.length (stepF (quo t x (zf zs)) L k) ∧ (∀ j, j < zs.length → w2.cell? ⟨B + 1 + 1 + 1, j, none⟩ = some (.int .i64 (L.getD j 0 : Nat))) ∧ Below B w w2) (fun i _ => ov - (intOf i).toNat)
      case atStart => exact ⟨0, Nat.zero_le _, rfl, OP2.out, L3.out, HB2.out⟩
      case round =>
        obtain ⟨k, hk2, rfl, oP, hL, hbel⟩ := hrel
        by_cases hlt2 : k < ov
        · have hLk := hL k (by omega)
          have hi := HLM.out k (by omega)
          have hP := oP.cell hi
          have fP := oP.free (L.getD k 0)
          have hv := HQV.out (L.getD k 0)
          have hs := stepF_bd (quo t x (zf zs)) L k (L.getD k 0)
          have oP' := (Own.set oP (L.getD k 0) (stepF (quo t x (zf zs)) L k (L.getD k 0) + 1)).congr (fun i _ => stepF_upd (quo t x (zf zs)) L HND.out k (by have := HLN.out; omega) i)
          have hL' : ∀ v : Int, ∀ j, j < zs.length → (wr.setCell ⟨B, L.getD k 0, none⟩ (.int .i64 v)).cell? ⟨B + 1 + 1 + 1, j, none⟩ = some (.int .i64 (L.getD j 0 : Nat)) := fun v j hj =>
            (World.cell?_setCell_other _ _ _ _ (by first | (simp; done) | (simp; omega))).trans (hL j hj)
          have hbel' := fun v => hbel.setCell (p := ⟨B, L.getD k 0, none⟩) (Nat.le_refl _) (.int .i64 v)
          have OP' := Lib.hid oP'
          have HL' := Lib.hid hL'
          have HBEL' := Lib.hid hbel'
          have hv2 : 0 ≤ stepF (quo t x (zf zs)) L k (L.getD k 0) ∧ stepF (quo t x (zf zs)) L k (L.getD k 0) ≤ 1125899906842625 := by omega
          clear oP hL hbel oP' hL' hbel' hv hs
          generalize stepF (quo t x (zf zs)) L k (L.getD k 0) = v at *
          generalize hd : L.getD k 0 = d at *
          have HD := Lib.hid hd
          clear hd
          go_wp2_with fail
          go_roundw
          case rel => exact ⟨k + 1, by omega, by go_num, OP'.out, HL'.out _, HBEL'.out _⟩
          case measure => simp [intOf]; omega
        · obtain rfl : k = ov := by omega
          have oR : Own wr B zs.length (part t x (zf zs) zs.length) := oP.congr (fun i hi => stepF_part L1.out L2.out HOV.out i hi)
          have OR := Lib.hid oR
          have HBEL2 := Lib.hid hbel
          clear oP hL hbel oR
          go_wp2_with fail
          go_ret2
          have hx := HWW.out
          subst hx
          subst hB
          exact ⟨rfl, OR.out, HBEL2.out⟩
end Go.Proofs.Ytbpibdjmffhmpaa
