/- wire.Nums and wire.Texts: the encodings of lists of ints and of strings, by one generic function. Conditions: the list can be read; it and its strings are of bounded length. -/
import Derived.Test.YtocbodjmdgoaiaaDoorWText
import Derived.Shelf.Strings.Builder1
namespace Go.Proofs.YtocbodjmdgoaiaaDoor
open Go.RowKit Wm
set_option linter.unusedVariables false

theorem bws (B b : Nat) (l s : Bs) (w : World) (h : Lib.IsBuilder 76 5 B b (Lib.byteCells l) w) (hlen : l.length + s.length ≤ 140737488355328) (hBw : B ≤ w.heap.size) :
    Calls Tryd.prog 58 #[.pointer (some ⟨b, 0, none⟩), .string (sv s)] w fun e w' => e = .returned (.tuple #[.int .i64 (s.length : Nat), .nilIface]) ∧ Lib.IsBuilder 76 5 B b (Lib.byteCells (l ++ s)) w' ∧ Below B w w' := by
  refine (Any.Builder_WriteString (P := Tryd.prog) (ρ := Tryd.lays154_ren) { Tryd.lays154 with } Tryd.Builder_Extra_154 B b (Lib.byteCells l) (sv s) w h (by rw [Lib.byteCells_length, sv_size]; exact hlen) hBw).mono ?_
  rintro e w' ⟨rfl, h1, h2⟩
  refine ⟨by rw [sv_size], .inr ?_, h2⟩
  rw [Lib.strCells_eq, sv_list] at h1
  rw [show Lib.byteCells (l ++ s) = Lib.byteCells l ++ Lib.byteCells s by simp [Lib.byteCells]]
  exact h1
theorem bstr (B b : Nat) (l : Bs) (w : World) (h : Lib.IsBuilder 76 5 B b (Lib.byteCells l) w) (hBw : B ≤ w.heap.size) :
    Calls Tryd.prog 59 #[.pointer (some ⟨b, 0, none⟩)] w fun e w' => e = .returned (.string (sv l)) ∧ Below B w w' := Tryd.Builder_String_any B b l w h hBw

/-- A slice that reads as a list of cells, nil let in. -/
def Rd (w : World) (A : Option Addr) (n : Nat) (xs : List Value) : Prop :=
  xs.length = n ∧ (0 < n → ∃ ad, A = some ad ∧ ad.block < w.heap.size ∧ ∀ j u, xs[j]? = some u → w.cell? (ad.add j) = some u)
theorem Rd.below {w w' : World} {A : Option Addr} {n : Nat} {xs : List Value} (h : Rd w A n xs) (hb : Below w.heap.size w w') : Rd w' A n xs :=
  ⟨h.1, fun hn => by
    obtain ⟨ad, e, hl, hc⟩ := h.2 hn
    exact ⟨ad, e, Nat.lt_of_lt_of_le hl hb.size, fun j u hu => (hb.cell (p := ad.add j) (by rw [block_of_add]; exact hl)).trans (hc j u hu)⟩⟩
theorem Rd.at_ {w : World} {A : Option Addr} {n k : Nat} {xs : List Value} (h : Rd w A n xs) (hk : k < n) : ∃ ad u, A = some ad ∧ ad.block < w.heap.size ∧ xs[k]? = some u ∧ w.cell? (ad.add k) = some u := by
  obtain ⟨ad, e, hb, hc⟩ := h.2 (by omega)
  have hl : k < xs.length := by rw [h.1]; exact hk
  exact ⟨ad, xs[k], e, hb, List.getElem?_eq_getElem hl, hc k _ (List.getElem?_eq_getElem hl)⟩
def iv (zs : List Int) : List Value := zs.map (Value.int .i64)
def tv (ts : List Bs) : List Value := ts.map fun s => Value.string (sv s)

theorem pre_take {α : Type} (enc : α → Bs) (zs : List α) (k : Nat) (x : α) (h : zs[k]? = some x) : pre enc (zs.take (k + 1)) = pre enc (zs.take k) ++ [1] ++ enc x := by
  obtain ⟨hk, rfl⟩ := List.getElem?_eq_some_iff.1 h
  rw [List.take_succ_eq_append_getElem hk, pre_snoc]
  simp

theorem builder_below {B b : Nat} {bs : List Value} {w w' : World} (h : Lib.IsBuilder 76 5 B b bs w) (hb : Below w.heap.size w w') : Lib.IsBuilder 76 5 B b bs w' := by
  have key : ∀ p, Lib.BuilderAt 76 5 B b p bs w → Lib.BuilderAt 76 5 B b p bs w' := by
    rintro p ⟨h1, v, h2, h3, h4⟩
    refine ⟨h1, v, (hb.block b (Array.getElem?_eq_some_iff.1 h2).1).trans h2, ⟨h3.1, ?_⟩, h4⟩
    rcases h3.2 with h5 | ⟨g, cap, cur, e1, e2, e3, e4⟩
    · exact .inl h5
    · exact .inr ⟨g, cap, cur, e1, e2, (hb.block g (Array.getElem?_eq_some_iff.1 e3).1).trans e3, e4⟩
  exact h.elim (fun x => .inl (key _ x)) (fun x => .inr (key _ x))

set_option maxHeartbeats 1000000 in
set_option maxRecDepth 100000 in
theorem list_ints (A : Option Addr) (n c : Nat) (zs : List Int) {w : World} (hr : Rd w A n (iv zs)) (hn : n ≤ 1048576) (hz : ∀ z ∈ zs, J64 z) :
    Calls Tryd.prog 45 #[.slice A n c, .func (.func 10) #[] #[]] w fun e w' => e = .returned (.string (sv (encL encI zs))) ∧ Below w.heap.size w w' := by
  have hlen : zs.length = n := by simpa [iv] using hr.1
  have HR := Lib.hid hr
  have HL := Lib.hid hlen
  have HZ := Lib.hid hz
  clear hr hlen hz
  go_enter Tryd.func45, Tryd.ntmps45
  go_wp2_with fail
  have hb0 := Lib.fresh_isBuilder 76 5 w
  have H0 : Hid (Lib.IsBuilder 76 5 w.heap.size w.heap.size (Lib.byteCells (pre encI (zs.take 0))) (w.alloc (.cells #[.pointer none, .slice none 0 0] 76))) := Lib.hid hb0
  clear hb0
  go_loopw [10] (fun i wr => ∃ k : Nat, k ≤ n ∧ i = .int .i64 k ∧ Lib.IsBuilder 76 5 w.heap.size w.heap.size (Lib.byteCells (pre encI (zs.take k))) wr ∧ Below w.heap.size w wr) (fun i _ => n - (intOf i).toNat)
  case atStart => exact ⟨0, Nat.zero_le _, rfl, H0.out, below_alloc _ _⟩
  case round =>
    obtain ⟨k, hk, rfl, hbk, hbel⟩ := hrel
    have hsz := hbel.size
    have HB := Lib.hid hbk
    have HBE := Lib.hid hbel
    clear hbk hbel
    by_cases hlt : k < n
    · obtain ⟨ad, u, rfl, _, hx, hc⟩ := (HR.out.below HBE.out).at_ hlt
      obtain ⟨z, hz, rfl⟩ : ∃ z, zs[k]? = some z ∧ u = .int .i64 z := by
        rw [iv, List.getElem?_map] at hx
        obtain ⟨z, hz, rfl⟩ := Option.map_eq_some_iff.1 hx
        exact ⟨z, hz, rfl⟩
      have hJ : J64 z := HZ.out z (List.mem_of_getElem? hz)
      have hp := pre_take encI zs k z hz
      have hle : (pre encI (zs.take k)).length ≤ 1048576 * 10 := by
        have h1 := pre_le encI (zs.take k) 9 (fun x _ => encI_le x)
        have h2 : (zs.take k).length ≤ k := List.length_take_le _ _
        omega
      have he9 := encI_le z
      have HP := Lib.hid hp
      have HJ := Lib.hid hJ
      clear hx hz hp hJ
      generalize pre encI (zs.take k) = P at *
      go_wp2_with fail
      refine (bws w.heap.size w.heap.size P [1] wr HB.out (by simp; omega) (by omega)).mono ?_
      rintro e w1 ⟨rfl, h1, hb1⟩
      have H1 := Lib.hid h1
      have HB1 := Lib.hid (HBE.out.trans hb1)
      have hs1 := hb1.size
      clear h1 hb1
      go_wp2_with fail
      refine (int_any z HJ.out w1).mono ?_
      rintro e w2 ⟨rfl, hb2⟩
      have HB2 : Hid (Below w.heap.size w1 w2) := Lib.hid (hb2.mono (by omega))
      have H2 := Lib.hid (builder_below H1.out hb2)
      have hs2 := hb2.size
      clear hb2
      go_wp2_with fail
      refine (bws w.heap.size w.heap.size (P ++ [1]) (encI z) w2 H2.out (by simp; omega) (by omega)).mono ?_
      rintro e w3 ⟨rfl, h3, hb3⟩
      have H3 := Lib.hid h3
      have HB3 := Lib.hid ((HB1.out.trans HB2.out).trans hb3)
      clear h3 hb3
      go_wp2_with fail
      go_roundw
      case rel => exact ⟨k + 1, by omega, by go_num, by rw [HP.out]; exact H3.out, HB3.out⟩
      case measure => simp [intOf]; omega
    · obtain rfl : k = n := by omega
      have hle : (pre encI zs).length ≤ 1048576 * 10 := by
        have h1 := pre_le encI zs 9 (fun x _ => encI_le x)
        have := HL.out
        omega
      have hb' : Lib.IsBuilder 76 5 w.heap.size w.heap.size (Lib.byteCells (pre encI zs)) wr := by
        have := HB.out
        rwa [List.take_of_length_le (by have := HL.out; omega)] at this
      have HB' := Lib.hid hb'
      clear hb'
      go_wp2_with fail
      refine (bws w.heap.size w.heap.size (pre encI zs) [0] wr HB'.out (by simp; omega) (by omega)).mono ?_
      rintro e w1 ⟨rfl, h1, hb1⟩
      have hs1 := hb1.size
      have H1 := Lib.hid h1
      have HB1 := Lib.hid (HBE.out.trans hb1)
      clear h1 hb1
      go_wp2_with fail
      refine (bstr w.heap.size w.heap.size _ w1 H1.out (by omega)).mono ?_
      rintro e w2 ⟨rfl, hb2⟩
      have HB2 := Lib.hid (HB1.out.trans hb2)
      clear hb2
      go_wp2_with fail
      go_ret
      exact ⟨rfl, HB2.out⟩
set_option maxHeartbeats 1000000 in
set_option maxRecDepth 100000 in
theorem list_texts (A : Option Addr) (n c : Nat) (zs : List Bs) {w : World} (hr : Rd w A n (tv zs)) (hn : n ≤ 1048576) (hz : ∀ z ∈ zs, z.length ≤ 1000) (hm : Mx w) :
    Calls Tryd.prog 46 #[.slice A n c, .func (.func 14) #[] #[]] w fun e w' => e = .returned (.string (sv (encL encT zs))) ∧ Below w.heap.size w w' := by
  have hlen : zs.length = n := by simpa [tv] using hr.1
  have HR := Lib.hid hr
  have HL := Lib.hid hlen
  have HZ := Lib.hid hz
  have HM := Lib.hid hm
  clear hr hlen hz hm
  go_enter Tryd.func46, Tryd.ntmps46
  go_wp2_with fail
  have hb0 := Lib.fresh_isBuilder 76 5 w
  have H0 : Hid (Lib.IsBuilder 76 5 w.heap.size w.heap.size (Lib.byteCells (pre encT (zs.take 0))) (w.alloc (.cells #[.pointer none, .slice none 0 0] 76))) := Lib.hid hb0
  clear hb0
  go_loopw [10] (fun i wr => ∃ k : Nat, k ≤ n ∧ i = .int .i64 k ∧ Lib.IsBuilder 76 5 w.heap.size w.heap.size (Lib.byteCells (pre encT (zs.take k))) wr ∧ Below w.heap.size w wr) (fun i _ => n - (intOf i).toNat)
  case atStart => exact ⟨0, Nat.zero_le _, rfl, H0.out, below_alloc _ _⟩
  case round =>
    obtain ⟨k, hk, rfl, hbk, hbel⟩ := hrel
    have hsz := hbel.size
    have HB := Lib.hid hbk
    have HBE := Lib.hid hbel
    clear hbk hbel
    by_cases hlt : k < n
    · obtain ⟨ad, u, rfl, _, hx, hc⟩ := (HR.out.below HBE.out).at_ hlt
      obtain ⟨z, hz, rfl⟩ : ∃ z, zs[k]? = some z ∧ u = .string (sv z) := by
        rw [tv, List.getElem?_map] at hx
        obtain ⟨z, hz, rfl⟩ := Option.map_eq_some_iff.1 hx
        exact ⟨z, hz, rfl⟩
      have hJ : z.length ≤ 1000 := HZ.out z (List.mem_of_getElem? hz)
      have hp := pre_take encT zs k z hz
      have hle : (pre encT (zs.take k)).length ≤ 1048576 * 2003 := by
        have h1 := pre_le encT (zs.take k) 2002 (fun x hx => by have := encT_le x; have := HZ.out x (List.mem_of_mem_take hx); omega)
        have h2 : (zs.take k).length ≤ k := List.length_take_le _ _
        omega
      have he9 := encT_le z
      have hz1000 := hJ
      have HP := Lib.hid hp
      have HJ := Lib.hid hJ
      clear hx hz hp hJ
      generalize pre encT (zs.take k) = P at *
      go_wp2_with fail
      refine (bws w.heap.size w.heap.size P [1] wr HB.out (by simp; omega) (by omega)).mono ?_
      rintro e w1 ⟨rfl, h1, hb1⟩
      have H1 := Lib.hid h1
      have HB1 := Lib.hid (HBE.out.trans hb1)
      have hs1 := hb1.size
      clear h1 hb1
      go_wp2_with fail
      refine (text_any z (by have := HJ.out; omega) (HM.out.self HB1.out)).mono ?_
      rintro e w2 ⟨rfl, hb2⟩
      have HB2 : Hid (Below w.heap.size w1 w2) := Lib.hid (hb2.mono (by omega))
      have H2 := Lib.hid (builder_below H1.out hb2)
      have hs2 := hb2.size
      clear hb2
      go_wp2_with fail
      refine (bws w.heap.size w.heap.size (P ++ [1]) (encT z) w2 H2.out (by simp; omega) (by omega)).mono ?_
      rintro e w3 ⟨rfl, h3, hb3⟩
      have H3 := Lib.hid h3
      have HB3 := Lib.hid ((HB1.out.trans HB2.out).trans hb3)
      clear h3 hb3
      go_wp2_with fail
      go_roundw
      case rel => exact ⟨k + 1, by omega, by go_num, by rw [HP.out]; exact H3.out, HB3.out⟩
      case measure => simp [intOf]; omega
    · obtain rfl : k = n := by omega
      have hle : (pre encT zs).length ≤ 1048576 * 2003 := by
        have h1 := pre_le encT zs 2002 (fun x hx => by have := encT_le x; have := HZ.out x hx; omega)
        have := HL.out
        omega
      have hb' : Lib.IsBuilder 76 5 w.heap.size w.heap.size (Lib.byteCells (pre encT zs)) wr := by
        have := HB.out
        rwa [List.take_of_length_le (by have := HL.out; omega)] at this
      have HB' := Lib.hid hb'
      clear hb'
      go_wp2_with fail
      refine (bws w.heap.size w.heap.size (pre encT zs) [0] wr HB'.out (by simp; omega) (by omega)).mono ?_
      rintro e w1 ⟨rfl, h1, hb1⟩
      have hs1 := hb1.size
      have H1 := Lib.hid h1
      have HB1 := Lib.hid (HBE.out.trans hb1)
      clear h1 hb1
      go_wp2_with fail
      refine (bstr w.heap.size w.heap.size _ w1 H1.out (by omega)).mono ?_
      rintro e w2 ⟨rfl, hb2⟩
      have HB2 := Lib.hid (HB1.out.trans hb2)
      clear hb2
      go_wp2_with fail
      go_ret
      exact ⟨rfl, HB2.out⟩
theorem nums_any (A : Option Addr) (n c : Nat) (zs : List Int) {w : World} (hr : Rd w A n (iv zs)) (hn : n ≤ 1048576) (hz : ∀ z ∈ zs, J64 z) :
    Calls Tryd.prog 16 #[.slice A n c] w fun e w' => e = .returned (.string (sv (encL encI zs))) ∧ Below w.heap.size w w' := by
  have c1 := list_ints A n c zs hr hn hz
  have C1 := Lib.hid c1
  clear c1 hr hz
  generalize sv (encL encI zs) = E at *
  go_enter Tryd.func16, Tryd.ntmps16
  go_wp2_with fail
  refine C1.out.mono ?_
  rintro e w' ⟨rfl, hb⟩
  go_wp2_with fail
  go_ret
  exact ⟨rfl, hb⟩
theorem texts_any (A : Option Addr) (n c : Nat) (zs : List Bs) {w : World} (hr : Rd w A n (tv zs)) (hn : n ≤ 1048576) (hz : ∀ z ∈ zs, z.length ≤ 1000) (hm : Mx w) :
    Calls Tryd.prog 18 #[.slice A n c] w fun e w' => e = .returned (.string (sv (encL encT zs))) ∧ Below w.heap.size w w' := by
  have c1 := list_texts A n c zs hr hn hz hm
  have C1 := Lib.hid c1
  clear c1 hr hz hm
  generalize sv (encL encT zs) = E at *
  go_enter Tryd.func18, Tryd.ntmps18
  go_wp2_with fail
  refine C1.out.mono ?_
  rintro e w' ⟨rfl, hb⟩
  go_wp2_with fail
  go_ret
  exact ⟨rfl, hb⟩
end Go.Proofs.YtocbodjmdgoaiaaDoor
