/- The statement WalAlone: where the arguments are too large. Conditions: the arguments read as data within the reach. -/
import Derived.Test.YtdjchpejhfkknaaLAloneM
namespace Go.Proofs.Ytdjchpejhfkknaa.walAlone
open Go.RowKit Km Dk Lw
open Lm hiding Bs
set_option linter.unusedVariables false
set_option maxRecDepth 100000

theorem out_first {w : World} {v u kv : Value} {l m : List Bs} {ks : List Int} (h : Texts w v l) (hm : Texts w u m) (hk : Ints w kv ks) (hb : 1500 < bytB l) : Calls Try.prog 8 #[v, u, kv] w (IsTrue w) := by
  have SM := Lib.hid (fun W => small_any W)
  have HT := Lib.hid h
  have HM := Lib.hid hm
  have HBY := Lib.hid (fun W (hb : Below w.heap.size w W) => bytes_any (Texts.below HT.out hb))
  have HBZ := Lib.hid (fun W (hb : Below w.heap.size w W) => bytes_any (Texts.below HM.out hb))
  have d1 : decide ((1500 : Int) < ((bytB l : Nat) : Int)) = true := decide_eq_true (by omega)
  clear hb
  obtain ⟨a, c, rfl⟩ := texts_len h
  obtain ⟨a2, c2, rfl⟩ := texts_len hm
  obtain ⟨ka, kc, rfl, _⟩ := hk
  clear h hm
  generalize bytB l = n at *
  generalize bytB m = k at *
  generalize ks.length = K at *
  go_enter Try.func8, Try.ntmps8
  go_wp2_with fail
  refine (SM.out _).mono ?_
  rintro e w1 ⟨rfl, hb1⟩
  have HB1 := Lib.hid hb1
  clear hb1
  go_wp2_with fail
  refine (HBY.out _ HB1.out).mono ?_
  rintro e w2 ⟨rfl, hb2⟩
  have HB2 := Lib.hid (HB1.out.trans (hb2.mono HB1.out.size))
  clear hb2
  go_wp2_with fail
  go_ret
  exact ⟨rfl, HB2.out⟩
theorem out_second {w : World} {v u kv : Value} {l m : List Bs} {ks : List Int} (h : Texts w v l) (hm : Texts w u m) (hk : Ints w kv ks) (hb : bytB l ≤ 1500) (hb2 : 1500 < bytB m) : Calls Try.prog 8 #[v, u, kv] w (IsTrue w) := by
  have SM := Lib.hid (fun W => small_any W)
  have HT := Lib.hid h
  have HM := Lib.hid hm
  have HBY := Lib.hid (fun W (hb : Below w.heap.size w W) => bytes_any (Texts.below HT.out hb))
  have HBZ := Lib.hid (fun W (hb : Below w.heap.size w W) => bytes_any (Texts.below HM.out hb))
  have d1 : decide ((1500 : Int) < ((bytB l : Nat) : Int)) = false := decide_eq_false (by omega)
  have d2 : decide ((1500 : Int) < ((bytB m : Nat) : Int)) = true := decide_eq_true (by omega)
  clear hb hb2
  obtain ⟨a, c, rfl⟩ := texts_len h
  obtain ⟨a2, c2, rfl⟩ := texts_len hm
  obtain ⟨ka, kc, rfl, _⟩ := hk
  clear h hm
  generalize bytB l = n at *
  generalize bytB m = k at *
  generalize ks.length = K at *
  go_enter Try.func8, Try.ntmps8
  go_wp2_with fail
  refine (SM.out _).mono ?_
  rintro e w1 ⟨rfl, hb1⟩
  have HB1 := Lib.hid hb1
  clear hb1
  go_wp2_with fail
  refine (HBY.out _ HB1.out).mono ?_
  rintro e w2 ⟨rfl, hb2⟩
  have HB2 := Lib.hid (HB1.out.trans (hb2.mono HB1.out.size))
  clear hb2
  go_wp2_with fail
  refine (HBZ.out _ HB2.out).mono ?_
  rintro e w3 ⟨rfl, hb2⟩
  have HB3 := Lib.hid (HB2.out.trans (hb2.mono HB2.out.size))
  clear hb2
  go_wp2_with fail
  go_ret
  exact ⟨rfl, HB3.out⟩
theorem out_keep {w : World} {v u kv : Value} {l m : List Bs} {ks : List Int} (h : Texts w v l) (hm : Texts w u m) (hk : Ints w kv ks) (hb : bytB l ≤ 1500) (hb2 : bytB m ≤ 1500) (hK : 30 < ks.length) : Calls Try.prog 8 #[v, u, kv] w (IsTrue w) := by
  have SM := Lib.hid (fun W => small_any W)
  have HT := Lib.hid h
  have HM := Lib.hid hm
  have HBY := Lib.hid (fun W (hb : Below w.heap.size w W) => bytes_any (Texts.below HT.out hb))
  have HBZ := Lib.hid (fun W (hb : Below w.heap.size w W) => bytes_any (Texts.below HM.out hb))
  have d1 : decide ((1500 : Int) < ((bytB l : Nat) : Int)) = false := decide_eq_false (by omega)
  have d2 : decide ((1500 : Int) < ((bytB m : Nat) : Int)) = false := decide_eq_false (by omega)
  have d3 : decide ((30 : Int) < ((ks.length : Nat) : Int)) = true := decide_eq_true (by omega)
  clear hb hb2 hK
  obtain ⟨a, c, rfl⟩ := texts_len h
  obtain ⟨a2, c2, rfl⟩ := texts_len hm
  obtain ⟨ka, kc, rfl, _⟩ := hk
  clear h hm
  generalize bytB l = n at *
  generalize bytB m = k at *
  generalize ks.length = K at *
  go_enter Try.func8, Try.ntmps8
  go_wp2_with fail
  refine (SM.out _).mono ?_
  rintro e w1 ⟨rfl, hb1⟩
  have HB1 := Lib.hid hb1
  clear hb1
  go_wp2_with fail
  refine (HBY.out _ HB1.out).mono ?_
  rintro e w2 ⟨rfl, hb2⟩
  have HB2 := Lib.hid (HB1.out.trans (hb2.mono HB1.out.size))
  clear hb2
  go_wp2_with fail
  refine (HBZ.out _ HB2.out).mono ?_
  rintro e w3 ⟨rfl, hb2⟩
  have HB3 := Lib.hid (HB2.out.trans (hb2.mono HB2.out.size))
  clear hb2
  go_wp2_with fail
  go_ret
  exact ⟨rfl, HB3.out⟩
end Go.Proofs.Ytdjchpejhfkknaa.walAlone
