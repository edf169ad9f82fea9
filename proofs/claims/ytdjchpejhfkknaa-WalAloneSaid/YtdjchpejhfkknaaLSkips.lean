/- The statement WalSkips: its walk. Conditions: the arguments read as data within the reach. -/
import Derived.Test.YtdjchpejhfkknaaLSkipM
namespace Go.Proofs.Ytdjchpejhfkknaa.walSkips
open Go.RowKit Km Dk Lw
open Lm hiding Bs
set_option linter.unusedVariables false
set_option maxRecDepth 100000

theorem out_len {w : World} {v kv : Value} {l : List Bs} {ks : List Int} (fl : Int) (h : Texts w v l) (hk : Ints w kv ks) (hb : 20 < l.length) : Calls Try.prog 7 #[v, .int .i64 fl, kv] w (IsTrue w) := by
  have SM := Lib.hid (fun W => small_any W)
  have HT := Lib.hid h
  have HBY := Lib.hid (fun W (hb : Below w.heap.size w W) => bytes_any (Texts.below HT.out hb))
  have dN : decide ((20 : Int) < ((l.length : Nat) : Int)) = true := decide_eq_true (by omega)
  clear hb
  obtain ⟨a, c, rfl⟩ := texts_len h
  obtain ⟨ka, kc, rfl, _⟩ := hk
  clear h
  generalize bytB l = n at *
  generalize l.length = N at *
  generalize ks.length = K at *
  go_enter Try.func7, Try.ntmps7
  go_wp2_with fail
  refine (SM.out _).mono ?_
  rintro e w1 ⟨rfl, hb1⟩
  have HB1 := Lib.hid hb1
  clear hb1
  go_wp2_with fail
  go_ret
  exact ⟨rfl, HB1.out⟩
theorem out_bytes {w : World} {v kv : Value} {l : List Bs} {ks : List Int} (fl : Int) (h : Texts w v l) (hk : Ints w kv ks) (hn : l.length ≤ 20) (hb : 1500 < bytB l) : Calls Try.prog 7 #[v, .int .i64 fl, kv] w (IsTrue w) := by
  have SM := Lib.hid (fun W => small_any W)
  have HT := Lib.hid h
  have HBY := Lib.hid (fun W (hb : Below w.heap.size w W) => bytes_any (Texts.below HT.out hb))
  have dN : decide ((20 : Int) < ((l.length : Nat) : Int)) = false := decide_eq_false (by omega)
  have dB : decide ((1500 : Int) < ((bytB l : Nat) : Int)) = true := decide_eq_true (by omega)
  clear hn hb
  obtain ⟨a, c, rfl⟩ := texts_len h
  obtain ⟨ka, kc, rfl, _⟩ := hk
  clear h
  generalize bytB l = n at *
  generalize l.length = N at *
  generalize ks.length = K at *
  go_enter Try.func7, Try.ntmps7
  go_wp2_with fail
  refine (SM.out _).mono ?_
  rintro e w1 ⟨rfl, hb1⟩
  have HB1 := Lib.hid hb1
  clear hb1
  go_wp2_with fail
  refine (HBY.out _ HB1.out).mono ?_
  rintro e w2 ⟨rfl, hb2⟩
  have HB2 := Lib.hid (HB1.out.trans (hb2.mono HB1.out.size))
  clear hb2
  go_wp2_with fail
  go_ret
  exact ⟨rfl, HB2.out⟩
theorem out_keep {w : World} {v kv : Value} {l : List Bs} {ks : List Int} (fl : Int) (h : Texts w v l) (hk : Ints w kv ks) (hn : l.length ≤ 20) (hb : bytB l ≤ 1500) (hK : 30 < ks.length) : Calls Try.prog 7 #[v, .int .i64 fl, kv] w (IsTrue w) := by
  have SM := Lib.hid (fun W => small_any W)
  have HT := Lib.hid h
  have HBY := Lib.hid (fun W (hb : Below w.heap.size w W) => bytes_any (Texts.below HT.out hb))
  have dN : decide ((20 : Int) < ((l.length : Nat) : Int)) = false := decide_eq_false (by omega)
  have dB : decide ((1500 : Int) < ((bytB l : Nat) : Int)) = false := decide_eq_false (by omega)
  have dK : decide ((30 : Int) < ((ks.length : Nat) : Int)) = true := decide_eq_true (by omega)
  clear hn hb hK
  obtain ⟨a, c, rfl⟩ := texts_len h
  obtain ⟨ka, kc, rfl, _⟩ := hk
  clear h
  generalize bytB l = n at *
  generalize l.length = N at *
  generalize ks.length = K at *
  go_enter Try.func7, Try.ntmps7
  go_wp2_with fail
  refine (SM.out _).mono ?_
  rintro e w1 ⟨rfl, hb1⟩
  have HB1 := Lib.hid hb1
  clear hb1
  go_wp2_with fail
  refine (HBY.out _ HB1.out).mono ?_
  rintro e w2 ⟨rfl, hb2⟩
  have HB2 := Lib.hid (HB1.out.trans (hb2.mono HB1.out.size))
  clear hb2
  go_wp2_with fail
  go_ret
  exact ⟨rfl, HB2.out⟩
theorem out_neg {w : World} {v kv : Value} {l : List Bs} {ks : List Int} (fl : Int) (h : Texts w v l) (hk : Ints w kv ks) (hn : l.length ≤ 20) (hb : bytB l ≤ 1500) (hK : ks.length ≤ 30) (hf : fl < 0) : Calls Try.prog 7 #[v, .int .i64 fl, kv] w (IsTrue w) := by
  have SM := Lib.hid (fun W => small_any W)
  have HT := Lib.hid h
  have HBY := Lib.hid (fun W (hb : Below w.heap.size w W) => bytes_any (Texts.below HT.out hb))
  have dN : decide ((20 : Int) < ((l.length : Nat) : Int)) = false := decide_eq_false (by omega)
  have dB : decide ((1500 : Int) < ((bytB l : Nat) : Int)) = false := decide_eq_false (by omega)
  have dK : decide ((30 : Int) < ((ks.length : Nat) : Int)) = false := decide_eq_false (by omega)
  have dF : decide (fl < 0) = true := decide_eq_true hf
  clear hn hb hK hf
  obtain ⟨a, c, rfl⟩ := texts_len h
  obtain ⟨ka, kc, rfl, _⟩ := hk
  clear h
  generalize bytB l = n at *
  generalize l.length = N at *
  generalize ks.length = K at *
  go_enter Try.func7, Try.ntmps7
  go_wp2_with fail
  refine (SM.out _).mono ?_
  rintro e w1 ⟨rfl, hb1⟩
  have HB1 := Lib.hid hb1
  clear hb1
  go_wp2_with fail
  refine (HBY.out _ HB1.out).mono ?_
  rintro e w2 ⟨rfl, hb2⟩
  have HB2 := Lib.hid (HB1.out.trans (hb2.mono HB1.out.size))
  clear hb2
  go_wp2_with fail
  go_ret
  exact ⟨rfl, HB2.out⟩
theorem out_more {w : World} {v kv : Value} {l : List Bs} {ks : List Int} (fl : Int) (h : Texts w v l) (hk : Ints w kv ks) (hn : l.length ≤ 20) (hb : bytB l ≤ 1500) (hK : ks.length ≤ 30) (hf : ¬ fl < 0) (hm : ((l.length : Nat) : Int) < fl) : Calls Try.prog 7 #[v, .int .i64 fl, kv] w (IsTrue w) := by
  have SM := Lib.hid (fun W => small_any W)
  have HT := Lib.hid h
  have HBY := Lib.hid (fun W (hb : Below w.heap.size w W) => bytes_any (Texts.below HT.out hb))
  have dN : decide ((20 : Int) < ((l.length : Nat) : Int)) = false := decide_eq_false (by omega)
  have dB : decide ((1500 : Int) < ((bytB l : Nat) : Int)) = false := decide_eq_false (by omega)
  have dK : decide ((30 : Int) < ((ks.length : Nat) : Int)) = false := decide_eq_false (by omega)
  have dF : decide (fl < 0) = false := decide_eq_false hf
  have dM : decide (((l.length : Nat) : Int) < fl) = true := decide_eq_true hm
  clear hn hb hK hf hm
  obtain ⟨a, c, rfl⟩ := texts_len h
  obtain ⟨ka, kc, rfl, _⟩ := hk
  clear h
  generalize bytB l = n at *
  generalize l.length = N at *
  generalize ks.length = K at *
  go_enter Try.func7, Try.ntmps7
  go_wp2_with fail
  refine (SM.out _).mono ?_
  rintro e w1 ⟨rfl, hb1⟩
  have HB1 := Lib.hid hb1
  clear hb1
  go_wp2_with fail
  refine (HBY.out _ HB1.out).mono ?_
  rintro e w2 ⟨rfl, hb2⟩
  have HB2 := Lib.hid (HB1.out.trans (hb2.mono HB1.out.size))
  clear hb2
  go_wp2_with fail
  go_ret
  exact ⟨rfl, HB2.out⟩
end Go.Proofs.Ytdjchpejhfkknaa.walSkips
