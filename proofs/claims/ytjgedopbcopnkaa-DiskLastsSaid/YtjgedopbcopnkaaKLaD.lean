/- The acts of DiskLasts: pick, do, begins, torn. Conditions: the disk lies in memory of its own; what an act keeps lies elsewhere. -/
import Derived.Test.YtjgedopbcopnkaaKStr
import Derived.Test.YtjgedopbcopnkaaKLaF
namespace Go.Proofs.Ytjgedopbcopnkaa.Dk
open Go.RowKit Km
set_option linter.unusedVariables false

theorem tmod11 (d : Int) : (d.tmod 11 < 0 → ((pick d : Nat) : Int) = d.tmod 11 + 11 ∧ -11 < d.tmod 11) ∧ (¬ d.tmod 11 < 0 → ((pick d : Nat) : Int) = d.tmod 11 ∧ d.tmod 11 < 11) := by
  unfold pick
  by_cases h : 0 ≤ d
  · rw [Int.tmod_eq_emod_of_nonneg h]
    omega
  · obtain ⟨e, rfl⟩ : ∃ e, d = -e := ⟨-d, by omega⟩
    rw [Int.neg_tmod, Int.tmod_eq_emod_of_nonneg (by omega)]
    omega
theorem pick_any (d : Int) (hd : J64 d) (w : World) : Calls Try.prog 12 #[.int .i64 d] w fun e w' => e = .returned (.int .i64 ((pick d : Nat) : Int)) ∧ w = w' := by
  obtain ⟨h1, h2⟩ := hd
  by_cases h : d.tmod 11 < 0
  · have d0 : decide (d.tmod 11 < 0) = true := decide_eq_true h
    obtain ⟨hr, hb⟩ := (tmod11 d).1 h
    have HR := Lib.hid hr
    clear hr h1 h2
    generalize hm : d.tmod 11 = m at *
    go_enter Try.func12, Try.ntmps12
    go_wp2
    go_ret
    exact ⟨ret_i (by rw [HR.out]), rfl⟩
  · have d0 : decide (d.tmod 11 < 0) = false := decide_eq_false h
    obtain ⟨hr, hb⟩ := (tmod11 d).2 h
    have HR := Lib.hid hr
    clear hr h1 h2
    generalize hm : d.tmod 11 = m at *
    go_enter Try.func12, Try.ntmps12
    go_wp2
    go_ret
    exact ⟨ret_i (by rw [HR.out]), rfl⟩
theorem begins_any (s t : Bs) (w : World) : Calls Try.prog 15 #[.string (sv s), .string (sv t)] w fun e w' => e = .returned (.bool (begB s t)) ∧ w = w' := by
  by_cases h : t.length ≤ s.length
  · have hsl := fun W => slice_to s t.length h W
    have hr : begB s t = decide (s.take t.length = t) := by unfold begB; rw [decide_eq_true h]; rfl
    have hz : (sv t).size = t.length := rfl
    have hz2 : (sv s).size = s.length := rfl
    have hq : ((sv (s.take t.length)).toList == (sv t).toList) = decide (s.take t.length = t) := by rw [sv_toList, sv_toList]; by_cases e : s.take t.length = t <;> simp [e]
    have hrq : begB s t = ((sv (s.take t.length)).toList == (sv t).toList) := hr.trans hq.symm
    have HRQ := Lib.hid hrq
    rw [← hz] at hsl HRQ
    have hle : ((sv t).size : Nat) ≤ (sv s).size := by rw [hz, hz2]; exact h
    clear hr hq hrq h hz hz2
    generalize sv (s.take (sv t).size) = U at *
    generalize sv s = S at *
    generalize sv t = T at *
    go_enter Try.func15, Try.ntmps15
    go_wp2
    go_ret
    exact ⟨ret_b HRQ.out.symm, rfl⟩
  · have hr : begB s t = false := by unfold begB; rw [decide_eq_false h]; rfl
    have HR := Lib.hid hr
    have hlt : (sv s).size < (sv t).size := by rw [sv_size, sv_size]; omega
    clear hr h
    generalize sv s = S at *
    generalize sv t = T at *
    go_enter Try.func15, Try.ntmps15
    go_wp2
    go_ret
    exact ⟨ret_b HR.out.symm, rfl⟩
/-- The cells of an act. -/
def actC (a : Ac) (kv : Value) : Array Value := #[.int .i64 a.d, .int .i64 a.f, .int .i64 a.g, .int .i64 a.n, .string (sv a.s), kv]
section
variable {A : Nat → Prop} {r : Nat} {s : St} {w : World}
set_option maxHeartbeats 4000000 in
theorem do_any (h : Dsk A r s w) (a : Ac) (hd : J64 a.d) (hn : J64 a.n) (hj : ∀ z ∈ a.k, J64 z) (hl : a.k.length ≤ 17592186044416) (hs : a.s.length ≤ 1099511627776) {kv : Value} (hv : Ints w kv a.k) (hvb : ∀ b, vblock kv = some b → ¬ A b) :
    Calls Try.prog 11 #[.pointer (some ⟨r, 0, none⟩), .agg (actC a kv)] w fun e w' => e = .returned (.tuple #[.string (sv (doB s a)), .int .i64 (doE s a)]) ∧ Dsk A r (doS s a) w' ∧ Fr A w w' := by
  obtain ⟨d, f, g, n, t, ks⟩ := a
  simp only at hd hn hj hl hs hv
  have hpk := fun W => pick_any d hd W
  have hp := pick_lt d
  have HPK := Lib.hid hpk
  obtain ⟨ka, kc, rfl, hkv⟩ := hv
  have HV : Hid (Ints w (.slice ka ks.length kc) ks) := Lib.hid ⟨ka, kc, rfl, hkv⟩
  have HVB := Lib.hid hvb
  have HJ := Lib.hid hj
  have HD := Lib.hid h
  have HS := Lib.hid hs
  have HL := Lib.hid hl
  have HN := Lib.hid hn
  clear hkv hvb hj h hs hl hn hd hpk
  unfold doS doE doB
  simp only [actC]
  generalize pick d = p at *
  have hc : p = 0 ∨ p = 1 ∨ p = 2 ∨ p = 3 ∨ p = 4 ∨ p = 5 ∨ p = 6 ∨ p = 7 ∨ p = 8 ∨ p = 9 ∨ p = 10 := by omega
  clear hp
  rcases hc with rfl | rfl | rfl | rfl | rfl | rfl | rfl | rfl | rfl | rfl | rfl
  · go_enter Try.func11, Try.ntmps11
    go_wp2_with fail
    refine (HPK.out _).mono ?_
    rintro e w1 ⟨rfl, hw1⟩
    have hd1 := HD.out.alloc (.cells #[.int .i64 d, .int .i64 f, .int .i64 g, .int .i64 n, .string (sv t), .slice ka ks.length kc] 30)
    have hf1 := (Fr.refl A w).alloc (.cells #[.int .i64 d, .int .i64 f, .int .i64 g, .int .i64 n, .string (sv t), .slice ka ks.length kc] 30)
    have HD1 := Lib.hid hd1
    have HF1 := Lib.hid hf1
    subst hw1
    clear hd1 hf1
    go_wp2_with fail
    refine (append_dsk HD1.out f t HS.out).mono ?_
    rintro e w2 ⟨rfl, hd2, hf2⟩
    have HD2 := Lib.hid hd2
    have HF2 := Lib.hid (HF1.out.trans hf2)
    clear hd2 hf2
    go_wp2_with fail
    go_ret2
    exact ⟨rfl, HD2.out, HF2.out⟩
  · go_enter Try.func11, Try.ntmps11
    go_wp2_with fail
    refine (HPK.out _).mono ?_
    rintro e w1 ⟨rfl, hw1⟩
    have hd1 := HD.out.alloc (.cells #[.int .i64 d, .int .i64 f, .int .i64 g, .int .i64 n, .string (sv t), .slice ka ks.length kc] 30)
    have hf1 := (Fr.refl A w).alloc (.cells #[.int .i64 d, .int .i64 f, .int .i64 g, .int .i64 n, .string (sv t), .slice ka ks.length kc] 30)
    have HD1 := Lib.hid hd1
    have HF1 := Lib.hid hf1
    subst hw1
    clear hd1 hf1
    go_wp2_with fail
    refine (append_dsk HD1.out f t HS.out).mono ?_
    rintro e w2 ⟨rfl, hd2, hf2⟩
    have HD2 := Lib.hid hd2
    have HF2 := Lib.hid (HF1.out.trans hf2)
    clear hd2 hf2
    go_wp2_with fail
    go_ret2
    exact ⟨rfl, HD2.out, HF2.out⟩
  · go_enter Try.func11, Try.ntmps11
    go_wp2_with fail
    refine (HPK.out _).mono ?_
    rintro e w1 ⟨rfl, hw1⟩
    have hd1 := HD.out.alloc (.cells #[.int .i64 d, .int .i64 f, .int .i64 g, .int .i64 n, .string (sv t), .slice ka ks.length kc] 30)
    have hf1 := (Fr.refl A w).alloc (.cells #[.int .i64 d, .int .i64 f, .int .i64 g, .int .i64 n, .string (sv t), .slice ka ks.length kc] 30)
    have HD1 := Lib.hid hd1
    have HF1 := Lib.hid hf1
    subst hw1
    clear hd1 hf1
    go_wp2_with fail
    refine (flush_dsk HD1.out f).mono ?_
    rintro e w2 ⟨rfl, hd2, hf2⟩
    have HD2 := Lib.hid hd2
    have HF2 := Lib.hid (HF1.out.trans hf2)
    clear hd2 hf2
    go_wp2_with fail
    go_ret2
    exact ⟨rfl, HD2.out, HF2.out⟩
  · go_enter Try.func11, Try.ntmps11
    go_wp2_with fail
    refine (HPK.out _).mono ?_
    rintro e w1 ⟨rfl, hw1⟩
    have hd1 := HD.out.alloc (.cells #[.int .i64 d, .int .i64 f, .int .i64 g, .int .i64 n, .string (sv t), .slice ka ks.length kc] 30)
    have hf1 := (Fr.refl A w).alloc (.cells #[.int .i64 d, .int .i64 f, .int .i64 g, .int .i64 n, .string (sv t), .slice ka ks.length kc] 30)
    have HD1 := Lib.hid hd1
    have HF1 := Lib.hid hf1
    subst hw1
    clear hd1 hf1
    go_wp2_with fail
    refine (cut_dsk HD1.out f n).mono ?_
    rintro e w2 ⟨rfl, hd2, hf2⟩
    have HD2 := Lib.hid hd2
    have HF2 := Lib.hid (HF1.out.trans hf2)
    clear hd2 hf2
    go_wp2_with fail
    go_ret2
    exact ⟨rfl, HD2.out, HF2.out⟩
  · go_enter Try.func11, Try.ntmps11
    go_wp2_with fail
    refine (HPK.out _).mono ?_
    rintro e w1 ⟨rfl, hw1⟩
    have hd1 := HD.out.alloc (.cells #[.int .i64 d, .int .i64 f, .int .i64 g, .int .i64 n, .string (sv t), .slice ka ks.length kc] 30)
    have hf1 := (Fr.refl A w).alloc (.cells #[.int .i64 d, .int .i64 f, .int .i64 g, .int .i64 n, .string (sv t), .slice ka ks.length kc] 30)
    have HD1 := Lib.hid hd1
    have HF1 := Lib.hid hf1
    subst hw1
    clear hd1 hf1
    go_wp2_with fail
    refine (turn_dsk HD1.out f g).mono ?_
    rintro e w2 ⟨rfl, hd2, hf2⟩
    have HD2 := Lib.hid hd2
    have HF2 := Lib.hid (HF1.out.trans hf2)
    clear hd2 hf2
    go_wp2_with fail
    go_ret2
    exact ⟨rfl, HD2.out, HF2.out⟩
  · go_enter Try.func11, Try.ntmps11
    go_wp2_with fail
    refine (HPK.out _).mono ?_
    rintro e w1 ⟨rfl, hw1⟩
    have hd1 := HD.out.alloc (.cells #[.int .i64 d, .int .i64 f, .int .i64 g, .int .i64 n, .string (sv t), .slice ka ks.length kc] 30)
    have hf1 := (Fr.refl A w).alloc (.cells #[.int .i64 d, .int .i64 f, .int .i64 g, .int .i64 n, .string (sv t), .slice ka ks.length kc] 30)
    have HD1 := Lib.hid hd1
    have HF1 := Lib.hid hf1
    subst hw1
    clear hd1 hf1
    go_wp2_with fail
    refine (crash_dsk HD1.out (HV.out.below (below_alloc _ _)) HJ.out HVB.out).mono ?_
    rintro e w2 ⟨rfl, hd2, hf2⟩
    have HD2 := Lib.hid hd2
    have HF2 := Lib.hid (HF1.out.trans hf2)
    clear hd2 hf2
    go_wp2_with fail
    go_ret2
    exact ⟨rfl, HD2.out, HF2.out⟩
  · go_enter Try.func11, Try.ntmps11
    go_wp2_with fail
    refine (HPK.out _).mono ?_
    rintro e w1 ⟨rfl, hw1⟩
    have hd1 := HD.out.alloc (.cells #[.int .i64 d, .int .i64 f, .int .i64 g, .int .i64 n, .string (sv t), .slice ka ks.length kc] 30)
    have hf1 := (Fr.refl A w).alloc (.cells #[.int .i64 d, .int .i64 f, .int .i64 g, .int .i64 n, .string (sv t), .slice ka ks.length kc] 30)
    have HD1 := Lib.hid hd1
    have HF1 := Lib.hid hf1
    subst hw1
    clear hd1 hf1
    go_wp2_with fail
    refine (lose_dsk HD1.out n HN.out).mono ?_
    rintro e w2 ⟨rfl, hd2, hf2⟩
    have HD2 := Lib.hid hd2
    have HF2 := Lib.hid (HF1.out.trans hf2)
    clear hd2 hf2
    go_wp2_with fail
    go_ret2
    exact ⟨rfl, HD2.out, HF2.out⟩
  · go_enter Try.func11, Try.ntmps11
    go_wp2_with fail
    refine (HPK.out _).mono ?_
    rintro e w1 ⟨rfl, hw1⟩
    have hd1 := HD.out.alloc (.cells #[.int .i64 d, .int .i64 f, .int .i64 g, .int .i64 n, .string (sv t), .slice ka ks.length kc] 30)
    have hf1 := (Fr.refl A w).alloc (.cells #[.int .i64 d, .int .i64 f, .int .i64 g, .int .i64 n, .string (sv t), .slice ka ks.length kc] 30)
    have HD1 := Lib.hid hd1
    have HF1 := Lib.hid hf1
    subst hw1
    clear hd1 hf1
    go_wp2_with fail
    refine (start_dsk HD1.out).mono ?_
    rintro e w2 ⟨rfl, hd2, hf2⟩
    have HD2 := Lib.hid hd2
    have HF2 := Lib.hid (HF1.out.trans hf2)
    clear hd2 hf2
    go_wp2_with fail
    go_ret2
    exact ⟨rfl, HD2.out, HF2.out⟩
  · go_enter Try.func11, Try.ntmps11
    go_wp2_with fail
    refine (HPK.out _).mono ?_
    rintro e w1 ⟨rfl, hw1⟩
    have hd1 := HD.out.alloc (.cells #[.int .i64 d, .int .i64 f, .int .i64 g, .int .i64 n, .string (sv t), .slice ka ks.length kc] 30)
    have hf1 := (Fr.refl A w).alloc (.cells #[.int .i64 d, .int .i64 f, .int .i64 g, .int .i64 n, .string (sv t), .slice ka ks.length kc] 30)
    have HD1 := Lib.hid hd1
    have HF1 := Lib.hid hf1
    subst hw1
    clear hd1 hf1
    go_wp2_with fail
    refine (read_dsk HD1.out f).mono ?_
    rintro e w2 ⟨rfl, hb2⟩
    have HD2 := Lib.hid (HD1.out.below hb2)
    have HF2 := Lib.hid (HF1.out.below hb2)
    clear hb2
    go_wp2_with fail
    go_ret2
    exact ⟨rfl, HD2.out, HF2.out⟩
  · go_enter Try.func11, Try.ntmps11
    go_wp2_with fail
    refine (HPK.out _).mono ?_
    rintro e w1 ⟨rfl, hw1⟩
    have hd1 := HD.out.alloc (.cells #[.int .i64 d, .int .i64 f, .int .i64 g, .int .i64 n, .string (sv t), .slice ka ks.length kc] 30)
    have hf1 := (Fr.refl A w).alloc (.cells #[.int .i64 d, .int .i64 f, .int .i64 g, .int .i64 n, .string (sv t), .slice ka ks.length kc] 30)
    have HD1 := Lib.hid hd1
    have HF1 := Lib.hid hf1
    subst hw1
    clear hd1 hf1
    go_wp2_with fail
    go_ret2
    exact ⟨rfl, HD1.out, HF1.out⟩
  · go_enter Try.func11, Try.ntmps11
    go_wp2_with fail
    refine (HPK.out _).mono ?_
    rintro e w1 ⟨rfl, hw1⟩
    have hd1 := HD.out.alloc (.cells #[.int .i64 d, .int .i64 f, .int .i64 g, .int .i64 n, .string (sv t), .slice ka ks.length kc] 30)
    have hf1 := (Fr.refl A w).alloc (.cells #[.int .i64 d, .int .i64 f, .int .i64 g, .int .i64 n, .string (sv t), .slice ka ks.length kc] 30)
    have HD1 := Lib.hid hd1
    have HF1 := Lib.hid hf1
    subst hw1
    clear hd1 hf1
    go_wp2_with fail
    refine (arm_dsk HD1.out HN.out HL.out HJ.out (HV.out.below (below_alloc _ _)) HVB.out).mono ?_
    rintro e w2 ⟨rfl, hd2, hf2⟩
    have HD2 := Lib.hid hd2
    have HF2 := Lib.hid (HF1.out.trans hf2)
    clear hd2 hf2
    go_wp2_with fail
    go_ret2
    exact ⟨rfl, HD2.out, HF2.out⟩
end
end Go.Proofs.Ytjgedopbcopnkaa.Dk
