/- The examples of the documentation that each law checks first: small returns true. Conditions: none. -/
import Derived.Test.YtdjchpejhfkknaaLBeg
namespace Go.Proofs.Ytdjchpejhfkknaa.Lw
open Go.RowKit Km Dk
open Lm hiding Bs
set_option linter.unusedVariables false
set_option maxRecDepth 100000

def m0 : St := Km.new
def m1 : St := (opn m0 2).2
def m2 : St := wappS m1 2 [97]
def m3 : St := fluS m2 2
def m4 : St := wappS m3 2 [98]
def m5 : St := crashS [] m4
def m6 : St := wappS m5 2 [99]
def m7 : St := startS m6
def m8 : St := (opn m7 2).2
def m9 : St := wrewS m8 2 [[120], []]
def m10 : St := crashS [] m9
def m11 : St := startS m10
def m12 : St := (opn m11 2).2
theorem e1 : (opn m0 ((2 : Nat) : Int)).1 = 0 := by decide +kernel
theorem r1 : val (readB m0 ((2 : Nat) : Int)) = [] := by decide +kernel
theorem e1b : (opn m1 7).1 = 1 := by decide +kernel
theorem e2 : wappE m1 2 [97] = 0 := by decide +kernel
theorem e3 : fluE m2 ((2 : Nat) : Int) = 0 := by decide +kernel
theorem e4 : wappE m3 2 [98] = 0 := by decide +kernel
theorem e6 : wappE m5 2 [99] = 9 := by decide +kernel
theorem e8 : (opn m7 ((2 : Nat) : Int)).1 = 0 := by decide +kernel
theorem r8 : val (readB m7 ((2 : Nat) : Int)) = [[97]] := by decide +kernel
theorem e9 : wrewE m8 2 [[120], []] = 0 := by decide +kernel
theorem e12 : (opn m11 ((2 : Nat) : Int)).1 = 0 := by decide +kernel
theorem r12 : val (readB m11 ((2 : Nat) : Int)) = [[120], []] := by decide +kernel
theorem s1b : (opn m1 7).2 = m1 := by unfold opn; rw [if_pos (by omega)]
/-- Texts that are written out. -/
theorem lit_texts (w : World) (l : List Bs) (hl : l.length ≤ 1000000) (hs : ∀ t ∈ l, t.length ≤ 1000000) : Texts (w.alloc (.cells (sc l).toArray 9)) (.slice (some ⟨w.heap.size, 0, none⟩) l.length l.length) l :=
  ⟨_, _, rfl, by omega, fun t ht => by have := hs t ht; omega, fun _ => ⟨_, _, rfl, by simp, fun j t ht => by
    rw [(Blk.new w 9 (sc l).toArray).cell, Nat.zero_add]
    simp [sc, ht]⟩⟩
theorem Texts.frs {A : Nat → Prop} {w w' : World} {v : Value} {ts : List Bs} (h : Texts w v ts) (hf : Fr A w w') (hv : ∀ b, vblock v = some b → ¬ A b) : Texts w' v ts :=
  Texts.stay h hf.size fun b hb => hf.block b (Texts.lt h hb) (hv b hb)
theorem texts_len {w : World} {v : Value} {ts : List Bs} (h : Texts w v ts) : ∃ a c, v = .slice a ts.length c := by
  obtain ⟨a, c, h, _⟩ := h
  exact ⟨a, c, h⟩
set_option maxHeartbeats 8000000 in
theorem small_any (w : World) : Calls Try.prog 9 #[] w fun e w' => e = .returned (.bool true) ∧ Below w.heap.size w w' := by
  go_enter Try.func9, Try.ntmps9
  go_wp2_with fail
  refine (new_any (A := fun b => w.heap.size ≤ b) (fun b hb => hb)).mono ?_
  rintro e w0 ⟨rfl, hd, hf⟩
  have D0 : Hid (Dsk (fun b => w.heap.size ≤ b) w.heap.size m0 w0) := Lib.hid hd
  have FF := Lib.hid ((Fr.refl (fun b => w.heap.size ≤ b) w).below hf)
  obtain ⟨r, hr⟩ : ∃ r, w.heap.size = r := ⟨_, rfl⟩
  have HRW := Lib.hid hr
  rw [hr] at D0 FF
  clear hd hf
  rw [hr]
  clear hr
  have HA : Hid (∀ b, r ≤ b → r ≤ b) := Lib.hid fun b hb => hb
  go_wp2_with fail
  refine (open_good D0.out 2 e1 (s' := m1) rfl r1).mono ?_
  rintro e w' ⟨p, rfl, hd, hf⟩
  have L1 := Lib.hid hd
  replace FF := Lib.hid (FF.out.trans (hf.mono HA.out))
  clear hd hf
  clear D0
  go_wp2_with fail
  refine (open_arg 7 (by omega)).mono ?_
  rintro e w' ⟨rfl, rfl⟩
  go_wp2_with fail
  refine (open_nil 2).mono ?_
  rintro e w' ⟨rfl, rfl⟩
  go_wp2_with fail
  refine (lgd_len L1.out (by decide) (n := 0) rfl).mono ?_
  rintro e w' ⟨rfl, rfl⟩
  go_wp2_with fail
  refine (lgd_append L1.out [97] (by decide) (by decide) e2 (s' := m2) rfl (rows' := [[97]]) (by unfold wappR; rw [if_pos e2]; rfl)).mono ?_
  rintro e w' ⟨rfl, hd, hf⟩
  have L2 := Lib.hid hd
  replace FF := Lib.hid (FF.out.trans (hf.mono HA.out))
  clear hd hf
  clear L1
  go_wp2_with fail
  refine (lgd_flush L2.out e3 (s' := m3) rfl).mono ?_
  rintro e w' ⟨rfl, hd, hf⟩
  have L3 := Lib.hid hd
  replace FF := Lib.hid (FF.out.trans (hf.mono HA.out))
  clear hd hf
  clear L2
  go_wp2_with fail
  refine (lgd_append L3.out [98] (by decide) (by decide) e4 (s' := m4) rfl (rows' := [[97], [98]]) (by unfold wappR; rw [if_pos e4]; rfl)).mono ?_
  rintro e w' ⟨rfl, hd, hf⟩
  have L4 := Lib.hid hd
  replace FF := Lib.hid (FF.out.trans (hf.mono HA.out))
  clear hd hf
  clear L3
  go_wp2_with fail
  refine (lgd_len L4.out (by decide) (n := 2) rfl).mono ?_
  rintro e w' ⟨rfl, rfl⟩
  go_wp2_with fail
  refine (lgd_crash_nil L4.out (s' := m5) rfl).mono ?_
  rintro e w' ⟨rfl, hd, hf⟩
  have L5 := Lib.hid hd
  replace FF := Lib.hid (FF.out.trans (hf.mono HA.out))
  clear hd hf
  clear L4
  go_wp2_with fail
  refine (lgd_append L5.out [99] (by decide) (by decide) e6 (s' := m6) rfl (rows' := [[97], [98]]) (by unfold wappR; rw [e6, if_neg (by decide)])).mono ?_
  rintro e w' ⟨rfl, hd, hf⟩
  have L6 := Lib.hid hd
  replace FF := Lib.hid (FF.out.trans (hf.mono HA.out))
  clear hd hf
  clear L5
  go_wp2_with fail
  refine (lgd_start L6.out (s' := m7) rfl).mono ?_
  rintro e w' ⟨rfl, hd, hf⟩
  have L7 := Lib.hid hd
  replace FF := Lib.hid (FF.out.trans (hf.mono HA.out))
  clear hd hf
  clear L6
  go_wp2_with fail
  refine (open_good (lgd_dsk L7.out) 2 e8 (s' := m8) rfl r8).mono ?_
  rintro e w' ⟨p2, rfl, hd, hf⟩
  have L8 := Lib.hid hd
  replace FF := Lib.hid (FF.out.trans (hf.mono HA.out))
  clear hd hf
  clear L7
  go_wp2_with fail
  refine (lgd_all L8.out (by decide) (by decide)).mono ?_
  rintro e w' ⟨va, A2, rfl, hA2, hd, ht, hv, hb⟩
  have L9 := Lib.hid hd
  have T1 := Lib.hid ht
  have HV := Lib.hid hv
  have HA2 := Lib.hid hA2
  replace FF := Lib.hid (FF.out.below hb)
  obtain ⟨va1, va2, hva⟩ := texts_len ht
  have HVA := Lib.hid hva
  clear hd ht hv hb hA2 hva L8
  go_wp2_with fail
  have hlit : Texts (w'.alloc (.cells #[.string ⟨#[120]⟩, .string ⟨#[]⟩] 9)) (.slice (some ⟨w'.heap.size, 0, none⟩) 2 2) [[120], []] := lit_texts w' [[120], []] (by decide) (by decide)
  have T1b := Lib.hid (Texts.below T1.out (below_alloc w' (.cells #[.string ⟨#[120]⟩, .string ⟨#[]⟩] 9)))
  replace FF := Lib.hid (FF.out.alloc (.cells #[.string ⟨#[120]⟩, .string ⟨#[]⟩] 9))
  have HV2 : Hid (∀ b, vblock va = some b → ¬ (A2 b ∧ ¬ b = w'.heap.size)) := Lib.hid fun b hb h => (HV.out b hb).1 h.1
  have HA3 : Hid (∀ b, (A2 b ∧ ¬ b = w'.heap.size) → r ≤ b) := Lib.hid fun b hb => HA2.out b hb.1
  refine (lgd_rewrite (L9.out.alloc (.cells #[.string ⟨#[120]⟩, .string ⟨#[]⟩] 9)) (by decide) hlit (fun b hb h => h.2 (by simp [vblock] at hb; exact hb.symm)) (by decide) (by decide +kernel) e9 (s' := m9) rfl (rows' := [[120], []]) (by unfold wrewR; rw [if_pos e9])).mono ?_
  rintro e w3 ⟨rfl, hd, hf⟩
  obtain ⟨A3, hA3⟩ : ∃ A3 : Nat → Prop, (fun b => A2 b ∧ ¬ b = w'.heap.size) = A3 := ⟨_, rfl⟩
  have HA4 : Hid (∀ b, A3 b → r ≤ b) := Lib.hid fun b hb => HA3.out b (by rw [← hA3] at hb; exact hb)
  have HV3 : Hid (∀ b, vblock va = some b → ¬ A3 b) := Lib.hid fun b hb h => HV2.out b hb (by rw [← hA3] at h; exact h)
  rw [hA3] at hd hf
  have L10 := Lib.hid hd
  have T2 := Lib.hid (Texts.frs T1b.out hf HV3.out)
  replace FF := Lib.hid (FF.out.trans (hf.mono HA4.out))
  clear hd hf hA3 HA3 HV2 T1b T1 L9 hlit HV HA2
  go_wp2_with fail
  refine (lgd_crash_nil L10.out (s' := m10) rfl).mono ?_
  rintro e w4 ⟨rfl, hd, hf⟩
  have L11 := Lib.hid hd
  have T3 := Lib.hid (Texts.frs T2.out hf HV3.out)
  replace FF := Lib.hid (FF.out.trans (hf.mono HA4.out))
  clear hd hf L10 T2
  go_wp2_with fail
  refine (lgd_start L11.out (s' := m11) rfl).mono ?_
  rintro e w5 ⟨rfl, hd, hf⟩
  have L12 := Lib.hid hd
  have T4 := Lib.hid (Texts.frs T3.out hf HV3.out)
  replace FF := Lib.hid (FF.out.trans (hf.mono HA4.out))
  clear hd hf L11 T3
  go_wp2_with fail
  refine (open_good (lgd_dsk L12.out) 2 e12 (s' := m12) rfl r12).mono ?_
  rintro e w6 ⟨p3, rfl, hd, hf⟩
  have L13 := Lib.hid hd
  have T5 := Lib.hid (Texts.frs T4.out hf HV3.out)
  replace FF := Lib.hid (FF.out.trans (hf.mono HA4.out))
  clear hd hf L12 T4
  go_wp2_with fail
  have hl1 : Texts (w6.alloc (.cells #[.string ⟨#[97]⟩] 9)) (.slice (some ⟨w6.heap.size, 0, none⟩) 1 1) [[97]] := lit_texts w6 [[97]] (by decide) (by decide)
  refine (same_any (Texts.below T5.out (below_alloc _ _)) hl1 (by decide) (by decide)).mono ?_
  rintro e w7 ⟨rfl, hb7⟩
  rw [show decide (([[97]] : List Bs) = [[97]]) = true by decide]
  have L14 := Lib.hid ((L13.out.below (below_alloc w6 (.cells #[.string ⟨#[97]⟩] 9))).below hb7)
  replace FF := Lib.hid ((FF.out.alloc (.cells #[.string ⟨#[97]⟩] 9)).below hb7)
  clear hl1 hb7 L13 T5
  go_wp2_with fail
  refine (lgd_all L14.out (by decide) (by decide)).mono ?_
  rintro e w8 ⟨vb, A5, rfl, hA5, hd, ht, hv, hb⟩
  have T6 := Lib.hid ht
  replace FF := Lib.hid (FF.out.below hb)
  clear hd ht hv hb hA5 L14
  go_wp2_with fail
  have hl2 : Texts (w8.alloc (.cells #[.string ⟨#[120]⟩, .string ⟨#[]⟩] 9)) (.slice (some ⟨w8.heap.size, 0, none⟩) 2 2) [[120], []] := lit_texts w8 [[120], []] (by decide) (by decide)
  refine (same_any (Texts.below T6.out (below_alloc _ _)) hl2 (by decide) (by decide)).mono ?_
  rintro e w9 ⟨rfl, hb9⟩
  rw [show decide (([[120], []] : List Bs) = [[120], []]) = true by decide]
  replace FF := Lib.hid ((FF.out.alloc (.cells #[.string ⟨#[120]⟩, .string ⟨#[]⟩] 9)).below hb9)
  clear hl2 hb9 T6
  go_wp2_with fail
  go_ret
  refine ⟨rfl, ?_⟩
  rw [HRW.out]
  exact FF.out.to_below (by rw [HRW.out]; exact Nat.le_refl _)
end Go.Proofs.Ytdjchpejhfkknaa.Lw
