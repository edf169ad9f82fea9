/- wal's shorten and replace. Conditions: the disk and the log lie in memory of their own; at most 2^40 bytes. -/
import Derived.Test.YtdjchpejhfkknaaLApp
namespace Go.Proofs.Ytdjchpejhfkknaa.Lw
open Go.RowKit Km Dk
open Lm hiding Bs
set_option linter.unusedVariables false
set_option maxRecDepth 100000

def shE (s : St) (f n : Int) : Int := if ((sizeN s f : Nat) : Int) ≤ n then 0 else cutE s f n
def shS (s : St) (f n : Int) : St := if ((sizeN s f : Nat) : Int) ≤ n then s else cutS s f n
section
variable {A D M : Nat → Prop} {p r f : Nat} {s : St} {rows : List Bs} {w w' : World}
theorem shorten_any (h : Dsk A r s w) (f n : Int) : Calls Try.prog 57 #[.pointer (some ⟨r, 0, none⟩), .int .i64 f, .int .i64 n] w fun e w' => e = .returned (.int .i64 (shE s f n)) ∧ Dsk A r (shS s f n) w' ∧ Fr A w w' := by
  have HZ := Lib.hid (size_dsk h f)
  have HC := Lib.hid (cut_dsk h f n)
  by_cases hz : ((sizeN s f : Nat) : Int) ≤ n
  · have e1 : shE s f n = 0 := by unfold shE; rw [if_pos hz]
    have e2 : shS s f n = s := by unfold shS; rw [if_pos hz]
    rw [e1, e2]
    have dz : decide (((sizeN s f : Nat) : Int) ≤ n) = true := decide_eq_true hz
    have HD := Lib.hid h
    clear h e1 e2 hz
    generalize sizeN s f = Z at *
    go_enter Try.func57, Try.ntmps57
    go_wp2_with fail
    refine HZ.out.mono ?_
    rintro e w1 ⟨rfl, rfl⟩
    go_wp2_with fail
    go_ret
    exact ⟨rfl, HD.out, Fr.refl _ _⟩
  · have e1 : shE s f n = cutE s f n := by unfold shE; rw [if_neg hz]
    have e2 : shS s f n = cutS s f n := by unfold shS; rw [if_neg hz]
    rw [e1, e2]
    have dz : decide (((sizeN s f : Nat) : Int) ≤ n) = false := decide_eq_false hz
    have HD := Lib.hid h
    clear h e1 e2 hz
    generalize sizeN s f = Z at *
    generalize cutE s f n = E at *
    generalize cutS s f n = S' at *
    go_enter Try.func57, Try.ntmps57
    go_wp2_with fail
    refine HZ.out.mono ?_
    rintro e w1 ⟨rfl, rfl⟩
    go_wp2_with fail
    refine HC.out.mono ?_
    rintro e w1 ⟨rfl, h1, h2⟩
    go_wp2_with fail
    go_ret
    exact ⟨rfl, h1, h2⟩
theorem shorten_at {s' : St} (h : Dsk A r s w) (f n x : Int) (he : shE s f n = x) (hs : shS s f n = s') : Calls Try.prog 57 #[.pointer (some ⟨r, 0, none⟩), .int .i64 f, .int .i64 n] w fun e w' => e = .returned (.int .i64 x) ∧ Dsk A r s' w' ∧ Fr A w w' := by
  subst he hs
  exact shorten_any h f n
def rep (s : St) (f : Nat) (b : Bs) : Int × St :=
  if shE s ((f : Int) + 1) 0 ≠ 0 then (shE s ((f : Int) + 1) 0, shS s ((f : Int) + 1) 0) else
  if appE (shS s ((f : Int) + 1) 0) ((f : Int) + 1) b ≠ 0 then (appE (shS s ((f : Int) + 1) 0) ((f : Int) + 1) b, appS (shS s ((f : Int) + 1) 0) ((f : Int) + 1) b) else
  if fluE (appS (shS s ((f : Int) + 1) 0) ((f : Int) + 1) b) ((f : Int) + 1) ≠ 0 then (fluE (appS (shS s ((f : Int) + 1) 0) ((f : Int) + 1) b) ((f : Int) + 1), fluS (appS (shS s ((f : Int) + 1) 0) ((f : Int) + 1) b) ((f : Int) + 1)) else
  (turE (fluS (appS (shS s ((f : Int) + 1) 0) ((f : Int) + 1) b) ((f : Int) + 1)) (f : Int) ((f : Int) + 1), turS (fluS (appS (shS s ((f : Int) + 1) 0) ((f : Int) + 1) b) ((f : Int) + 1)) (f : Int) ((f : Int) + 1))
theorem LogM.cells (h : LogM M p r f rows w) : w.cell? ⟨p, 0, none⟩ = some (.pointer (some ⟨r, 0, none⟩)) ∧ w.cell? ⟨p, 1, none⟩ = some (.int .i64 ((f : Nat) : Int)) := ⟨h.c0, h.c1⟩
set_option maxHeartbeats 2000000 in
theorem replace_any (h : LD D M r p f s rows w) (hf6 : f ≤ 6) (b : Bs) (hb : b.length ≤ 1000000000) : Calls Try.prog 64 #[.pointer (some ⟨p, 0, none⟩), .string (sv b)] w fun e w' => e = .returned (.int .i64 (rep s f b).1) ∧ LD D M r p f (rep s f b).2 rows w' ∧ Fr D w w' := by
  have c0 := h.log.c0
  have c1 := h.log.c1
  have wg : wrap64 (((f : Nat) : Int) + 1) = ((f : Nat) : Int) + 1 := by unfold wrap64; omega
  have HL := Lib.hid h
  have HB := Lib.hid hb
  have HREP := Lib.hid (show rep s f b = _ from rfl)
  obtain ⟨P, hP⟩ : ∃ P, rep s f b = P := ⟨_, rfl⟩
  rw [hP]
  unfold rep at hP
  obtain ⟨g, hg⟩ : ∃ g : Int, ((f : Nat) : Int) + 1 = g := ⟨_, rfl⟩
  rw [hg] at hP wg
  obtain ⟨e1, he1⟩ : ∃ x, shE s g 0 = x := ⟨_, rfl⟩
  obtain ⟨s1, hs1⟩ : ∃ x, shS s g 0 = x := ⟨_, rfl⟩
  rw [he1, hs1] at hP
  obtain ⟨e2, he2⟩ : ∃ x, appE s1 g b = x := ⟨_, rfl⟩
  obtain ⟨s2, hs2⟩ : ∃ x, appS s1 g b = x := ⟨_, rfl⟩
  rw [he2, hs2] at hP
  obtain ⟨e3, he3⟩ : ∃ x, fluE s2 g = x := ⟨_, rfl⟩
  obtain ⟨s3, hs3⟩ : ∃ x, fluS s2 g = x := ⟨_, rfl⟩
  rw [he3, hs3] at hP
  obtain ⟨e4, he4⟩ : ∃ x, turE s3 (f : Int) g = x := ⟨_, rfl⟩
  obtain ⟨s4, hs4⟩ : ∃ x, turS s3 (f : Int) g = x := ⟨_, rfl⟩
  rw [he4, hs4] at hP
  have HC1 := Lib.hid (shorten_at h.dsk g 0 e1 he1 hs1)
  have HC2 := Lib.hid (fun W (hW : Dsk D r s1 W) => append_at hW g b e2 he2 hs2 (by omega))
  have HC3 := Lib.hid (fun W (hW : Dsk D r s2 W) => flush_at hW g e3 he3 hs3)
  have HC4 := Lib.hid (fun W (hW : Dsk D r s3 W) => turn_at hW (f : Int) g e4 he4 hs4)
  have HP := Lib.hid hP
  clear h hP hb HREP he1 he2 he3 he4 hs1 hs2 hs3 hs4 HB
  generalize sv b = B at *
  by_cases h1 : ¬ e1 = 0
  · have d1 : (e1 != 0) = true := by simpa using h1
    have hp := HP.out
    rw [if_pos h1] at hp
    subst hp
    clear h1 HP
    go_enter Try.func64, Try.ntmps64
    go_wp2_with fail
    refine HC1.out.mono ?_
    rintro e w1 ⟨rfl, k1, k2⟩
    go_wp2_with fail
    go_ret
    exact ⟨rfl, HL.out.disk k1 k2, k2⟩
  have h1 : e1 = 0 := Decidable.not_not.1 h1
  have hp := HP.out
  rw [if_neg (fun h => h h1)] at hp
  clear HP
  have HP := Lib.hid hp
  clear hp
  subst h1
  by_cases h2 : ¬ e2 = 0
  · have d2 : (e2 != 0) = true := by simpa using h2
    have hp := HP.out
    rw [if_pos h2] at hp
    subst hp
    clear h2 HP
    go_enter Try.func64, Try.ntmps64
    go_wp2_with fail
    refine HC1.out.mono ?_
    rintro e w1 ⟨rfl, k1, k2⟩
    have hl1 := HL.out.disk k1 k2
    have z0 := hl1.log.c0
    have K1 := Lib.hid k1
    have K2 := Lib.hid k2
    clear k1 k2 hl1
    go_wp2_with fail
    refine (HC2.out _ K1.out).mono ?_
    rintro e w2 ⟨rfl, k1, k2⟩
    go_wp2_with fail
    go_ret
    exact ⟨rfl, HL.out.disk k1 (K2.out.trans k2), K2.out.trans k2⟩
  have h2 : e2 = 0 := Decidable.not_not.1 h2
  have hp := HP.out
  rw [if_neg (fun h => h h2)] at hp
  clear HP
  have HP := Lib.hid hp
  clear hp
  subst h2
  by_cases h3 : ¬ e3 = 0
  · have d3 : (e3 != 0) = true := by simpa using h3
    have hp := HP.out
    rw [if_pos h3] at hp
    subst hp
    clear h3 HP
    go_enter Try.func64, Try.ntmps64
    go_wp2_with fail
    refine HC1.out.mono ?_
    rintro e w1 ⟨rfl, k1, k2⟩
    have hl1 := HL.out.disk k1 k2
    have z0 := hl1.log.c0
    have K1 := Lib.hid k1
    have K2 := Lib.hid k2
    clear k1 k2 hl1
    go_wp2_with fail
    refine (HC2.out _ K1.out).mono ?_
    rintro e w2 ⟨rfl, k1, k2⟩
    have hl1 := HL.out.disk k1 (K2.out.trans k2)
    have y0 := hl1.log.c0
    have J1 := Lib.hid k1
    have J2 := Lib.hid (K2.out.trans k2)
    clear k1 k2 hl1
    go_wp2_with fail
    refine (HC3.out _ J1.out).mono ?_
    rintro e w3 ⟨rfl, k1, k2⟩
    go_wp2_with fail
    go_ret
    exact ⟨rfl, HL.out.disk k1 (J2.out.trans k2), J2.out.trans k2⟩
  have h3 : e3 = 0 := Decidable.not_not.1 h3
  have hp := HP.out
  rw [if_neg (fun h => h h3)] at hp
  subst hp
  subst h3
  clear HP
  go_enter Try.func64, Try.ntmps64
  go_wp2_with fail
  refine HC1.out.mono ?_
  rintro e w1 ⟨rfl, k1, k2⟩
  have hl1 := HL.out.disk k1 k2
  have z0 := hl1.log.c0
  have K1 := Lib.hid k1
  have K2 := Lib.hid k2
  clear k1 k2 hl1
  go_wp2_with fail
  refine (HC2.out _ K1.out).mono ?_
  rintro e w2 ⟨rfl, k1, k2⟩
  have hl1 := HL.out.disk k1 (K2.out.trans k2)
  have y0 := hl1.log.c0
  have J1 := Lib.hid k1
  have J2 := Lib.hid (K2.out.trans k2)
  clear k1 k2 hl1
  go_wp2_with fail
  refine (HC3.out _ J1.out).mono ?_
  rintro e w3 ⟨rfl, k1, k2⟩
  have hl1 := HL.out.disk k1 (J2.out.trans k2)
  have x0 := hl1.log.c0
  have x1 := hl1.log.c1
  have G1 := Lib.hid (k1.below (Below.refl _ _).drew)
  have G2 := Lib.hid (((J2.out.trans k2)).drew)
  clear k1 k2 hl1
  go_wp2_with fail
  go_region_with ((go_at_call 85; refine (HC4.out _ G1.out).mono ?_; rintro e w4 ⟨rfl, k1, k2⟩))
  all_goals (
    go_wp2_with fail
    go_ret
    exact ⟨rfl, HL.out.disk k1 (G2.out.trans k2), G2.out.trans k2⟩)
end
end Go.Proofs.Ytdjchpejhfkknaa.Lw
