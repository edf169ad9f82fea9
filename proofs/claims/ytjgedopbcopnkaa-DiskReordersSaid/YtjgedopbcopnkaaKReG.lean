/- The statement DiskReorders: the walk where the texts are within their bounds. Conditions: those of the theorem. -/
import Derived.Test.YtjgedopbcopnkaaKReB
import Derived.Test.YtjgedopbcopnkaaKStr
namespace Go.Proofs.Ytjgedopbcopnkaa.diskReorders
open Go.RowKit Km Dk
set_option linter.unusedVariables false

theorem ints_cell {W : World} {b o n c : Nat} {l : List Int} (h : Ints W (.slice (some ⟨b, o, none⟩) n c) l) (j : Nat) (z : Int) (hz : l[j]? = some z) : W.cell? ⟨b, o + j, none⟩ = some (.int .i64 z) := by
  have hl := (List.getElem?_eq_some_iff.1 hz).1
  obtain ⟨a, c', e, hc⟩ := h
  obtain ⟨b', o', e2, _, hcell⟩ := hc (by omega)
  injection e with e e3 e4
  rw [e2] at e
  injection e with e
  injection e with e5 e6
  subst e5 e6
  exact hcell j z hz
theorem max0 (k : Int) : (if k < 0 then (0 : Int) else k) = max k 0 := by split <;> omega
theorem minN (n : Nat) (k : Int) : (if ((n : Nat) : Int) < max k 0 then ((n : Nat) : Int) else max k 0) = ((min (max k 0).toNat n : Nat) : Int) := by split <;> omega
section
variable {w : World} {a b c : Bs} {k0 k1 k2 : Int} {vb vo vc : Nat}
theorem cr1 (a b c : Bs) : Idl (r1 a) := pushS_calm new_calm _ _
theorem cr2 (a c : Bs) : Idl (r2 a c) := pushS_calm (pushS_calm new_calm _ _) _ _
theorem fr26 (a : Bs) : (r1 a).F 6 = [] := pushS_other _ _ _ _ (by decide)
theorem fr35 (a c : Bs) : (r2 a c).F 5 = a := (pushS_other _ _ _ _ (by decide)).trans ((pushS_F _ _ _).trans (List.nil_append _))
/-- The state behind the two crashes. -/
def e1 (a b c : Bs) (ks : List Int) : St := startS (crashS ks (r3 a b c))
def e2 (a b c : Bs) (ks : List Int) : St := startS (crashS [] (e1 a b c ks))
theorem e2_file {a b c : Bs} {ks : List Int} (hw : Wf (r3 a b c)) (hu : (r3 a b c).down = false) {f : Nat} (hf : f < 8) : readE (e2 a b c ks) (f : Int) = 0 ∧ readB (e2 a b c ks) (f : Int) = (crashS ks (r3 a b c)).F f := by
  obtain ⟨h1, h2⟩ := read_up (s := e2 a b c ks) rfl hf
  refine ⟨h1, h2.trans ?_⟩
  have hw1 : Wf (e1 a b c ks) := wf_start (wf_crash hw ks)
  exact crash_full hw1 [] hf (crash_all hw ks hu hf)

set_option maxHeartbeats 4000000 in
theorem good (ha : a ≠ []) (hb : b ≠ []) (hc : c ≠ []) (hs : a.length + b.length + c.length ≤ 60000) (hv : Ints w (.slice (some ⟨vb, vo, none⟩) 3 vc) [k0, k1, k2]) (hj : ∀ z ∈ [k0, k1, k2], J64 z) (hvb : vb < w.heap.size) :
    Calls Try.prog 6 #[.string (sv a), .string (sv b), .string (sv c), .slice (some ⟨vb, vo, none⟩) 3 vc] w (IsTrue w) := by
  have SM := Lib.hid (fun W => small_any W)
  have tA : ((sv a).toList == []) = false := by rw [sv_toList]; cases a <;> simp_all
  have tB : ((sv b).toList == []) = false := by rw [sv_toList]; cases b <;> simp_all
  have tC : ((sv c).toList == []) = false := by rw [sv_toList]; cases c <;> simp_all
  have la : a.length ≤ 60000 := by omega
  have lb : b.length ≤ 60000 := by omega
  have lc : c.length ≤ 60000 := by omega
  have tS : decide ((60000 : Int) < (((sv a).size : Nat) : Int) + (((sv b).size : Nat) : Int) + (((sv c).size : Nat) : Int)) = false := decide_eq_false (by rw [sv_size, sv_size, sv_size]; omega)
  have hw2 := sum2 (sv a).size (sv b).size (by rw [sv_size]; omega) (by rw [sv_size]; omega)
  have hw3 := sum3 (sv a).size (sv b).size (sv c).size (by rw [sv_size]; omega) (by rw [sv_size]; omega) (by rw [sv_size]; omega)
  have HV := Lib.hid hv
  have HVB := Lib.hid hvb
  have HJ := Lib.hid hj
  have HA := Lib.hid ha
  have HB := Lib.hid hb
  have HC := Lib.hid hc
  have HS := Lib.hid hs
  clear hv hvb hj ha hb hc
  go_enter Try.func6, Try.ntmps6
  go_wp2_with fail
  refine (SM.out _).mono ?_
  rintro e w1 ⟨rfl, hb1⟩
  have HB1 := Lib.hid hb1
  clear hb1
  go_wp2_with fail
  refine (new_any (A := fun b => w.heap.size ≤ b) (fun b hb => by have := HB1.out.size; omega)).mono ?_
  rintro e w2 ⟨rfl, hd, hf⟩
  have D := Lib.hid hd
  have FF := Lib.hid (((Fr.refl (fun b => w.heap.size ≤ b) w).below HB1.out).below hf)
  clear hd hf
  go_wp2_with fail
  refine (append_at D.out ((5 : Nat) : Int) a 0 (app_calm new_calm (by decide) (by show 0 + a.length ≤ _; omega)).1 (s' := r1 a) (app_calm new_calm (by decide) (by show 0 + a.length ≤ _; omega)).2 (by omega)).mono ?_
  rintro e w9 ⟨rfl, hd, hf⟩
  replace D := Lib.hid hd
  replace FF := Lib.hid (FF.out.trans hf)
  clear hd hf
  go_wp2_with fail
  refine (append_at D.out ((6 : Nat) : Int) c 0 (app_calm (cr1 a b c) (by decide) (by rw [fr26]; show 0 + c.length ≤ _; omega)).1 (s' := r2 a c) (app_calm (cr1 a b c) (by decide) (by rw [fr26]; show 0 + c.length ≤ _; omega)).2 (by omega)).mono ?_
  rintro e w9 ⟨rfl, hd, hf⟩
  replace D := Lib.hid hd
  replace FF := Lib.hid (FF.out.trans hf)
  clear hd hf
  go_wp2_with fail
  refine (append_at D.out ((5 : Nat) : Int) b 0 (app_calm (cr2 a c) (by decide) (by rw [fr35]; omega)).1 (s' := r3 a b c) (app_calm (cr2 a c) (by decide) (by rw [fr35]; omega)).2 (by omega)).mono ?_
  rintro e w9 ⟨rfl, hd, hf⟩
  replace D := Lib.hid hd
  replace FF := Lib.hid (FF.out.trans hf)
  clear hd hf
  go_wp2_with fail
  have HW := Lib.hid D.out.1
  have hup : (r3 a b c).down = false := by rw [r3_eq HA.out HB.out HC.out]
  have HUP := Lib.hid hup
  clear hup
  refine (crash_at D.out (HV.out.fr FF.out (fun b hb hn => by have := HVB.out; simp [vblock] at hb; omega)) HJ.out (fun b hb hn => by have := HVB.out; simp [vblock] at hb; omega) (s' := crashS [k0, k1, k2] (r3 a b c)) rfl).mono ?_
  rintro e w9 ⟨rfl, hd, hf⟩
  replace D := Lib.hid hd
  replace FF := Lib.hid (FF.out.trans hf)
  clear hd hf
  go_wp2_with fail
  refine (crash_lit D.out [100000, 100000, 100000] rfl rfl (by intro z hz; simp at hz; unfold J64; omega) (s' := crashS [k0, k1, k2] (r3 a b c)) (crash_down (crash_isdown _ _) _)).mono ?_
  rintro e w9 ⟨rfl, hd, hf⟩
  replace D := Lib.hid hd
  replace FF := Lib.hid (FF.out.trans hf)
  clear hd hf
  go_wp2_with fail
  refine (start_at D.out (s' := e1 a b c [k0, k1, k2]) rfl).mono ?_
  rintro e w9 ⟨rfl, hd, hf⟩
  replace D := Lib.hid hd
  replace FF := Lib.hid (FF.out.trans hf)
  clear hd hf
  go_wp2_with fail
  refine (crash_nil D.out (s' := crashS [] (e1 a b c [k0, k1, k2])) rfl).mono ?_
  rintro e w9 ⟨rfl, hd, hf⟩
  replace D := Lib.hid hd
  replace FF := Lib.hid (FF.out.trans hf)
  clear hd hf
  go_wp2_with fail
  refine (start_at D.out (s' := e2 a b c [k0, k1, k2]) rfl).mono ?_
  rintro e w9 ⟨rfl, hd, hf⟩
  replace D := Lib.hid hd
  replace FF := Lib.hid (FF.out.trans hf)
  clear hd hf
  go_wp2_with fail
  obtain ⟨s5, hs5⟩ : ∃ s5, (crashS [k0, k1, k2] (r3 a b c)).F 5 = s5 := ⟨_, rfl⟩
  have h5 := e2_file (ks := [k0, k1, k2]) HW.out HUP.out (f := 5) (by decide)
  have h6 := e2_file (ks := [k0, k1, k2]) HW.out HUP.out (f := 6) (by decide)
  rw [re6 HA.out HB.out HC.out] at h6
  rw [hs5] at h5
  rw [re5 HA.out HB.out HC.out] at hs5
  have H5 := Lib.hid h5
  have H6 := Lib.hid h6
  have HS5 := Lib.hid hs5
  clear h5 h6 hs5
  have q0 := surv_le [k0, k1, k2] 0 a.length
  have q1 := surv_le [k0, k1, k2] 1 c.length
  have q2 := surv_le [k0, k1, k2] 2 b.length
  have m0 : (if (((sv a).size : Nat) : Int) < max k0 0 then (((sv a).size : Nat) : Int) else max k0 0) = ((surv [k0, k1, k2] 0 a.length : Nat) : Int) := minN _ _
  have m1 : (if (((sv c).size : Nat) : Int) < max k1 0 then (((sv c).size : Nat) : Int) else max k1 0) = ((surv [k0, k1, k2] 1 c.length : Nat) : Int) := minN _ _
  have m2 : (if (((sv b).size : Nat) : Int) < max k2 0 then (((sv b).size : Nat) : Int) else max k2 0) = ((surv [k0, k1, k2] 2 b.length : Nat) : Int) := minN _ _
  have x0 := max0 k0
  have x1 := max0 k1
  have x2 := max0 k2
  generalize surv [k0, k1, k2] 0 a.length = x at *
  generalize surv [k0, k1, k2] 1 c.length = z at *
  generalize surv [k0, k1, k2] 2 b.length = y at *
  generalize max k0 0 = M0 at *
  generalize max k1 0 = M1 at *
  generalize max k2 0 = M2 at *
  refine (read_at (s := e2 a b c [k0, k1, k2]) D.out ((5 : Nat) : Int) 0 s5 H5.out.1 H5.out.2).mono ?_
  rintro e w9 ⟨rfl, hd, hf⟩
  replace D := Lib.hid hd
  replace FF := Lib.hid (FF.out.trans hf)
  clear hd hf
  have hI := HV.out.fr FF.out (fun b hb hn => by have := HVB.out; simp [vblock] at hb; omega)
  have HI := Lib.hid hI
  clear hI
  go_wp2_with fail
  refine (read_at (s := e2 a b c [k0, k1, k2]) D.out ((6 : Nat) : Int) 0 (c.take z) H6.out.1 H6.out.2).mono ?_
  rintro e w9 ⟨rfl, hd, hf⟩
  replace D := Lib.hid hd
  replace FF := Lib.hid (FF.out.trans hf)
  clear hd hf
  have hI := HV.out.fr FF.out (fun b hb hn => by have := HVB.out; simp [vblock] at hb; omega)
  have g0 := ints_cell hI 0 k0 rfl
  have g1 := ints_cell hI 1 k1 rfl
  have g2 := ints_cell hI 2 k2 rfl
  rw [Nat.add_zero] at g0
  clear hI
  have hsc := fun W => slice_to c z (by omega) W
  go_upto_region 19 with fail
  clear hsc g0 g1 g2 x0 x1 x2 m0 m1 m2
  by_cases hy : y = 0
  · subst hy
    have hsx := fun W => slice_to a x (by omega) W
    have hs5 := HS5.out
    rw [if_pos rfl] at hs5
    have HE5 : Hid (sv s5 = sv (a.take x)) := Lib.hid (by rw [hs5])
    rw [HE5.out]
    clear hs5
    go_wp2_with fail
    go_ret
    exact ⟨rfl, FF.out.to_below (Nat.le_refl _)⟩
  · have hy0 : (((y : Nat) : Int) == 0) = false := by simpa using hy
    have hs5 := HS5.out
    rw [if_neg hy] at hs5
    have hl5 : s5.length = a.length + y := by rw [← hs5]; simp; omega
    have h5x : s5.take x = a.take x := by
      rw [← hs5, List.append_assoc, List.take_append_of_le_length (by rw [List.length_take]; omega), List.take_take, Nat.min_self]
    have h5a : s5.drop a.length = b.take y := by
      have hl : (a.take x ++ List.replicate (a.length - x) 0).length = a.length := by simp; omega
      have hgen : ∀ (P Q : Bs) (n : Nat), P.length = n → (P ++ Q).drop n = Q := fun P Q n h => by rw [← h, List.drop_left]
      rw [← hs5]
      exact hgen _ _ _ hl
    have h5z : ∀ j, x ≤ j → j < a.length → s5.getD j 0 = 0 := by
      intro j h1 h2
      rw [← hs5, List.append_assoc, List.getD_eq_getElem?_getD, List.getElem?_append_right (by rw [List.length_take]; omega), List.length_take, List.getElem?_append_left (by rw [List.length_replicate]; omega), List.getElem?_replicate]
      split <;> rfl
    have hsx := fun W => slice_to a x (by omega) W
    have hs1 := fun W => slice_to s5 x (by omega) W
    have hs2 := fun W => slice_from s5 a.length (by omega) W
    have hs3 := fun W => slice_to b y (by omega) W
    rw [h5x] at hs1
    rw [h5a] at hs2
    have hsz5 : (((sv s5).size : Nat) : Int) = (((sv a).size : Nat) : Int) + ((y : Nat) : Int) := by rw [sv_size, sv_size, hl5]; omega
    have hwr : IntKind.i64.wrap ((((sv a).size : Nat) : Int) + ((y : Nat) : Int)) = (((sv a).size : Nat) : Int) + ((y : Nat) : Int) := by rw [sv_size, IntKind.wrap_i64]; omega
    have hza : (sv a).size = a.length := rfl
    have H5Z := Lib.hid h5z
    have HL5 := Lib.hid hl5
    clear hs5 h5x h5a h5z hl5
    go_upto_region 21 with fail
    go_region
    go_wp2_with fail
    have hz5 : (sv s5).size = s5.length := rfl
    have HZ5 := Lib.hid hz5
    clear hsx hs1 hs2 hs3 hsz5 hwr tA tB tC tS hw2 hw3 hz5
    go_loop [17] (fun i => ∃ k : Nat, k ≤ a.length ∧ x ≤ k ∧ i = .int .i64 k) (fun i => a.length - (intOf i).toNat)
    case atStart => exact ⟨x, by omega, Nat.le_refl _, rfl⟩
    case round =>
      obtain ⟨k, hk, hxk, rfl⟩ := hrel
      rw [hza] at *
      by_cases hlt : k < a.length
      · have hks : k < (sv s5).size := by have := HL5.out; have := HZ5.out; omega
        have hg : (sv s5)[k]'hks = 0 := by rw [sv_get s5 k hks]; exact H5Z.out k hxk hlt
        go_wp2_with fail
        go_round
        case rel => exact ⟨k + 1, by omega, by omega, by go_num⟩
        case measure => simp [intOf]; omega
      · obtain rfl : k = a.length := by omega
        go_wp2_with fail
        go_ret
        exact ⟨rfl, FF.out.drew.to_below (Nat.le_refl _)⟩

end
theorem walk {S T C : ByteArray} {v : Value} {ks : List Int} {w : World} (h1 : S.size ≤ 140737488355328) (h2 : T.size ≤ 140737488355328) (h3 : C.size ≤ 140737488355328) (hv : Ints w v ks) (hj : ∀ z ∈ ks, J64 z) (hvb : ∀ b, vblock v = some b → b < w.heap.size) :
    Calls Try.prog 6 #[.string S, .string T, .string C, v] w (IsTrue w) := by
  obtain ⟨va, vc, rfl, hc⟩ := hv
  by_cases e1 : S.toList = []
  · exact bad0 (by simp [e1])
  have f1 : (S.toList == []) = false := by simp [e1]
  by_cases e2 : T.toList = []
  · exact bad1 f1 (by simp [e2])
  have f2 : (T.toList == []) = false := by simp [e2]
  by_cases e3 : C.toList = []
  · exact bad2 f1 f2 (by simp [e3])
  have f3 : (C.toList == []) = false := by simp [e3]
  by_cases e4 : 60000 < S.size + T.size + C.size
  · exact bad3 h1 h2 h3 f1 f2 f3 (decide_eq_true (by omega))
  have f4 : decide ((60000 : Int) < ((S.size : Nat) : Int) + ((T.size : Nat) : Int) + ((C.size : Nat) : Int)) = false := decide_eq_false (by omega)
  by_cases e5 : ks.length = 3
  · match ks, e5, hc, hj with
    | [k0, k1, k2], _, hc, hj =>
      have hI : Ints w (.slice va 3 vc) [k0, k1, k2] := ⟨va, vc, rfl, hc⟩
      obtain ⟨vb, vo, rfl, hb, _⟩ := hc (by simp)
      obtain ⟨a, rfl⟩ : ∃ a, S = sv a := ⟨_, (sv_of S).symm⟩
      obtain ⟨b, rfl⟩ : ∃ b, T = sv b := ⟨_, (sv_of T).symm⟩
      obtain ⟨c, rfl⟩ : ∃ c, C = sv c := ⟨_, (sv_of C).symm⟩
      rw [sv_toList] at e1 e2 e3
      rw [sv_size, sv_size, sv_size] at e4
      exact good e1 e2 e3 (by omega) hI hj hb
  · exact bad4 h1 h2 h3 f1 f2 f3 f4 (by simp; omega)
end Go.Proofs.Ytjgedopbcopnkaa.diskReorders
