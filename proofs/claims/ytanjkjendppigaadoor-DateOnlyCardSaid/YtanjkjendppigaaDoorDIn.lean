/- In tells whether a date is in a season. Conditions: the listed variables hold what the text gives them. -/
import Derived.Test.YtanjkjendppigaaDoorDRparse
namespace Go.Proofs.YtanjkjendppigaaDoor.Dy
open Go.RowKit Cal
set_option linter.unusedVariables false
set_option maxRecDepth 100000

def I64 (n : Int) : Prop := -9223372036854775808 ≤ n ∧ n ≤ 9223372036854775807
/-- A month-day. -/
def mdI (n : Int) : Bool := mdB (n.tdiv 100) (n.tmod 100)
def inB (m d f u : Int) : Bool := mdI f && mdI u && mdB m d && (if f ≤ u then decide (f ≤ 100 * m + d ∧ 100 * m + d ≤ u) else decide (f ≤ 100 * m + d ∨ 100 * m + d ≤ u))
theorem wrap_div {n : Int} (h : I64 n) : IntKind.i64.wrap (n.tdiv 100) = n.tdiv 100 := by
  obtain ⟨h1, h2⟩ := h
  rw [IntKind.wrap_i64]
  by_cases h0 : 0 ≤ n
  · rw [Int.tdiv_eq_ediv_of_nonneg h0]; omega
  · obtain ⟨k, rfl⟩ : ∃ k, n = -k := ⟨-n, by omega⟩
    rw [Int.neg_tdiv, Int.tdiv_eq_ediv_of_nonneg (by omega)]
    omega
theorem mdB_range {m d : Int} (h : mdB m d = true) : 1 ≤ m ∧ m ≤ 12 ∧ 1 ≤ d ∧ d ≤ 31 := by
  have hc : (1 ≤ m ∧ m ≤ 12 ∧ 1 ≤ d ∧ d ≤ ((len 2000 m.toNat : Nat) : Int)) := of_decide_eq_true h
  have := len_le 2000 m.toNat
  omega
set_option maxHeartbeats 2000000 in
theorem in_any (y m d h f u : Int) (hf : I64 f) (hu : I64 u) (w : World) (hW : Wd w) : Calls Tryd.prog 20 #[dv y m d h, .int .i64 f, .int .i64 u] w fun e w' => e = .returned (.bool (inB m d f u)) ∧ Below w.heap.size w w' := by
  have HF := Lib.hid (fun W hW => md_q (f.tdiv 100) (f.tmod 100) W hW)
  have HU := Lib.hid (fun W hW => md_q (u.tdiv 100) (u.tmod 100) W hW)
  have HD := Lib.hid (fun W hW => md_q m d W hW)
  have wf := wrap_div hf
  have wu := wrap_div hu
  have wf64 : wrap64 (f.tdiv 100) = f.tdiv 100 := by have h := wf; rw [IntKind.wrap_i64] at h; unfold wrap64; exact h
  have wu64 : wrap64 (u.tdiv 100) = u.tdiv 100 := by have h := wu; rw [IntKind.wrap_i64] at h; unfold wrap64; exact h
  obtain ⟨r, hr⟩ : ∃ r, inB m d f u = r := ⟨_, rfl⟩
  have hr' : r = (mdI f && mdI u && mdB m d && (if f ≤ u then decide (f ≤ 100 * m + d ∧ 100 * m + d ≤ u) else decide (f ≤ 100 * m + d ∨ 100 * m + d ≤ u))) := hr.symm
  rw [hr]
  clear hr
  have e1 : mdB (f.tdiv 100) (f.tmod 100) = mdI f := rfl
  have e2 : mdB (u.tdiv 100) (u.tmod 100) = mdI u := rfl
  rw [e1] at HF
  rw [e2] at HU
  clear e1 e2 hf hu
  obtain ⟨fd, hfd⟩ : ∃ x, f.tdiv 100 = x := ⟨_, rfl⟩
  obtain ⟨fm, hfm⟩ : ∃ x, f.tmod 100 = x := ⟨_, rfl⟩
  obtain ⟨ud, hud⟩ : ∃ x, u.tdiv 100 = x := ⟨_, rfl⟩
  obtain ⟨um, hum⟩ : ∃ x, u.tmod 100 = x := ⟨_, rfl⟩
  have wfx : wrap64 (f.tdiv 100) = fd := wf64.trans hfd
  have wux : wrap64 (u.tdiv 100) = ud := wu64.trans hud
  have wfy : IntKind.i64.wrap (f.tdiv 100) = fd := wf.trans hfd
  have wuy : IntKind.i64.wrap (u.tdiv 100) = ud := wu.trans hud
  rw [hfd, hfm] at HF
  rw [hud, hum] at HU
  clear wf wu wf64 wu64 hfd hud
  have HWD := Lib.hid (show Wd (w.alloc (.cells #[.int .i64 y, .int .i64 m, .int .i64 d, .int .i64 h] 23)) from hW.below (below_alloc _ _))
  have HBA := Lib.hid (below_alloc w (.cells #[.int .i64 y, .int .i64 m, .int .i64 d, .int .i64 h] 23))
  unfold dv
  clear hW
  by_cases q1 : mdI f = true
  · rw [q1] at HF hr'
    by_cases q2 : mdI u = true
    · rw [q2] at HU hr'
      by_cases q3 : mdB m d = true
      · rw [q3] at HD hr'
        have hx0 : r = (if f ≤ u then decide (f ≤ 100 * m + d ∧ 100 * m + d ≤ u) else decide (f ≤ 100 * m + d ∨ 100 * m + d ≤ u)) := by rw [hr']; simp
        have hrg := mdB_range q3
        have w1 : wrap64 (100 * m) = 100 * m := wrapOk (by omega) (by omega)
        have w2 : wrap64 (100 * m + d) = 100 * m + d := wrapOk (by omega) (by omega)
        obtain ⟨x, hxe⟩ : ∃ x, 100 * m + d = x := ⟨_, rfl⟩
        have w3 : wrap64 (wrap64 (100 * m) + d) = x := by rw [w1, w2, hxe]
        rw [hxe] at hx0 w2
        have W2 := Lib.hid w2
        have W3 := Lib.hid w3
        clear hr' q1 q2 q3 hrg hxe w1 w2 w3
        by_cases k1 : f ≤ u
        · rw [if_pos k1] at hx0
          have J1 := Lib.hid (decide_eq_true k1)
          by_cases k2 : f ≤ x
          · have J2 := Lib.hid (decide_eq_true k2)
            by_cases k3 : x ≤ u
            · have J3 := Lib.hid (decide_eq_true k3)
              have hx : r = true := by rw [hx0]; exact decide_eq_true ⟨k2, k3⟩
              subst hx
              clear k1 k2 k3 hx0
              go_enter Tryd.func20, Tryd.ntmps20
              go_wp2_with fail
              refine (HF.out _ HWD.out).mono ?_
              rintro e w1 ⟨rfl, rfl⟩
              go_wp2_with fail
              refine (HU.out _ HWD.out).mono ?_
              rintro e w1 ⟨rfl, rfl⟩
              go_wp2_with fail
              refine (HD.out _ HWD.out).mono ?_
              rintro e w1 ⟨rfl, rfl⟩
              have j1 := J1.out
              have j2 := J2.out
              have j3 := J3.out
              have w2 := W2.out
              have w3 := W3.out
              go_wp2_with fail
              go_ret
              exact ⟨rfl, HBA.out⟩
            · have J3 := Lib.hid (decide_eq_false k3)
              have hx : r = false := by rw [hx0]; exact decide_eq_false (fun c => k3 c.2)
              subst hx
              clear k1 k2 k3 hx0
              go_enter Tryd.func20, Tryd.ntmps20
              go_wp2_with fail
              refine (HF.out _ HWD.out).mono ?_
              rintro e w1 ⟨rfl, rfl⟩
              go_wp2_with fail
              refine (HU.out _ HWD.out).mono ?_
              rintro e w1 ⟨rfl, rfl⟩
              go_wp2_with fail
              refine (HD.out _ HWD.out).mono ?_
              rintro e w1 ⟨rfl, rfl⟩
              have j1 := J1.out
              have j2 := J2.out
              have j3 := J3.out
              have w2 := W2.out
              have w3 := W3.out
              go_wp2_with fail
              go_ret
              exact ⟨rfl, HBA.out⟩
          · have J2 := Lib.hid (decide_eq_false k2)
            have hx : r = false := by rw [hx0]; exact decide_eq_false (fun c => k2 c.1)
            subst hx
            clear k1 k2 hx0
            go_enter Tryd.func20, Tryd.ntmps20
            go_wp2_with fail
            refine (HF.out _ HWD.out).mono ?_
            rintro e w1 ⟨rfl, rfl⟩
            go_wp2_with fail
            refine (HU.out _ HWD.out).mono ?_
            rintro e w1 ⟨rfl, rfl⟩
            go_wp2_with fail
            refine (HD.out _ HWD.out).mono ?_
            rintro e w1 ⟨rfl, rfl⟩
            have j1 := J1.out
            have j2 := J2.out
            have w2 := W2.out
            have w3 := W3.out
            go_wp2_with fail
            go_ret
            exact ⟨rfl, HBA.out⟩
        · rw [if_neg k1] at hx0
          have J1 := Lib.hid (decide_eq_false k1)
          by_cases k2 : f ≤ x
          · have J2 := Lib.hid (decide_eq_true k2)
            have hx : r = true := by rw [hx0]; exact decide_eq_true (Or.inl k2)
            subst hx
            clear k1 k2 hx0
            go_enter Tryd.func20, Tryd.ntmps20
            go_wp2_with fail
            refine (HF.out _ HWD.out).mono ?_
            rintro e w1 ⟨rfl, rfl⟩
            go_wp2_with fail
            refine (HU.out _ HWD.out).mono ?_
            rintro e w1 ⟨rfl, rfl⟩
            go_wp2_with fail
            refine (HD.out _ HWD.out).mono ?_
            rintro e w1 ⟨rfl, rfl⟩
            have j1 := J1.out
            have j2 := J2.out
            have w2 := W2.out
            have w3 := W3.out
            go_wp2_with fail
            go_ret
            exact ⟨rfl, HBA.out⟩
          · have J2 := Lib.hid (decide_eq_false k2)
            by_cases k3 : x ≤ u
            · have J3 := Lib.hid (decide_eq_true k3)
              have hx : r = true := by rw [hx0]; exact decide_eq_true (Or.inr k3)
              subst hx
              clear k1 k2 k3 hx0
              go_enter Tryd.func20, Tryd.ntmps20
              go_wp2_with fail
              refine (HF.out _ HWD.out).mono ?_
              rintro e w1 ⟨rfl, rfl⟩
              go_wp2_with fail
              refine (HU.out _ HWD.out).mono ?_
              rintro e w1 ⟨rfl, rfl⟩
              go_wp2_with fail
              refine (HD.out _ HWD.out).mono ?_
              rintro e w1 ⟨rfl, rfl⟩
              have j1 := J1.out
              have j2 := J2.out
              have j3 := J3.out
              have w2 := W2.out
              have w3 := W3.out
              go_wp2_with fail
              go_ret
              exact ⟨rfl, HBA.out⟩
            · have J3 := Lib.hid (decide_eq_false k3)
              have hx : r = false := by rw [hx0]; exact decide_eq_false (fun c => c.elim k2 k3)
              subst hx
              clear k1 k2 k3 hx0
              go_enter Tryd.func20, Tryd.ntmps20
              go_wp2_with fail
              refine (HF.out _ HWD.out).mono ?_
              rintro e w1 ⟨rfl, rfl⟩
              go_wp2_with fail
              refine (HU.out _ HWD.out).mono ?_
              rintro e w1 ⟨rfl, rfl⟩
              go_wp2_with fail
              refine (HD.out _ HWD.out).mono ?_
              rintro e w1 ⟨rfl, rfl⟩
              have j1 := J1.out
              have j2 := J2.out
              have j3 := J3.out
              have w2 := W2.out
              have w3 := W3.out
              go_wp2_with fail
              go_ret
              exact ⟨rfl, HBA.out⟩
      · have q3' : mdB m d = false := by simpa using q3
        rw [q3'] at HD
        have hx : r = false := by rw [hr', q3']; simp
        subst hx
        clear hr' q1 q2 q3 q3'
        go_enter Tryd.func20, Tryd.ntmps20
        go_wp2_with fail
        refine (HF.out _ HWD.out).mono ?_
        rintro e w1 ⟨rfl, rfl⟩
        go_wp2_with fail
        refine (HU.out _ HWD.out).mono ?_
        rintro e w1 ⟨rfl, rfl⟩
        go_wp2_with fail
        refine (HD.out _ HWD.out).mono ?_
        rintro e w1 ⟨rfl, rfl⟩
        go_wp2_with fail
        go_ret
        exact ⟨rfl, HBA.out⟩
    · have q2' : mdI u = false := by simpa using q2
      rw [q2'] at HU
      have hx : r = false := by rw [hr', q2']; simp
      subst hx
      clear hr' q1 q2 q2'
      go_enter Tryd.func20, Tryd.ntmps20
      go_wp2_with fail
      refine (HF.out _ HWD.out).mono ?_
      rintro e w1 ⟨rfl, rfl⟩
      go_wp2_with fail
      refine (HU.out _ HWD.out).mono ?_
      rintro e w1 ⟨rfl, rfl⟩
      go_wp2_with fail
      go_ret
      exact ⟨rfl, HBA.out⟩
  · have q1' : mdI f = false := by simpa using q1
    rw [q1'] at HF
    have hx : r = false := by rw [hr', q1']; simp
    subst hx
    clear hr' q1 q1'
    go_enter Tryd.func20, Tryd.ntmps20
    go_wp2_with fail
    refine (HF.out _ HWD.out).mono ?_
    rintro e w1 ⟨rfl, rfl⟩
    go_wp2_with fail
    go_ret
    exact ⟨rfl, HBA.out⟩
end Go.Proofs.YtanjkjendppigaaDoor.Dy
