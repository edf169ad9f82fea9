/- surviving: how many bytes of a pending append survive a crash. Conditions: those of the theorem. -/
import Derived.Test.YtdjchpejhfkknaaKFit
namespace Go.Proofs.Ytdjchpejhfkknaa.Dk
open Go.RowKit Km
set_option linter.unusedVariables false
set_option maxRecDepth 100000

theorem surv_any {w : World} {v : Value} {ks : List Int} (hv : Ints w v ks) (hj : ∀ z ∈ ks, J64 z) (i size : Nat) (hi : i ≤ 134217728) (hs : size ≤ 16777216) :
    Calls Try.prog 59 #[v, .int .i64 (i : Nat), .int .i64 (size : Nat)] w fun e w' => e = .returned (.int .i64 ((surv ks i size : Nat) : Int)) ∧ w = w' := by
  obtain ⟨a, c, rfl, hc⟩ := hv
  by_cases hlt : i < ks.length
  · obtain ⟨b, o, rfl, hb, hcell⟩ := hc (by omega)
    obtain ⟨z, hz⟩ : ∃ z, ks[i]? = some z := ⟨ks[i], List.getElem?_eq_getElem hlt⟩
    have c0 := hcell i z hz
    have hr : surv ks i size = min (max z 0).toNat size := by unfold surv; rw [List.getD_eq_getElem?_getD, hz]; rfl
    have hJ := hj z (List.mem_of_getElem? hz)
    obtain ⟨j1, j2⟩ := hJ
    have HR := Lib.hid hr
    have dn : ¬ (ks.length : Nat) ≤ i := by omega
    clear hc hcell hz hj hr
    generalize ks.length = n at *
    by_cases h0 : z < 0
    · have hr2 : min (max z 0).toNat size = 0 := by omega
      have HR2 := Lib.hid hr2
      clear hr2
      go_enter Try.func59, Try.ntmps59
      go_wp2_with fail
      go_ret
      refine ⟨ret_i ?_, rfl⟩
      rw [HR.out, HR2.out]
      first | rfl | omega
    · have h0' : 0 ≤ z := by omega
      by_cases hs2 : (size : Nat) < z
      · have hr2 : min (max z 0).toNat size = size := by omega
        have HR2 := Lib.hid hr2
        clear hr2
        go_enter Try.func59, Try.ntmps59
        go_wp2_with fail
        go_ret
        refine ⟨ret_i ?_, rfl⟩
        rw [HR.out, HR2.out]
      · have hr2 : ((min (max z 0).toNat size : Nat) : Int) = z := by omega
        have HR2 := Lib.hid hr2
        have hs3 : z ≤ (size : Nat) := by omega
        clear hr2
        go_enter Try.func59, Try.ntmps59
        go_wp2_with fail
        go_ret
        refine ⟨ret_i ?_, rfl⟩
        rw [HR.out, HR2.out]
  · have hr : surv ks i size = 0 := surv_out ks i size (by omega)
    have HR := Lib.hid hr
    have dn : (ks.length : Nat) ≤ i := by omega
    clear hc hr hj
    generalize ks.length = n at *
    go_enter Try.func59, Try.ntmps59
    go_wp2_with fail
    go_ret
    exact ⟨ret_i (by rw [HR.out]; rfl), rfl⟩
end Go.Proofs.Ytdjchpejhfkknaa.Dk
