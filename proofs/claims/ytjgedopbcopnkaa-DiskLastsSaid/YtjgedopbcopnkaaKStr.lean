/- Parts and bytes of a text. Conditions: those of each lemma. -/
import Derived.Test.YtjgedopbcopnkaaKSmall
import Derived.Lib.BitFns
namespace Go.Proofs.Ytjgedopbcopnkaa.Dk
open Go.RowKit Km
set_option linter.unusedVariables false

theorem sv_from (s : Bs) (d : Nat) : (sv s).extract d (sv s).size = sv (s.drop d) := by
  apply sv_ext
  rw [ByteArray.data_extract]
  simp only [sv, Array.toList_extract, List.extract_eq_take_drop]
  exact List.take_of_length_le (by rw [List.length_drop]; exact Nat.le_refl _)
theorem sv_to (s : Bs) (d : Nat) : (sv s).extract 0 d = sv (s.take d) := by
  apply sv_ext
  rw [ByteArray.data_extract]
  simp [sv, Array.toList_extract, List.extract_eq_take_drop]
theorem slice_from (s : Bs) (d : Nat) (h : d ≤ s.length) (W : World) : (Instr.slice 9 (.string (sv s)) (some (.int .i64 ((d : Nat) : Int))) none none).run Try.prog W = .ok (.string (sv (s.drop d))) W := by
  rw [run_slice_string_from_if W 9 (sv s) .i64 _ Try.underlying9, if_pos ⟨by omega, by rw [sv_size]; omega⟩, Int.toNat_natCast, sv_from]
theorem slice_to (s : Bs) (d : Nat) (h : d ≤ s.length) (W : World) : (Instr.slice 9 (.string (sv s)) none (some (.int .i64 ((d : Nat) : Int))) none).run Try.prog W = .ok (.string (sv (s.take d))) W := by
  rw [run_slice_string_to_if W 9 (sv s) .i64 _ Try.underlying9, if_pos ⟨by omega, by rw [sv_size]; omega⟩, Int.toNat_natCast, sv_to]
theorem sv_get (s : Bs) (k : Nat) (h : k < (sv s).size) : (sv s)[k] = s.getD k 0 := by
  have h' : k < s.length := h
  have e : (sv s)[k] = s[k] := by
    show (s.toArray)[k] = s[k]
    rw [List.getElem_toArray]
  refine e.trans ?_
  rw [List.getD_eq_getElem?_getD, List.getElem?_eq_getElem h']
  rfl
end Go.Proofs.Ytjgedopbcopnkaa.Dk
