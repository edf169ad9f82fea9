/- wire.Text: the encoding of a string. Conditions: the string has at most 2^20 bytes; the library's own variable holds some int. -/
import Derived.Test.YtfmjankmfddefaaDoorWInt
import Derived.Test.YtfmjankmfddefaaDoorWLib
namespace Go.Proofs.YtfmjankmfddefaaDoor.Wr
open Go.RowKit Wm
set_option linter.unusedVariables false

theorem replaceAll_esc_any (s : Bs) (hs : s.length ≤ 1048576) {w : World} (hm : Mx w) :
    Calls Tryd.prog 47 #[.string (sv s), .string (sv [0]), .string (sv [0, 255])] w fun e w' => e = .returned (.string (sv (esc s))) ∧ Below w.heap.size w w' := by
  obtain ⟨m, hm⟩ := hm
  have hc := Wl.count_bound s [0]
  refine (Tryd.strings_ReplaceAll (sv s) (sv [0]) (sv [0, 255]) m w (by rw [sv_size]; omega) hm (by decide) ?_).mono ?_
  · show _ + Lib.count _ _ * _ ≤ _
    rw [sv_list, sv_list, sv_size, sv_size]
    simp only [List.length_cons, List.length_nil]
    omega
  · rintro e w' ⟨rfl, hb⟩
    refine ⟨?_, hb⟩
    rw [sv_list, sv_list, sv_list, Wl.replaceAll_esc]
    rfl
theorem replaceAll_back_any (x : Bs) (hs : (esc x).length ≤ 1048576) {w : World} (hm : Mx w) :
    Calls Tryd.prog 47 #[.string (sv (esc x)), .string (sv [0, 255]), .string (sv [0])] w fun e w' => e = .returned (.string (sv x)) ∧ Below w.heap.size w w' := by
  obtain ⟨m, hm⟩ := hm
  have hc := Wl.count_bound (esc x) [0, 255]
  refine (Tryd.strings_ReplaceAll (sv (esc x)) (sv [0, 255]) (sv [0]) m w (by rw [sv_size]; omega) hm (by decide) ?_).mono ?_
  · show _ + Lib.count _ _ * _ ≤ _
    rw [sv_list, sv_list, sv_size, sv_size]
    simp only [List.length_cons, List.length_nil]
    omega
  · rintro e w' ⟨rfl, hb⟩
    refine ⟨?_, hb⟩
    rw [sv_list, sv_list, sv_list, Wl.replaceAll_back]
    rfl

set_option maxHeartbeats 400000 in
theorem text_any (s : Bs) (hs : s.length ≤ 1048576) {w : World} (hm : Mx w) :
    Calls Tryd.prog 28 #[.string (sv s)] w fun e w' => e = .returned (.string (sv (encT s))) ∧ Below w.heap.size w w' := by
  have c1 := replaceAll_esc_any s hs hm
  have hl := (esc_length s).2
  have he : encT s = esc s ++ [0, 1] := rfl
  have HE := Lib.hid he
  have hz : (sv (esc s)).size ≤ 2097152 := by rw [sv_size]; omega
  have ha : sv (esc s) ++ (⟨#[0, 1]⟩ : ByteArray) = sv (esc s ++ [0, 1]) := sv_append _ [0, 1]
  have HA := Lib.hid ha
  have C1 := Lib.hid c1
  clear he ha c1 hl
  generalize sv (esc s) = E at *
  go_enter Tryd.func28, Tryd.ntmps28
  go_wp2_with fail
  refine C1.out.mono ?_
  rintro e w' ⟨rfl, hb⟩
  go_wp2_with fail
  go_ret
  exact ⟨ret_s (by rw [HE.out, ← HA.out]), hb⟩
end Go.Proofs.YtfmjankmfddefaaDoor.Wr
