/- Digits of bytes, and a slice of bytes as a text. Conditions: those of each lemma. -/
import Derived.Test.YtfmjankmfddefaaDoorGBytes
import Derived.Test.YtfmjankmfddefaaDoorGWordL
import Derived.Test.YtfmjankmfddefaaDoorGTwoB
import Derived.Deep.AppendLies
namespace Go.Proofs.YtfmjankmfddefaaDoor.Dg
open Go.RowKit Gm
set_option linter.unusedVariables false

def hexd (n : Nat) : UInt8 := if n < 10 then UInt8.ofNat (48 + n) else UInt8.ofNat (87 + n)
def hexs : Bs → Bs
  | [] => []
  | b :: l => hexd (b.toNat / 16) :: hexd (b.toNat % 16) :: hexs l
def digs : ByteArray := ⟨#[48, 49, 50, 51, 52, 53, 54, 55, 56, 57, 97, 98, 99, 100, 101, 102]⟩
theorem digs_at : ∀ n : Fin 16, digs[n.val]'(n.isLt) = hexd n.val := by decide
theorem hexs_length (l : Bs) : (hexs l).length = 2 * l.length := by
  induction l with
  | nil => rfl
  | cons b l ih => simp only [hexs, List.length_cons, ih]; omega
theorem hexs_append (l m : Bs) : hexs (l ++ m) = hexs l ++ hexs m := by
  induction l with
  | nil => rfl
  | cons b l ih => simp [hexs, ih]
theorem hexs_take (s : Bs) (k : Nat) (h : k < s.length) : hexs (s.take (k + 1)) = hexs (s.take k) ++ [hexd ((s.getD k 0).toNat / 16), hexd ((s.getD k 0).toNat % 16)] := by
  have e : s.getD k 0 = s[k] := by rw [List.getD_eq_getElem?_getD, List.getElem?_eq_getElem h]; rfl
  rw [List.take_succ_eq_append_getElem h, hexs_append, e]
  rfl

theorem nil_back (w : World) : (convert 56 9 (.slice none 0 0)).run Tryd.prog w = .ok (.string (sv [])) w := by kernel_rfl
theorem back_own {w : World} {base : Nat} {v : Value} {n : Nat} {l : Bs} (h : w.ownsRow base 5 1 v n (bc l)) : (convert 56 9 v).run Tryd.prog w = .ok (.string (sv l)) w := by
  have hl : l.length = n := by have := h.1; rw [bc_length] at this; omega
  rcases h.2 with ⟨rfl, rfl⟩ | ⟨g, cap, cur, rfl, _⟩
  · have e : l = [] := List.eq_nil_of_length_eq_zero hl
    rw [e]
    exact nil_back w
  · have hc := h.cells (g := g) rfl
    have := run_convert_bytes_back (P := Tryd.prog) w 56 9 5 ⟨g, 0, none⟩ cap l Tryd.underlying56 Tryd.underlying5 Tryd.underlying9 (fun i hi => by
      refine hc i _ ?_
      unfold bc
      rw [List.getElem?_map, List.getElem?_eq_getElem hi]; rfl)
    rw [hl] at this
    exact this
theorem idx_digs (a : Nat) (ha : a < 16) (W : World) : (Instr.index 9 (.string ⟨#[48, 49, 50, 51, 52, 53, 54, 55, 56, 57, 97, 98, 99, 100, 101, 102]⟩) (.int .u8 (a : Int))).run Tryd.prog W = .ok (.int .u8 ((hexd a).toNat : Int)) W := by
  have hr := run_index_string (P := Tryd.prog) (w := W) 9 digs .u8 (a : Int) Tryd.underlying9
  have hi : (0 : Int) ≤ (a : Int) ∧ (a : Int) < digs.size := ⟨by omega, by show (a : Int) < 16; omega⟩
  refine hr.trans ?_
  rw [dif_pos hi]
  have h := digs_at ⟨a, ha⟩
  have e : digs[(a : Int).toNat]'(by show _ < 16; omega) = hexd a := by simp only [Int.toNat_natCast]; exact h
  rw [e]
end Go.Proofs.YtfmjankmfddefaaDoor.Dg
