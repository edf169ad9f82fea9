/- wal's Flush and Len. Conditions: the disk and the log lie in memory of their own. -/
import Derived.Test.YtdjchpejhfkknaaLLog
import Derived.Deep.RegionWith
import Derived.Deep.RegionHeld3
namespace Go.Proofs.Ytdjchpejhfkknaa.Lw
open Go.RowKit Km Dk
open Lm hiding Bs
set_option linter.unusedVariables false
set_option maxRecDepth 100000

section
variable {D M : Nat → Prop} {p r f : Nat} {s : St} {rows : List Bs} {w w' : World}
theorem LD.below (h : LD D M r p f s rows w) (hb : Below w.heap.size w w') : LD D M r p f s rows w' := ⟨h.dsk.below hb, h.log.below hb, h.sep⟩
theorem LD.disk (h : LD D M r p f s rows w) {s' : St} (hd : Dsk D r s' w') (hf : Fr D w w') : LD D M r p f s' rows w' := ⟨hd, h.log.fr hf h.sep, h.sep⟩
theorem wflush_any (h : LD D M r p f s rows w) : Calls Try.prog 37 #[.pointer (some ⟨p, 0, none⟩)] w fun e w' => e = .returned (.int .i64 (fluE s ((f : Nat) : Int))) ∧ LD D M r p f (fluS s ((f : Nat) : Int)) rows w' ∧ Fr D w w' := by
  have c0 := h.log.c0
  have c1 := h.log.c1
  have HC := Lib.hid (fun W (hb : Below w.heap.size w W) => flush_dsk (h.below hb).dsk ((f : Nat) : Int))
  have HL := Lib.hid h
  clear h
  generalize fluE s ((f : Nat) : Int) = E at *
  generalize fluS s ((f : Nat) : Int) = S' at *
  go_enter Try.func37, Try.ntmps37
  go_wp2_with fail
  --GG
  go_region_with ((go_at_call 58; refine (HC.out _ (Below.refl _ _).drew).mono ?_; rintro e w' ⟨rfl, h1, h2⟩))
  all_goals (
    go_wp2_with fail
    go_ret
    exact ⟨rfl, HL.out.disk h1 ((Fr.refl D w).drew.trans h2), (Fr.refl D w).drew.trans h2⟩)
theorem wlen_any (h : LogM M p r f rows w) (hl : rows.length ≤ 1000000000) : Calls Try.prog 20 #[.pointer (some ⟨p, 0, none⟩)] w fun e w' => e = .returned (.int .i64 ((rows.length : Nat) : Int)) ∧ w = w' := by
  obtain ⟨v, hb, ho, _⟩ := h.blk
  obtain ⟨va, vc, rfl⟩ := owns_slice ho
  have c2 := hb.cell 2
  clear h hb ho
  generalize rows.length = n at *
  go_enter Try.func20, Try.ntmps20
  go_wp2
  go_ret
  exact ⟨rfl, rfl⟩
/-- What a text in memory of its own reads as. -/
theorem texts_own {v : Value} {l : List Bs} (h : w.ownsRow 0 9 1 v l.length (sc l)) (hl : l.length ≤ 9223372036854775807) (hs : ∀ t ∈ l, t.length ≤ 140737488355328) : Texts w v l := by
  obtain ⟨a, c, rfl⟩ := owns_slice h
  refine ⟨a, c, rfl, hl, hs, fun h0 => ?_⟩
  obtain ⟨g, rfl, h1, _, _, _, h2⟩ := owns_row h h0
  exact ⟨g, 0, rfl, h1, fun j t hj => by rw [Nat.zero_add]; exact h2 j _ (sc_at hj)⟩
theorem wall_any (h : LogM M p r f rows w) (hl : rows.length ≤ 1000000000) (hs : ∀ t ∈ rows, t.length ≤ 1000000000) : Calls Try.prog 18 #[.pointer (some ⟨p, 0, none⟩)] w fun e w' =>
    ∃ v, e = .returned v ∧ Texts w' v rows ∧ w'.ownsRow w.heap.size 9 1 v rows.length (sc rows) ∧ Below w.heap.size w w' := by
  obtain ⟨v, hb, ho, _⟩ := h.blk
  obtain ⟨va, vc, rfl⟩ := owns_slice ho
  have c2 := hb.cell 2
  have hcl : Calls Try.prog 54 #[.slice va rows.length vc] w fun e w' => ∃ v, e = .returned v ∧ w'.ownsRow w.heap.size 9 1 v rows.length (sc rows) ∧ Below w.heap.size w w' := by
    cases va with
    | none =>
      have h0 : rows.length = 0 := by
        rcases ho.2 with ⟨_, h2⟩ | ⟨_, _, _, h1, _⟩
        · exact h2
        · cases h1
      refine (Try.slices_Clone_string_nil rows.length vc w).mono ?_
      rintro e w' ⟨rfl, rfl⟩
      have : rows = [] := List.eq_nil_of_length_eq_zero h0
      subst this
      exact ⟨_, rfl, World.ownsRow_nil _ _ _ _, below_self _⟩
    | some a =>
      by_cases h0 : rows.length = 0
      · rw [h0]
        refine (Try.slices_Clone_string_zero a vc w).mono ?_
        rintro e w' ⟨v, rfl, h1, _, h3⟩
        have : rows = [] := List.eq_nil_of_length_eq_zero h0
        subst this
        exact ⟨_, rfl, h1, h3⟩
      · obtain ⟨g, hg, _, _, _, _, h2⟩ := owns_row ho (by omega)
        injection hg with hg
        subst hg
        have hm : ((rows.map sv).take rows.length).map Value.string = sc rows := by rw [List.take_of_length_le (by simp)]; simp [sc]
        have hc := Try.slices_Clone_string g 0 rows.length vc (rows.map sv) w (by simp) (by omega) (fun j hj => by
          have hj' : j < rows.length := by simpa using hj
          rw [Nat.zero_add, h2 j _ (sc_at (List.getElem?_eq_getElem hj')), List.getD_eq_getElem?_getD, List.getElem?_map, List.getElem?_eq_getElem hj']
          rfl)
        rw [hm] at hc
        refine hc.mono ?_
        rintro e w' ⟨v, rfl, h1, _, h3⟩
        exact ⟨_, rfl, h1, h3⟩
  have HCL := Lib.hid hcl
  have HT := Lib.hid (fun (W : World) (v : Value) (hw : W.ownsRow w.heap.size 9 1 v rows.length (sc rows)) => texts_own (owns_base hw) (by omega) (fun t ht => by have := hs t ht; omega))
  clear h hb ho hcl hs hl
  go_enter Try.func18, Try.ntmps18
  go_wp2_with fail
  refine HCL.out.mono ?_
  rintro e w' ⟨v, rfl, h1, h2⟩
  go_wp2_with fail
  go_ret
  exact ⟨v, rfl, HT.out _ _ h1, h1, h2⟩
end
end Go.Proofs.Ytdjchpejhfkknaa.Lw
