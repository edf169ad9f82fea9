/- What Parse and Hour return, named once for all calls. Conditions: those of each lemma. -/
import Derived.Test.YtanjkjendppigaaDoorDCard
namespace Go.Proofs.YtanjkjendppigaaDoor.Dy
open Go.RowKit Cal
set_option linter.unusedVariables false

theorem parse_det (l : Bs) : ∃ (n : Int) (b : Bool), (∀ v, IsParse l v → v = .tuple #[.int .i64 n, .bool b]) ∧ ((b = true ∧ ∃ t : Nat, t ≤ 16777216 ∧ n = (t : Int) ∧ text t = l) ∨ (b = false ∧ n = 0)) := by
  by_cases h : ∃ t, t ≤ 16777216 ∧ text t = l
  · obtain ⟨t, h1, h2⟩ := h
    exact ⟨t, true, fun v hv => isParse_of h1 h2 hv, Or.inl ⟨rfl, t, h1, rfl, h2⟩⟩
  · refine ⟨0, false, fun v hv => ?_, Or.inr ⟨rfl, rfl⟩⟩
    rcases hv with ⟨t, h1, h2, _⟩ | ⟨_, rfl⟩
    · exact absurd ⟨t, h1, h2⟩ h
    · rfl
theorem parse_at {l : Bs} {n : Int} {b : Bool} (hd : ∀ v, IsParse l v → v = .tuple #[.int .i64 n, .bool b]) (hm : l.length ≤ 140737488355328) (w : World) (hW : Wd w) : Calls Tryd.prog 16 #[.string (sv l)] w fun e w' => e = .returned (.tuple #[.int .i64 n, .bool b]) ∧ Below w.heap.size w w' :=
  (parse_any l hm w hW).mono fun e w' ⟨v, he, hv, hb⟩ => ⟨by rw [he, hd v hv], hb⟩
theorem rparse_at {l : Bs} {n : Int} {b : Bool} (hd : ∀ v, IsParse l v → v = .tuple #[.int .i64 n, .bool b]) (hm : l.length ≤ 140737488355328) (w : World) : Calls Tryd.prog 17 #[.string (sv l)] w fun e w' => e = .returned (.tuple #[.int .i64 n, .bool b]) ∧ Below w.heap.size w w' :=
  (rparse_any l hm w).mono fun e w' ⟨v, he, hv, hb⟩ => ⟨by rw [he, hd v hv], hb⟩
theorem ofV_nat {t : Nat} (h : t ≤ 16777216) : ofV (t : Int) = .tuple #[dtv (dateOf t), .bool true] := ofV_good (decide_eq_true (by omega))
theorem ofV_okI {y m d h : Int} (hok : okI y m d h) : ofV (hourN y m d h) = .tuple #[dv y m d h, .bool true] := by
  obtain ⟨⟨g1, g2, g3, g4, g5, g6, g7⟩, g8⟩ := hok
  unfold hourN
  rw [if_pos ⟨⟨g1, g2, g3, g4, g5, g6, g7⟩, g8⟩, ofV_nat g8]
  obtain ⟨yn, rfl⟩ : ∃ n : Nat, y = (n : Int) := ⟨y.toNat, by omega⟩
  obtain ⟨mn, rfl⟩ : ∃ n : Nat, m = (n : Int) := ⟨m.toNat, by omega⟩
  obtain ⟨dn, rfl⟩ : ∃ n : Nat, d = (n : Int) := ⟨d.toNat, by omega⟩
  obtain ⟨hn, rfl⟩ : ∃ n : Nat, h = (n : Int) := ⟨h.toNat, by omega⟩
  rw [lenI_nat] at g5
  simp only [Int.toNat_natCast]
  have hk : Ok yn mn dn hn := ⟨by omega, by omega, by omega, by omega, by omega, by omega⟩
  rw [dateOf_hourOf hk]
  rfl
theorem hourV_date {t : Nat} (ht : t ≤ 16777216) : hourV (dateOf t).y (dateOf t).m (dateOf t).d (dateOf t).h = .tuple #[.int .i64 ((t : Nat) : Int), .bool true] := by
  obtain ⟨h1, h2⟩ := okI_date ht
  rw [hourV_some h1, h2]
theorem textB_nat {t : Nat} (ht : t ≤ 16777216) : textB (t : Int) = text t := by unfold textB; rw [if_pos (show isH (t : Int) = true from decide_eq_true (by omega)), Int.toNat_natCast]
theorem ofV_shape (h : Int) : ∃ (a b c d : Int) (o : Bool), ofV h = .tuple #[dv a b c d, .bool o] := by
  unfold ofV
  split
  · exact ⟨_, _, _, _, _, rfl⟩
  · exact ⟨_, _, _, _, _, rfl⟩
end Go.Proofs.YtanjkjendppigaaDoor.Dy
