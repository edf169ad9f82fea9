/- One operation that alone may come up, in a region that is walked in two parts. Conditions: those of each lemma. -/
import Derived.Test.YtdjchpejhfkknaaGTwo
namespace Go.Proofs.Ytdjchpejhfkknaa.Dg
open Go.RowKit Gm
section
variable {P : Program} {ops : Array Oper} {Q : Exit → Act → World → Prop} {md : Region.Mode} {S : World → Prop} {n : Nat}
/-- The one that alone may come up, ahead of number n: S is to be shown anew. -/
theorem wpAnyT_one {i : Nat} {oi : Oper} {fuel : Nat} {listed : Array Bool} {a : Act} {w : World} (hi : ops[i]? = some oi)
    (hc : (Region.ready md ops listed == [i] && !listed.getD n false) = true)
    (h : ∀ K' : Act → World → Prop, Shut (∀ a w, S w → wpAnyT P md ops Q S n fuel (listed.setIfInBounds i true) a w → K' a w) → if Region.wanted oi (yielded ops a.tmps) = true then Oper.wp P oi a w K' Q else K' (a.put oi.dst undef) w) :
    wpAnyT P md ops Q S n (fuel + 1) listed a w := by
  simp only [Bool.and_eq_true, Bool.not_eq_true', beq_iff_eq] at hc
  obtain ⟨h1, h2⟩ := hc
  refine ⟨fun h => (by rw [h2] at h; cases h), fun _ => ⟨fun h => (by rw [h1] at h; cases h), fun j hj => ?_⟩⟩
  rw [h1] at hj
  have hji : j = i := by simpa using hj
  subst hji
  exact wpOp_step hi fun K' hK => h K' fun a w hS hw => hK a w ⟨fun _ => hS, hw⟩
theorem hide_T {f : Nat} {ls : Array Bool} {a : Act} {W : World} {X : World → Prop} (hX : X W) (h : ∀ W, X W → wpAnyT P md ops Q S n f ls a W) : wpAnyT P md ops Q S n f ls a W := h W hX
end
end Go.Proofs.Ytdjchpejhfkknaa.Dg
