/- Plain mathematics of two appends of one file and one of another between them: what a crash leaves of them. Conditions: those of each lemma. -/
import Derived.Test.YtjgedopbcopnkaaKFacts
namespace Go.Proofs.Ytjgedopbcopnkaa
namespace Km

def r1 (a : Bs) : St := pushS Km.new 5 a
def r2 (a c : Bs) : St := pushS (r1 a) 6 c
def r3 (a b c : Bs) : St := pushS (r2 a c) 5 b
theorem r3_eq {a b c : Bs} (ha : a ≠ []) (hb : b ≠ []) (hc : c ≠ []) :
    r3 a b c = ⟨upd (upd (upd (fun _ => []) 5 a) 6 c) 5 (a ++ b), fun _ => 0, [(5, a.length), (6, c.length), (5, b.length)], false, 0, 0, []⟩ := by
  have e1 : r1 a = ⟨upd (fun _ => []) 5 a, fun _ => 0, [(5, a.length)], false, 0, 0, []⟩ := by unfold r1 pushS; rw [if_neg ha]; rfl
  have e2 : r2 a c = ⟨upd (upd (fun _ => []) 5 a) 6 c, fun _ => 0, [(5, a.length), (6, c.length)], false, 0, 0, []⟩ := by
    unfold r2 pushS
    rw [if_neg hc, e1]
    simp [upd]
  unfold r3 pushS
  rw [if_neg hb, e2]
  simp [upd]
theorem ite_app {c : Prop} [Decidable c] (f g : Nat → Nat) (n : Nat) : (if c then f else g) n = if c then f n else g n := by split <;> rfl
theorem n56 : ((5 : Nat) = 6) = False := by simp
theorem n65 : ((6 : Nat) = 5) = False := by simp
theorem zero_cat (a b : Bs) (x : Nat) (hx : x ≤ a.length) : zero (a ++ b) x a.length = a.take x ++ List.replicate (a.length - x) 0 ++ b := by
  unfold zero
  rw [List.take_append_of_le_length hx, List.drop_left]
theorem re6 {a b c : Bs} (ha : a ≠ []) (hb : b ≠ []) (hc : c ≠ []) (ks : List Int) : (crashS ks (r3 a b c)).F 6 = c.take (surv ks 1 c.length) := by
  rw [r3_eq ha hb hc, crash_up rfl]
  show ((cup ks [(5, a.length), (6, c.length), (5, b.length)] _ 3).F 6).take ((cup ks [(5, a.length), (6, c.length), (5, b.length)] _ 3).U 6) = _
  simp only [cup, List.getElem?_cons_zero, List.getElem?_cons_succ, cstep]
  have hs := surv_le ks 1 c.length
  generalize surv ks 1 c.length = z at *
  generalize surv ks 0 a.length = x at *
  generalize surv ks 2 b.length = y at *
  simp [upd]
  have hzt := zero_take c z c.length z (Nat.le_refl _) hs
  rw [← hzt]
  congr 1
  by_cases hz : 0 < z <;> by_cases hx : 0 < x <;> by_cases hy : 0 < y
  all_goals first | (simp [hz, hx, hy, upd]; done) | (simp [hz, hx, hy, upd]; omega)
theorem re5 {a b c : Bs} (ha : a ≠ []) (hb : b ≠ []) (hc : c ≠ []) (ks : List Int) :
    (crashS ks (r3 a b c)).F 5 = if surv ks 2 b.length = 0 then a.take (surv ks 0 a.length) else a.take (surv ks 0 a.length) ++ List.replicate (a.length - surv ks 0 a.length) 0 ++ b.take (surv ks 2 b.length) := by
  rw [r3_eq ha hb hc, crash_up rfl]
  show ((cup ks [(5, a.length), (6, c.length), (5, b.length)] _ 3).F 5).take ((cup ks [(5, a.length), (6, c.length), (5, b.length)] _ 3).U 5) = _
  simp only [cup, List.getElem?_cons_zero, List.getElem?_cons_succ, cstep]
  have hsx := surv_le ks 0 a.length
  have hsy := surv_le ks 2 b.length
  generalize surv ks 1 c.length = z at *
  generalize surv ks 0 a.length = x at *
  generalize surv ks 2 b.length = y at *
  simp [upd]
  have hz1 : (zero (a ++ b) x a.length).length = a.length + b.length := by rw [zero_length _ _ _ hsx (by simp), List.length_append]
  have hfin : ((zero (zero (a ++ b) x a.length) (a.length + y) (a.length + b.length)).take (if 0 < y then a.length + y else x)) = if y = 0 then a.take x else a.take x ++ (List.replicate (a.length - x) 0 ++ b.take y) := by
    by_cases hy : y = 0
    · subst hy
      rw [if_pos rfl, if_neg (by omega), zero_take _ _ _ _ (by omega) (by omega), zero_take _ _ _ _ (Nat.le_refl _) (by simp; omega), List.take_append_of_le_length hsx]
    · rw [if_neg hy, if_pos (by omega), zero_take _ _ _ _ (Nat.le_refl _) (by omega), zero_cat a b x hsx]
      have hl : (a.take x ++ List.replicate (a.length - x) 0).length = a.length := by simp; omega
      rw [List.take_append (l₁ := a.take x ++ List.replicate (a.length - x) 0), hl, List.take_of_length_le (by omega), Nat.add_sub_cancel_left, List.append_assoc]
  rw [← hfin]
  congr 1
  by_cases hz : 0 < z <;> by_cases hx : 0 < x <;> by_cases hy : 0 < y
  all_goals first | (simp [hz, hx, hy, upd]; done) | (simp [hz, hx, hy, upd]; omega)
end Km
end Go.Proofs.Ytjgedopbcopnkaa
