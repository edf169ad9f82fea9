/- A region whose loads come before a call and whose stores come behind it: what is known of the world is handed on up to the call alone. Conditions: those of each lemma. -/
import Derived.Test.YtdjchpejhfkknaaGWords
import Derived.OrdersHeld
import Derived.RegionTactic
import Derived.Deep.RegionHeld3
namespace Go.Proofs.Ytdjchpejhfkknaa.Dg
open Go.RowKit Gm
section
variable {P : Program} {ops : Array Oper} {Q : Exit → Act → World → Prop} {md : Region.Mode} {S : World → Prop} {n : Nat}

/-- Whatever has come up, all that it waits for has come up. -/
def Down (md : Region.Mode) (ops : Array Oper) (listed : Array Bool) : Prop :=
  ∀ (k : Nat) (o : Oper), ops[k]? = some o → listed.getD k false = true → ∀ e ∈ o.after, Region.binds md e = true → listed.getD e.on false = true
def downB (md : Region.Mode) (ops : Array Oper) (listed : Array Bool) : Bool :=
  (List.range ops.size).all fun k => match ops[k]? with
    | none => true
    | some o => !listed.getD k false || o.after.all fun e => !Region.binds md e || listed.getD e.on false
theorem downB_spec {listed : Array Bool} (h : downB md ops listed = true) : Down md ops listed := by
  intro k o ho hk e he hb
  simp only [downB, List.all_eq_true, List.mem_range] at h
  have h1 := h k (Array.getElem?_eq_some_iff.1 ho).1
  simp only [ho, hk, Bool.not_true, Bool.false_or] at h1
  have h2 := Array.all_eq_true_iff_forall_mem.1 h1 e he
  simpa [hb] using h2
theorem getD_set_false {listed : Array Bool} {i j : Nat} (d : Bool) (h : (listed.setIfInBounds i true).getD j d = true) : listed.getD j d = true ∨ j = i := by
  by_cases hij : i = j
  · exact .inr hij.symm
  · left; rw [getD_set_ne d hij] at h; exact h
theorem Down.step {listed : Array Bool} (h : Down md ops listed) {j : Nat} (hj : j ∈ Region.ready md ops listed) : Down md ops (listed.setIfInBounds j true) := by
  obtain ⟨_, oj, hoj, hall⟩ := mem_ready.1 hj
  intro k o ho hk e he hb
  rcases getD_set_false false hk with hk | rfl
  · exact getD_set_true (h k o ho hk e he hb)
  · rw [ho] at hoj
    cases hoj
    exact getD_set_true (hall e he hb)
/-- Number n waits for number i, by some way. -/
def waits (md : Region.Mode) (ops : Array Oper) (i : Nat) : Nat → Nat → Bool
  | 0, _ => false
  | f + 1, k => match ops[k]? with
    | none => false
    | some o => o.after.any fun e => Region.binds md e && (e.on == i || waits md ops i f e.on)
theorem waits_listed {listed : Array Bool} (hd : Down md ops listed) {i : Nat} : ∀ (f k : Nat) (o : Oper), ops[k]? = some o → waits md ops i f k = true → (∀ e ∈ o.after, Region.binds md e = true → listed.getD e.on false = true) → listed.getD i false = true := by
  intro f
  induction f with
  | zero => intro k o _ h; cases h
  | succ f ih =>
    intro k o ho h hall
    simp only [waits, ho] at h
    obtain ⟨e, he, hb⟩ := Array.any_eq_true'.1 h
    simp only [Bool.and_eq_true, Bool.or_eq_true, beq_iff_eq] at hb
    rcases hb with ⟨hb, rfl | hw⟩
    · exact hall e he hb
    · have hl := hall e he hb
      cases ho' : ops[e.on]? with
      | none => 
        cases f with
        | zero => cases hw
        | succ f => simp [waits, ho'] at hw
      | some o' => exact ih e.on o' ho' hw (fun e' he' hb' => hd _ _ ho' hl e' he' hb')

/-- Up to number n: S holds behind every operation; from there on: whatever order. -/
def wpAnyT (P : Program) (md : Region.Mode) (ops : Array Oper) (Q : Exit → Act → World → Prop) (S : World → Prop) (n : Nat) : Nat → Array Bool → Act → World → Prop
  | 0, listed, a, w => wpAny P md ops Q 0 listed a w
  | fuel + 1, listed, a, w =>
    (listed.getD n false = true → wpAny P md ops Q (fuel + 1) listed a w) ∧
    (listed.getD n false = false → (Region.ready md ops listed = [] → Q .normal a w) ∧
      ∀ i ∈ Region.ready md ops listed, wpOp P ops Q i (fun a' w' => (i ≠ n → S w') ∧ wpAnyT P md ops Q S n fuel (listed.setIfInBounds i true) a' w') a w)
theorem wpAny_of_T : ∀ (fuel : Nat) (listed : Array Bool) (a : Act) (w : World), wpAnyT P md ops Q S n fuel listed a w → wpAny P md ops Q fuel listed a w
  | 0, _, _, _, h => h
  | fuel + 1, listed, a, w, h => by
    cases hn : listed.getD n false with
    | true => exact h.1 hn
    | false => exact ⟨(h.2 hn).1, fun i hi => wpOp_mono (fun a' w' h' => wpAny_of_T fuel _ a' w' h'.2) ((h.2 hn).2 i hi)⟩
theorem wpAnyT_first {i : Nat} {oi : Oper} {v : Value} (hi : ops[i]? = some oi) (hsel : ∀ (j : Nat) (o : Oper) cs b, ops[j]? = some o → o.op ≠ .select cs b)
    (hQ : ∀ c a w, Q (.panic c) (a.put oi.dst v) w → Q (.panic c) a w) (hne : i ≠ n) (hw : waits md ops i ops.size n = true) :
    ∀ (fuel : Nat) (listed : Array Bool) (a : Act) (w : World), Down md ops listed → listed.getD n false = false →
      (∀ j oj, ops[j]? = some oj → j ≠ i → listed.getD j true = false → (∀ e ∈ oj.after, Region.binds md e = true → e.on ≠ i) → oi.apart ops oj = true) →
      i ∈ Region.ready md ops listed → YieldsIf P ops S oi v a → S w →
      wpAnyT P md ops Q S n fuel (listed.setIfInBounds i true) (a.put oi.dst v) w → wpAnyT P md ops Q S n (fuel + 1) listed a w := by
  intro fuel
  have hset : ∀ listed : Array Bool, listed.getD n false = false → (listed.setIfInBounds i true).getD n false = false := fun listed h => by rw [getD_set_ne false hne]; exact h
  have hnr : ∀ listed : Array Bool, Down md ops listed → i ∈ Region.ready md ops listed → n ∉ Region.ready md ops listed := fun listed hd hr hn => by
    obtain ⟨_, on, hon, hall⟩ := mem_ready.1 hn
    have h1 := waits_listed hd ops.size n on hon hw hall
    have h0 := (mem_ready.1 hr).1
    rcases Nat.lt_or_ge i listed.size with h' | h'
    · simp [h'] at h0 h1; rw [h0] at h1; cases h1
    · simp [Array.getElem?_eq_none h'] at h1
  induction fuel with
  | zero =>
    intro listed a w hd hn _ hr hy hS H
    refine ⟨fun h => (by rw [hn] at h; cases h), fun _ => ⟨fun h => (by rw [h] at hr; cases hr), fun j hj => ?_⟩⟩
    by_cases hji : j = i
    · subst hji; exact hy.wpOp hi hS ⟨fun _ => hS, H⟩
    · have := ready_mono hj hji
      rw [H.1] at this
      cases this
  | succ fuel ih =>
    intro listed a w hd hn hfree hr hy hS H
    refine ⟨fun h => (by rw [hn] at h; cases h), fun _ => ⟨fun h => (by rw [h] at hr; cases hr), fun j hj => ?_⟩⟩
    by_cases hji : j = i
    · subst hji; exact hy.wpOp hi hS ⟨fun _ => hS, H⟩
    · have hjn : j ≠ n := fun e => hnr listed hd hr (e ▸ hj)
      have h1 := (H.2 (hset listed hn)).2 j (ready_mono hj hji)
      obtain ⟨hjun, oj, hoj, hall⟩ := mem_ready.1 hj
      have hnot : ∀ e ∈ oj.after, Region.binds md e = true → e.on ≠ i := fun e he hb heq => by
        have h1 := hall e he hb
        have h0 := (mem_ready.1 hr).1
        rw [heq] at h1
        rcases Nat.lt_or_ge i listed.size with h' | h'
        · simp [h'] at h0 h1; rw [h0] at h1; cases h1
        · simp [Array.getElem?_eq_none h'] at h1
      have h2 := wpOp_putIf hoj (hfree j oj hoj hji hjun hnot) (fun cs b => hsel i oi cs b hi) (fun cs b => hsel j oj cs b hoj) hQ hy h1
      have hfree' : ∀ k ok, ops[k]? = some ok → k ≠ i → (listed.setIfInBounds j true).getD k true = false →
          (∀ e ∈ ok.after, Region.binds md e = true → e.on ≠ i) → oi.apart ops ok = true := fun k ok hk hki hun hno => by
        refine hfree k ok hk hki ?_ hno
        by_cases hjk : j = k
        · subst hjk; exact hjun
        · rw [getD_set_ne true hjk] at hun; exact hun
      refine wpOp_mono (fun a' w' h3 => ⟨h3.2.1, ih (listed.setIfInBounds j true) a' w' (hd.step hj) ?_ hfree' (ready_mono hr (Ne.symm hji)) h3.1 (h3.2.1 hjn) ?_⟩) h2
      · rw [getD_set_ne false hjn]; exact hn
      · rw [Array.setIfInBounds_comm _ _ hji]
        exact h3.2.2
/-- Take number i first. -/
theorem wpAnyT_take {i : Nat} {oi : Oper} {v : Value} {fuel : Nat} {listed : Array Bool} {a : Act} {w : World} (hi : ops[i]? = some oi)
    (hc : (Region.noSelect ops && Region.free md ops listed i && (Region.ready md ops listed).contains i && !(i == n) && waits md ops i ops.size n && downB md ops listed && !listed.getD n false) = true)
    (hQ : ∀ c a w, Q (.panic c) (a.put oi.dst v) w → Q (.panic c) a w) (hy : YieldsIf P ops S oi v a) (hS : S w)
    (h : wpAnyT P md ops Q S n fuel (listed.setIfInBounds i true) (a.put oi.dst v) w) : wpAnyT P md ops Q S n (fuel + 1) listed a w := by
  simp only [Bool.and_eq_true, Bool.not_eq_true', beq_eq_false_iff_ne] at hc
  obtain ⟨⟨⟨⟨⟨⟨h1, h2⟩, h3⟩, h4⟩, h5⟩, h6⟩, h7⟩ := hc
  exact wpAnyT_first hi (Region.noSelect_spec h1) hQ h4 h5 fuel listed a w (downB_spec h6) h7 (Region.free_spec hi h2) (by simpa using h3) hy hS h
/-- Number n itself, which alone may come up; from there on whatever order. -/
theorem wpAnyT_gate {on : Oper} {fuel : Nat} {listed : Array Bool} {a : Act} {w : World} (hn : ops[n]? = some on)
    (hc : (Region.ready md ops listed == [n] && !listed.getD n false && (listed.setIfInBounds n true).getD n false) = true)
    (h : ∀ K' : Act → World → Prop, Shut (∀ a w, wpAny P md ops Q fuel (listed.setIfInBounds n true) a w → K' a w) → if Region.wanted on (yielded ops a.tmps) = true then Oper.wp P on a w K' Q else K' (a.put on.dst undef) w) :
    wpAnyT P md ops Q S n (fuel + 1) listed a w := by
  simp only [Bool.and_eq_true, Bool.not_eq_true', beq_iff_eq] at hc
  obtain ⟨⟨h1, h2⟩, h3⟩ := hc
  refine ⟨fun h => (by rw [h2] at h; cases h), fun _ => ⟨fun h => (by rw [h1] at h; cases h), fun j hj => ?_⟩⟩
  rw [h1] at hj
  have hjn : j = n := by simpa using hj
  subst hjn
  refine wpOp_step hn fun K' hK => h K' fun a w hw => hK a w ⟨fun hne => absurd rfl hne, ?_⟩
  cases fuel with
  | zero => exact hw
  | succ f => exact ⟨fun _ => hw, fun h => (by rw [h3] at h; cases h)⟩
/-- The one that alone may come up. -/
theorem wpAny_one {i : Nat} {oi : Oper} {fuel : Nat} {listed : Array Bool} {a : Act} {w : World} (hi : ops[i]? = some oi) (hc : (Region.ready md ops listed == [i]) = true)
    (h : ∀ K' : Act → World → Prop, Shut (∀ a w, wpAny P md ops Q fuel (listed.setIfInBounds i true) a w → K' a w) → if Region.wanted oi (yielded ops a.tmps) = true then Oper.wp P oi a w K' Q else K' (a.put oi.dst undef) w) :
    wpAny P md ops Q (fuel + 1) listed a w := by
  have h1 : Region.ready md ops listed = [i] := by simpa using hc
  refine wpAny_all h1 (by simp) fun j hj => ?_
  have hj' : j = i := by simpa using hj
  subst hj'
  exact wpOp_step hi h
theorem wp_region_T {id : Nat} {a : Act} {w : World} (n : Nat) (S : World → Prop) (hm : P.follows .mixedOrders = true)
    (h : wpAnyT P .any ops Q S n ops.size (Array.replicate ops.size false) a w.drew) : (Code.region id ops true).wp P Q a w :=
  wp_region_any hm (wpAny_of_T _ _ _ _ h)
end
end Go.Proofs.Ytdjchpejhfkknaa.Dg
