/- Both readers read the same from the same text: for each of the five methods, what both give and what both have left. Conditions: the text has at most 2^20 bytes; a reader that has failed has nothing left; each lies in a block of its own. -/
import Derived.Test.YtocbodjmdgoaiaaDoorWRefZ
import Derived.Test.YtocbodjmdgoaiaaDoorWOnly
namespace Go.Proofs.YtocbodjmdgoaiaaDoor
open Go.RowKit Wm
set_option linter.unusedVariables false

/-- Both give v, and have rest' left. -/
def Both (fr fq : Nat) (rest : Bs) (f : Bool) (v : Value) (rest' : Bs) (f' : Bool) : Prop :=
  (∀ W r, Rdr W r rest f → Mx W → 0 < r → Calls Tryd.prog fr #[.pointer (some ⟨r, 0, none⟩)] W fun e w' => e = .returned v ∧ Rdr w' r rest' f' ∧ W.grownBy w' (some r)) ∧
  (∀ W q, Rdq W q rest f → Calls Tryd.prog fq #[.pointer (some ⟨q, 0, none⟩)] W fun e w' => e = .returned v ∧ Rdq w' q rest' f' ∧ W.grownBy w' (some q)) ∧
  rest'.length ≤ rest.length ∧ (f' = true → rest' = [])
theorem both_int {rest : Bs} {f : Bool} (hs : rest.length ≤ 1048576) (hf : f = true → rest = []) : ∃ m rest' f', Both 24 25 rest f (.int .i64 m) rest' f' := by
  cases hd : decI rest with
  | some p =>
    obtain ⟨m, u⟩ := p
    refine ⟨m, u, f, fun W r h _ _ => rint_yes h hs hd, fun W q h => (qint_any h hs).mono ?_, ?_, ?_⟩
    · rintro e w' (⟨m', u', hd', h1, h2, h3⟩ | ⟨hd', _⟩)
      · rw [hd] at hd'; cases hd'; exact ⟨h1, h2, h3⟩
      · rw [hd] at hd'; cases hd'
    · rw [(decI_some hd).2, List.length_append]; omega
    · intro hft; rw [hf hft] at hd; cases hd
  | none =>
    refine ⟨0, [], true, fun W r h _ _ => rint_no h hs hd, fun W q h => (qint_any h hs).mono ?_, by simp, fun _ => rfl⟩
    rintro e w' (⟨m', u', hd', h1, h2, h3⟩ | ⟨_, h1, h2, h3⟩)
    · rw [hd] at hd'; cases hd'
    · exact ⟨h1, h2, h3⟩
theorem both_num {rest : Bs} {f : Bool} (hs : rest.length ≤ 1048576) (hf : f = true → rest = []) : ∃ m rest' f', Both 22 23 rest f (.int .i64 m) rest' f' := by
  by_cases hc : decI rest = none ∨ ∃ m u, decI rest = some (m, u) ∧ m < 0
  · refine ⟨0, [], true, fun W r h _ _ => rnum_no h hs hc, fun W q h => (qnum_any h hs).mono ?_, by simp, fun _ => rfl⟩
    rintro e w' (⟨m', u', hd', h0, h1, h2, h3⟩ | ⟨_, h1, h2, h3⟩)
    · rcases hc with hc | ⟨m, u, hc, hm⟩
      · rw [hc] at hd'; cases hd'
      · rw [hc] at hd'; cases hd'; omega
    · exact ⟨h1, h2, h3⟩
  · cases hd : decI rest with
    | none => exact absurd (.inl hd) hc
    | some p =>
      obtain ⟨m, u⟩ := p
      have h0 : 0 ≤ m := Int.not_lt.1 (fun h => hc (.inr ⟨m, u, hd, h⟩))
      refine ⟨m, u, f, fun W r h _ _ => rnum_yes h hs hd h0, fun W q h => (qnum_any h hs).mono ?_, ?_, ?_⟩
      · rintro e w' (⟨m', u', hd', _, h1, h2, h3⟩ | ⟨hd', _⟩)
        · rw [hd] at hd'; cases hd'; exact ⟨h1, h2, h3⟩
        · exact absurd hd' hc
      · rw [(decI_some hd).2, List.length_append]; omega
      · intro hft; rw [hf hft] at hd; cases hd
theorem both_text {rest : Bs} {f : Bool} (hs : rest.length ≤ 1048576) (hf : f = true → rest = []) : ∃ x rest' f', Both 26 27 rest f (.string (sv x)) rest' f' := by
  cases hd : decT rest with
  | some p =>
    obtain ⟨x, u⟩ := p
    refine ⟨x, u, f, fun W r h hm _ => rtext_yes h hs hm hd, fun W q h => (qtext_any h hs).mono ?_, ?_, ?_⟩
    · rintro e w' (⟨m', u', hd', h1, h2, h3⟩ | ⟨hd', _⟩)
      · rw [hd] at hd'; cases hd'; exact ⟨h1, h2, h3⟩
      · rw [hd] at hd'; cases hd'
    · rw [decT_some _ _ _ hd, List.length_append]; omega
    · intro hft; rw [hf hft] at hd; cases hd
  | none =>
    refine ⟨[], [], true, fun W r h hm _ => rtext_no h hs hm hd, fun W q h => (qtext_any h hs).mono ?_, by simp, fun _ => rfl⟩
    rintro e w' (⟨m', u', hd', h1, h2, h3⟩ | ⟨_, h1, h2, h3⟩)
    · rw [hd] at hd'; cases hd'
    · exact ⟨h1, h2, h3⟩
/-- Both give a list of ints, and have rest' left. -/
def BothL (fr fq : Nat) (ty : TypeId) (rest : Bs) (f : Bool) (xs : List Value) (rest' : Bs) (f' : Bool) : Prop :=
  (∀ W r, Rdr W r rest f → Mx W → 0 < r → Calls Tryd.prog fr #[.pointer (some ⟨r, 0, none⟩)] W fun e w' => (∃ v, e = .returned v ∧ w'.ownsRow W.heap.size ty 1 v xs.length xs) ∧ Rdr w' r rest' f' ∧ W.grownBy w' (some r)) ∧
  (∀ W q, Rdq W q rest f → Calls Tryd.prog fq #[.pointer (some ⟨q, 0, none⟩)] W fun e w' => (∃ v, e = .returned v ∧ w'.ownsRow W.heap.size ty 1 v xs.length xs) ∧ Rdq w' q rest' f' ∧ W.grownBy w' (some q)) ∧
  rest'.length ≤ rest.length ∧ (f' = true → rest' = []) ∧ xs.length ≤ 1048576
theorem own_none (W : World) (b : Nat) (ty : TypeId) : W.ownsRow b ty 1 (.slice none 0 0) ([] : List Value).length [] := ⟨rfl, .inl ⟨rfl, rfl⟩⟩
theorem both_nums {rest : Bs} {f : Bool} (hs : rest.length ≤ 1048576) (hf : f = true → rest = []) : ∃ l rest' f', (∀ x ∈ l, J64 x) ∧ BothL 29 30 3 rest f (iv l) rest' f' := by
  by_cases hc : ∃ (l : List Int) (t : Bs), (∀ x ∈ l, J64 x) ∧ rest = encL encI l ++ t
  · obtain ⟨l, t, hl, he⟩ := hc
    have hu : ∀ l' t', (∀ x ∈ l', J64 x) → rest = encL encI l' ++ t' → l' = l ∧ t' = t := fun l' t' hl' he' => encL_inj J64 inj_ints _ _ _ _ hl' hl (he'.symm.trans he)
    refine ⟨l, t, f, hl, fun W r h hm hg => (rnums_any h hs).mono ?_, fun W q h => (qnums_any h hs hf).mono ?_, ?_, ?_⟩
    · rintro e w' (⟨l', t', v, hl', he', rfl, h1, h2, h3⟩ | ⟨hn, _⟩)
      · obtain ⟨rfl, rfl⟩ := hu l' t' hl' he'
        exact ⟨⟨v, rfl, by simpa [iv] using h1⟩, h2, h3⟩
      · exact absurd ⟨l, t, hl, he⟩ hn
    · rintro e w' (⟨l', t', v, hl', he', rfl, h1, h2, h3⟩ | ⟨hn, _⟩)
      · obtain ⟨rfl, rfl⟩ := hu l' t' hl' he'
        exact ⟨⟨v, rfl, by simpa [iv] using h1⟩, h2, h3⟩
      · exact absurd ⟨l, t, hl, he⟩ hn
    · rw [he, List.length_append]; omega
    · refine ⟨fun hft => ?_, ?_⟩
      · have := hf hft
        rw [he] at this
        exact absurd this.symm (encL_ne encI l t)
      · have h1 := pre_count encI l
        have h2 := congrArg List.length he
        simp only [encL, List.length_append] at h2
        simp only [iv, List.length_map]
        omega
  · refine ⟨[], [], true, by simp, fun W r h hm hg => (rnums_any h hs).mono ?_, fun W q h => (qnums_any h hs hf).mono ?_, by simp, fun _ => rfl, (Nat.zero_le _ : (0 : Nat) ≤ 1048576)⟩
    · rintro e w' (⟨l', t', v, hl', he', _⟩ | ⟨_, rfl, h2, h3⟩)
      · exact absurd ⟨l', t', hl', he'⟩ hc
      · exact ⟨⟨_, rfl, own_none _ _ _⟩, h2, h3⟩
    · rintro e w' (⟨l', t', v, hl', he', _⟩ | ⟨_, rfl, h2, h3⟩)
      · exact absurd ⟨l', t', hl', he'⟩ hc
      · exact ⟨⟨_, rfl, own_none _ _ _⟩, h2, h3⟩
theorem both_texts {rest : Bs} {f : Bool} (hs : rest.length ≤ 1048576) (hf : f = true → rest = []) : ∃ l rest' f', BothL 32 33 9 rest f (tv l) rest' f' := by
  by_cases hc : ∃ (l : List Bs) (t : Bs), (∀ x ∈ l, True) ∧ rest = encL encT l ++ t
  · obtain ⟨l, t, hl, he⟩ := hc
    have hu : ∀ l' t', (∀ x ∈ l', True) → rest = encL encT l' ++ t' → l' = l ∧ t' = t := fun l' t' hl' he' => encL_inj (fun _ => True) inj_texts _ _ _ _ hl' hl (he'.symm.trans he)
    refine ⟨l, t, f, fun W r h hm hg => (rtexts_any h hs hm hg).mono ?_, fun W q h => (qtexts_any h hs hf).mono ?_, ?_, ?_⟩
    · rintro e w' (⟨l', t', v, hl', he', rfl, h1, h2, h3⟩ | ⟨hn, _⟩)
      · obtain ⟨rfl, rfl⟩ := hu l' t' hl' he'
        exact ⟨⟨v, rfl, by simpa [tv] using h1⟩, h2, h3⟩
      · exact absurd ⟨l, t, hl, he⟩ hn
    · rintro e w' (⟨l', t', v, hl', he', rfl, h1, h2, h3⟩ | ⟨hn, _⟩)
      · obtain ⟨rfl, rfl⟩ := hu l' t' hl' he'
        exact ⟨⟨v, rfl, by simpa [tv] using h1⟩, h2, h3⟩
      · exact absurd ⟨l, t, hl, he⟩ hn
    · rw [he, List.length_append]; omega
    · refine ⟨fun hft => ?_, ?_⟩
      · have := hf hft
        rw [he] at this
        exact absurd this.symm (encL_ne encT l t)
      · have h1 := pre_count encT l
        have h2 := congrArg List.length he
        simp only [encL, List.length_append] at h2
        simp only [tv, List.length_map]
        omega
  · refine ⟨[], [], true, fun W r h hm hg => (rtexts_any h hs hm hg).mono ?_, fun W q h => (qtexts_any h hs hf).mono ?_, by simp, fun _ => rfl, (Nat.zero_le _ : (0 : Nat) ≤ 1048576)⟩
    · rintro e w' (⟨l', t', v, hl', he', _⟩ | ⟨_, rfl, h2, h3⟩)
      · exact absurd ⟨l', t', hl', he'⟩ hc
      · exact ⟨⟨_, rfl, own_none _ _ _⟩, h2, h3⟩
    · rintro e w' (⟨l', t', v, hl', he', _⟩ | ⟨_, rfl, h2, h3⟩)
      · exact absurd ⟨l', t', hl', he'⟩ hc
      · exact ⟨⟨_, rfl, own_none _ _ _⟩, h2, h3⟩
end Go.Proofs.YtocbodjmdgoaiaaDoor
