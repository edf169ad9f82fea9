/- Plain mathematics of a disk: what the calls do to a disk that is up and has no schedule, and what a crash leaves. Conditions: those of each lemma. -/
import Derived.Test.YtdjchpejhfkknaaKMath
namespace Go.Proofs.Ytdjchpejhfkknaa
namespace Km

theorem crash_down {s : St} (h : s.down = true) (ks : List Int) : crashS ks s = s := by unfold crashS; rw [h]; rfl
theorem crash_up {s : St} (h : s.down = false) (ks : List Int) : crashS ks s = { F := fun f => ((cEnd ks s).F f).take ((cEnd ks s).U f), U := (cEnd ks s).U, L := [], down := true, lose := s.lose, crash := 0, keep := [] } := by unfold crashS; rw [h]; rfl
theorem crash_isdown (s : St) (ks : List Int) : (crashS ks s).down = true := by
  unfold crashS
  split
  · assumption
  · rfl
/-- What a crash leaves begins with what was durable, is not longer, and its bytes are those from before, or 0. -/
theorem crash_file {s : St} (h : Wf s) (ks : List Int) {f : Nat} (hf : f < 8) :
    ((crashS ks s).F f).length ≤ (s.F f).length ∧ ((crashS ks s).F f).take (s.U f) = (s.F f).take (s.U f) ∧ s.U f ≤ ((crashS ks s).F f).length ∧
      ∀ j, j < ((crashS ks s).F f).length → ((crashS ks s).F f)[j]? = some ((s.F f).getD j 0) ∨ ((crashS ks s).F f)[j]? = some 0 := by
  cases hd : s.down with
  | true =>
    rw [crash_down hd]
    have := h.sums f hf
    refine ⟨Nat.le_refl _, rfl, by omega, fun j hj => .inl ?_⟩
    rw [List.getD_eq_getElem?_getD, List.getElem?_eq_getElem hj]
    rfl
  | false =>
    rw [crash_up hd]
    have hc := ci_end h ks
    have h1 := hc.len f hf
    have h2 := hc.low f hf
    have h3 := hc.dur f hf
    have h4 := hc.top f hf
    have h5 := hc.keep f hf
    have hl : (((cEnd ks s).F f).take ((cEnd ks s).U f)).length = (cEnd ks s).U f := by rw [List.length_take]; omega
    refine ⟨by show (List.take _ _).length ≤ _; omega, ?_, by show _ ≤ (List.take _ _).length; omega, fun j hj => ?_⟩
    · show (List.take _ (List.take _ _)) = _
      rw [List.take_take, Nat.min_eq_left h2]
      exact h5
    · have hj' : j < (cEnd ks s).U f := by rw [← hl]; exact hj
      show (List.take _ _)[j]? = _ ∨ (List.take _ _)[j]? = _
      rw [List.getElem?_take_of_lt hj']
      exact hc.byte f hf j (by omega)
theorem crash_full {s : St} (h : Wf s) (ks : List Int) {f : Nat} (hf : f < 8) (hu : s.U f = (s.F f).length) : (crashS ks s).F f = s.F f := by
  obtain ⟨h1, h2, h3, _⟩ := crash_file h ks hf
  rw [hu, List.take_length] at h2
  rw [List.take_of_length_le h1] at h2
  exact h2
/-- After a crash all is durable. -/
theorem crash_all {s : St} (h : Wf s) (ks : List Int) (hd : s.down = false) {f : Nat} (hf : f < 8) : (crashS ks s).U f = ((crashS ks s).F f).length := by
  rw [crash_up hd]
  have hc := ci_end h ks
  have h1 := hc.len f hf
  have h3 := hc.dur f hf
  have h4 := hc.top f hf
  show (cEnd ks s).U f = (((cEnd ks s).F f).take ((cEnd ks s).U f)).length
  rw [List.length_take]
  omega

/-- A disk that is up, with no schedule and no lost flushes. -/
structure Idl (s : St) : Prop where
  up : s.down = false
  crash : s.crash = 0
theorem calm_due {s : St} (h : Idl s) : dueB s = false ∧ dueS s = s := by
  obtain ⟨h1, h2⟩ := h
  refine ⟨by unfold dueB; rw [h1, h2]; rfl, ?_⟩
  unfold dueS
  rw [h1, h2]
  cases s
  simp_all
theorem calm_ent {s : St} (h : Idl s) : entS s = s := by
  unfold entS
  rw [(calm_due h).1, (calm_due h).2]
  rfl
theorem calm_chk {s : St} (h : Idl s) : chk s true = 0 := by unfold chk; rw [h.up]; rfl
def pushS (s : St) (f : Nat) (b : Bs) : St := if b = [] then s else { s with F := upd s.F f (s.F f ++ b), L := s.L ++ [(f, b.length)] }
theorem pushS_F (s : St) (f : Nat) (b : Bs) : (pushS s f b).F f = s.F f ++ b := by
  unfold pushS
  split
  · next h => rw [h, List.append_nil]
  · exact upd_same _ _ _
theorem pushS_other (s : St) (f g : Nat) (b : Bs) (h : g ≠ f) : (pushS s f b).F g = s.F g := by
  unfold pushS
  split
  · rfl
  · exact upd_other _ _ _ _ h
theorem pushS_U (s : St) (f : Nat) (b : Bs) : (pushS s f b).U = s.U := by unfold pushS; split <;> rfl
theorem pushS_calm {s : St} (h : Idl s) (f : Nat) (b : Bs) : Idl (pushS s f b) := by
  unfold pushS
  split
  · exact h
  · exact ⟨h.up, h.crash⟩
theorem pushS_lose (s : St) (f : Nat) (b : Bs) : (pushS s f b).lose = s.lose := by unfold pushS; split <;> rfl
theorem okF_nat {f : Nat} (hf : f < 8) : okF (f : Int) = true := by unfold okF; simp; omega
theorem addE_ok {s : St} (hu : s.down = false) {f : Nat} (hf : f < 8) {b : Bs} (hl : (s.F f).length + b.length ≤ 16777216) : addE s (f : Int) b = 0 := by
  have hk : chk s (okF (f : Int)) = 0 := by rw [okF_nat hf]; unfold chk; rw [hu]; rfl
  unfold addE
  rw [if_pos hk, Int.toNat_natCast, if_neg (by omega)]
theorem addS_ok {s : St} (hu : s.down = false) {f : Nat} (hf : f < 8) {b : Bs} (hl : (s.F f).length + b.length ≤ 16777216) : addS s (f : Int) b = pushS s f b := by
  have h1 := addE_ok hu hf hl
  unfold addS pushS
  rw [h1, Int.toNat_natCast]
  by_cases hb : b = []
  · rw [if_neg (fun h => h.2 hb), if_pos hb]
  · rw [if_pos ⟨rfl, hb⟩, if_neg hb]
theorem app_calm {s : St} (h : Idl s) {f : Nat} (hf : f < 8) {b : Bs} (hl : (s.F f).length + b.length ≤ 16777216) : appE s (f : Int) b = 0 ∧ appS s (f : Int) b = pushS s f b := by
  obtain ⟨h1, h2⟩ := calm_due h
  unfold appE appS
  rw [h1, h2]
  exact ⟨addE_ok h.up hf hl, addS_ok h.up hf hl⟩
theorem flu_calm {s : St} (h : Idl s) (hl : s.lose = 0) {f : Nat} (hf : f < 8) : fluE s (f : Int) = 0 ∧ fluS s (f : Int) = fitS f (durS f s) := by
  unfold fluE fluS
  rw [calm_ent h, okF_nat hf, calm_chk h, hl, Int.toNat_natCast]
  exact ⟨rfl, rfl⟩
theorem tur_calm {s : St} (h : Idl s) {f g : Nat} (hf : f < 8) (hg : g < 8) (hne : f ≠ g) :
    turE s (f : Int) (g : Int) = (if s.U g < (s.F g).length then 10 else 0) ∧ turS s (f : Int) (g : Int) = if s.U g < (s.F g).length then s else fitS f (movS f g s) := by
  have h1 : turE s (f : Int) (g : Int) = (if s.U g < (s.F g).length then 10 else 0) := by
    unfold turE
    rw [calm_ent h, okF_nat hf, okF_nat hg, Bool.and_self, calm_chk h, if_pos rfl, if_neg (by omega), Int.toNat_natCast]
  refine ⟨h1, ?_⟩
  unfold turS
  rw [h1, calm_ent h, Int.toNat_natCast, Int.toNat_natCast]
  by_cases hu : s.U g < (s.F g).length
  · rw [if_pos hu, if_neg (by decide), if_pos hu]
  · rw [if_neg hu, if_pos rfl, if_neg hu]
theorem new_calm : Idl Km.new := ⟨rfl, rfl⟩
theorem fitS_calm {s : St} (h : Idl s) (f : Nat) : Idl (fitS f s) := ⟨h.up, h.crash⟩
theorem durS_calm {s : St} (h : Idl s) (f : Nat) : Idl (durS f s) := ⟨h.up, h.crash⟩
theorem movS_calm {s : St} (h : Idl s) (f g : Nat) : Idl (movS f g s) := ⟨h.up, h.crash⟩
theorem read_up {s : St} (h : s.down = false) {f : Nat} (hf : f < 8) : readE s (f : Int) = 0 ∧ readB s (f : Int) = s.F f := by
  unfold readE readB chk
  rw [h, okF_nat hf, Int.toNat_natCast]
  exact ⟨rfl, rfl⟩
theorem size_nat (s : St) {f : Nat} (hf : f < 8) : sizeN s (f : Int) = (s.F f).length := by
  unfold sizeN
  rw [okF_nat hf, Int.toNat_natCast]
  rfl
end Km
end Go.Proofs.Ytdjchpejhfkknaa
