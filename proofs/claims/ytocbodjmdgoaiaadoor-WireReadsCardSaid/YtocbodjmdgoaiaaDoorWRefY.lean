/- The reference's reader reads a list of strings. Conditions: the text has at most 2^20 bytes; the reader lies in a block of its own; it has not failed, or has nothing left. -/
import Derived.Test.YtocbodjmdgoaiaaDoorWRefM
import Derived.Test.YtocbodjmdgoaiaaDoorWRefX
namespace Go.Proofs.YtocbodjmdgoaiaaDoor
open Go.RowKit Wm
set_option linter.unusedVariables false

theorem restLen_q {w : World} {r : Nat} {s : Bs} {f : Bool} (h : Rdq w r s f) : restLen w r = s.length := by
  unfold restLen
  rw [h.cells.1]
  rfl
/-- What the reference's reader gives that reads a list of strings. -/
def RQt (r : Nat) (s : Bs) (f : Bool) (w : World) (e : Ending) (w' : World) : Prop :=
  (∃ (l : List Bs) (t : Bs) (v : Value), (∀ x ∈ l, True) ∧ s = encL encT l ++ t ∧ e = .returned v ∧ w'.ownsRow w.heap.size 9 1 v l.length (tv l) ∧ Rdq w' r t f ∧ w.grownBy w' (some r)) ∨
  ((¬ ∃ (l : List Bs) (t : Bs), (∀ x ∈ l, True) ∧ s = encL encT l ++ t) ∧ e = .returned (.slice none 0 0) ∧ Rdq w' r [] true ∧ w.grownBy w' (some r))
/-- The head of its loop. -/
def LQt (r : Nat) (s : Bs) (f : Bool) (w : World) (v : Value) (wr : World) : Prop :=
  (∃ (l : List Bs) (t : Bs), (∀ x ∈ l, True) ∧ s = pre encT l ++ t ∧ wr.ownsRow w.heap.size 9 1 v l.length (tv l) ∧ Rdq wr r t f ∧ w.grownBy wr (some r)) ∨
  ((¬ ∃ (l : List Bs) (t : Bs), (∀ x ∈ l, True) ∧ s = encL encT l ++ t) ∧ Rdq wr r [] true ∧ w.grownBy wr (some r))
theorem Rdq.kept' {w w' : World} {r : Nat} {s : Bs} {f : Bool} {row : Option Nat} (h : Rdq w r s f) (hb : w.grownBy w' row) (hr : ∀ k, row = some k → r < k) : Rdq w' r s f :=
  h.kept hb (fun k e => by have := hr k e; omega)
theorem qmore_one {w : World} {r : Nat} {f : Bool} (t : Bs) (hs : t.length ≤ 1048576) (h : Rdq w r (1 :: t) f) : Calls Tryd.prog 52 #[.pointer (some ⟨r, 0, none⟩)] w fun e w' => e = .returned (.bool true) ∧ Rdq w' r t f ∧ w.grownBy w' (some r) := qmore_at 1 t hs (.inr rfl) h
theorem qmore_zero {w : World} {r : Nat} {f : Bool} (t : Bs) (hs : t.length ≤ 1048576) (h : Rdq w r (0 :: t) f) : Calls Tryd.prog 52 #[.pointer (some ⟨r, 0, none⟩)] w fun e w' => e = .returned (.bool false) ∧ Rdq w' r t f ∧ w.grownBy w' (some r) := qmore_at 0 t hs (.inl rfl) h
theorem qmore_no {w : World} {r : Nat} {f : Bool} (t : Bs) (hs : t.length ≤ 1048576) (h0 : ¬ ∃ u, t = 0 :: u) (h1 : ¬ ∃ u, t = 1 :: u) (h : Rdq w r t f) : Calls Tryd.prog 52 #[.pointer (some ⟨r, 0, none⟩)] w fun e w' => e = .returned (.bool false) ∧ Rdq w' r [] true ∧ w.grownBy w' (some r) := by
  match t, h with
  | [], h => exact qmore_empty h
  | c :: u, h =>
    refine qmore_big c u (by simp at hs; omega) ?_ h
    have n0 : c.toNat ≠ 0 := fun e => h0 ⟨u, by rw [show c = 0 from UInt8.toNat_inj.1 e]⟩
    have n1 : c.toNat ≠ 1 := fun e => h1 ⟨u, by rw [show c = 1 from UInt8.toNat_inj.1 e]⟩
    omega

set_option maxHeartbeats 4000000 in
set_option maxRecDepth 100000 in
theorem qtexts_any {w : World} {r : Nat} {s : Bs} {f : Bool} (h : Rdq w r s f) (hs : s.length ≤ 1048576) (hf : f = true → s = []) : Calls Tryd.prog 33 #[.pointer (some ⟨r, 0, none⟩)] w (RQt r s f w) := by
  obtain ⟨i0, hi0, hz0, hz1, hz2⟩ := info_parts infoStr
  have hrlt := Blk.lt h
  have H0 : Hid (LQt r s f w (.slice none 0 0) w) := Lib.hid (.inl ⟨[], s, by simp, rfl, ⟨by simp [tv], .inl ⟨rfl, rfl⟩⟩, h, only_refl _ _⟩)
  clear h
  go_enter Tryd.func33, Tryd.ntmps33
  go_wp2_with fail
  go_loopw [3] (fun v wr => LQt r s f w v wr) (fun _ wr => restLen wr r)
  case atStart => exact H0.out
  case round =>
    have hrel' := hrel
    clear hrel
    rcases hrel' with ⟨l, t, hl, hst, hown, hrd, hon⟩ | ⟨hno, hrd, hon⟩
    · have htl : l.length + t.length ≤ 1048576 := by
        have := congrArg List.length hst
        have h2 : l.length ≤ (pre encT l).length := by
          clear hst this hown hrd hon hl
          induction l with
          | nil => simp
          | cons x l ih => simp [pre]; omega
        rw [List.length_append] at this
        omega
      by_cases h1 : ∃ u, t = 1 :: u
      · obtain ⟨u, rfl⟩ := h1
        have hul : u.length ≤ 1048576 := by simp at htl; omega
        have hrl := restLen_q hrd
        have MV := Lib.hid (qmore_one u hul hrd)
        have CT := Lib.hid (fun W (hW : Rdq W r u f) => qtext_any hW hul)
        have HRL := Lib.hid hrl
        have HST := Lib.hid hst
        have HL := Lib.hid hl
        have HOWN := Lib.hid hown
        have HON := Lib.hid hon
        clear hrl hst hl hown hon hrd
        go_wp2_with fail
        refine MV.out.mono ?_
        rintro e w1 ⟨rfl, h1, h2⟩
        have H1 := Lib.hid h1
        have H2 := Lib.hid h2
        clear h1 h2
        go_wp2_with fail
        refine (CT.out _ H1.out).mono ?_
        rintro e w2 (⟨m, u2, hd, rfl, h3, h4⟩ | ⟨hd, rfl, h3, h4⟩)
        · have hJ := decT_some _ _ _ hd
          have HJ := Lib.hid hJ
          have hon2 := only_trans H2.out h4
          have hne : u3.ownBlock = none ∨ u3.ownBlock ≠ some r := by
            cases ho : u3.ownBlock with
            | none => exact .inl rfl
            | some k => exact .inr (fun e => by have := (HOWN.out.lt k ho).1; have e' := Option.some.inj e; omega)
          have hown2 := HOWN.out.kept hon2 hne
          have hsz2 := hon2.size
          have hsz1 := HON.out.size
          have H3 := Lib.hid h3
          have H4 := Lib.hid hon2
          clear h3 h4 hon2 hne hJ hd
          go_wp2_with (first
            | (at_builtin; go_loud (refine wpList_append_own _ rfl (.tmp 6) (.tmp 9) 26 rfl w.heap.size 9 i0 (.string ⟨#[]⟩) 1 16 Tryd.underlying26 hi0 hz0 hz1 hz2 rfl (by decide) _ _ _ rfl (hown2.alloc _) ⟨w2.heap.size, 0, none⟩ 1 1 [.string (sv m)] rfl rfl (fun j u hj => one_cell rfl j hj) one_str (by unfold maxLen; omega) (by omega) (by simp; omega) ?_); intro v3 w3 hown3 hgrow3 _))
          have hlt3 := fun k (e : u3.ownBlock = some k) => (hown2.lt k e)
          have F3 : Hid (Rdq w3 r u2 f ∧ w.grownBy w3 (some r)) := Lib.hid ⟨(H3.out.below (below_alloc w2 _)).kept' hgrow3 (fun k e => by have := (hlt3 k e).1; omega), only_own (only_alloc (only_trans HON.out H4.out) _) hgrow3 (fun k e => (hlt3 k e).1)⟩
          have F4 : Hid (w3.ownsRow w.heap.size 9 1 v3 (l ++ [m]).length (tv (l ++ [m]))) := Lib.hid (by simpa [tv] using hown3)
          clear hown2 hown3 hgrow3 hlt3
          go_wp2_with fail
          go_roundw
          case rel => exact .inl ⟨l ++ [m], u2, by
            intro x hx
            trivial, by rw [HST.out, pre_snoc, HJ.out]; simp, F4.out, F3.out.1, F3.out.2⟩
          case measure =>
            rw [restLen_q F3.out.1, HRL.out, HJ.out]
            simp; omega
        · have HNO := Lib.hid (none_after_text HL.out HST.out hd)
          have hon2 := only_trans H2.out h4
          have hne : u3.ownBlock = none ∨ u3.ownBlock ≠ some r := by
            cases ho : u3.ownBlock with
            | none => exact .inl rfl
            | some k => exact .inr (fun e => by have := (HOWN.out.lt k ho).1; have e' := Option.some.inj e; omega)
          have hown2 := HOWN.out.kept hon2 hne
          have hsz2 := hon2.size
          have hsz1 := HON.out.size
          have H3 := Lib.hid h3
          have H4 := Lib.hid hon2
          clear h3 h4 hon2 hne hd
          go_wp2_with (first
            | (at_builtin; go_loud (refine wpList_append_own _ rfl (.tmp 6) (.tmp 9) 26 rfl w.heap.size 9 i0 (.string ⟨#[]⟩) 1 16 Tryd.underlying26 hi0 hz0 hz1 hz2 rfl (by decide) _ _ _ rfl (hown2.alloc _) ⟨w2.heap.size, 0, none⟩ 1 1 [.string (sv [])] rfl rfl (fun j u hj => one_cell rfl j hj) one_str (by unfold maxLen; omega) (by omega) (by simp; omega) ?_); intro v3 w3 hown3 hgrow3 _))
          have hlt3 := fun k (e : u3.ownBlock = some k) => (hown2.lt k e)
          have F3 : Hid (Rdq w3 r [] true ∧ w.grownBy w3 (some r)) := Lib.hid ⟨(H3.out.below (below_alloc w2 _)).kept' hgrow3 (fun k e => by have := (hlt3 k e).1; omega), only_own (only_alloc (only_trans HON.out H4.out) _) hgrow3 (fun k e => (hlt3 k e).1)⟩
          clear hown2 hown3 hgrow3 hlt3
          go_wp2_with fail
          go_roundw
          case rel => exact .inr ⟨HNO.out, F3.out.1, F3.out.2⟩
          case measure =>
            rw [restLen_q F3.out.1, HRL.out]
            simp
      · by_cases h0 : ∃ u, t = 0 :: u
        · obtain ⟨u, rfl⟩ := h0
          have hse : s = encL encT l ++ u := by rw [hst]; simp [encL]
          have hff : f = false := by
            cases f with
            | false => rfl
            | true => have := hf rfl; rw [hse] at this; simp [encL] at this
          subst hff
          have MV := Lib.hid (qmore_zero u (by simp at htl; omega) hrd)
          have HSE := Lib.hid hse
          have HL := Lib.hid hl
          have HOWN := Lib.hid hown
          have HON := Lib.hid hon
          clear hst hl hown hon hrd hse
          go_wp2_with fail
          refine MV.out.mono ?_
          rintro e w1 ⟨rfl, h1, h2⟩
          obtain ⟨k0, k1⟩ := h1.cells
          have H1 := Lib.hid h1
          have H2 := Lib.hid h2
          clear h1 h2
          go_wp2_with fail
          go_ret
          refine .inl ⟨l, u, u3, HL.out, HSE.out, rfl, HOWN.out.kept H2.out ?_, H1.out, only_trans HON.out H2.out⟩
          cases ho : u3.ownBlock with
          | none => exact .inl rfl
          | some k => exact .inr (fun e => by have := (HOWN.out.lt k ho).1; have e' := Option.some.inj e; omega)
        · have hno := none_at_end_t hl hst (fun u e => h0 ⟨u, e⟩) (fun u e => h1 ⟨u, e⟩)
          have MV := Lib.hid (qmore_no t (by omega) h0 h1 hrd)
          have HNO := Lib.hid hno
          have HON := Lib.hid hon
          clear hst hl hown hon hrd hno h0 h1
          go_wp2_with fail
          refine MV.out.mono ?_
          rintro e w1 ⟨rfl, h1, h2⟩
          obtain ⟨k0, k1⟩ := h1.cells
          have H1 := Lib.hid h1
          have H2 := Lib.hid h2
          clear h1 h2
          go_wp2_with fail
          go_ret
          exact .inr ⟨HNO.out, rfl, H1.out, only_trans HON.out H2.out⟩
    · have MV := Lib.hid (qmore_empty hrd)
      have HNO := Lib.hid hno
      have HON := Lib.hid hon
      clear hon hrd hno
      go_wp2_with fail
      refine MV.out.mono ?_
      rintro e w1 ⟨rfl, h1, h2⟩
      obtain ⟨k0, k1⟩ := h1.cells
      have H1 := Lib.hid h1
      have H2 := Lib.hid h2
      clear h1 h2
      go_wp2_with fail
      go_ret
      exact .inr ⟨HNO.out, rfl, H1.out, only_trans HON.out H2.out⟩
end Go.Proofs.YtocbodjmdgoaiaaDoor
