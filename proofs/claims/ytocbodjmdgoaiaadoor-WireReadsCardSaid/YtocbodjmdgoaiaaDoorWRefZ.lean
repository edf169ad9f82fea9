/- The reference's reader reads an int, an int not below 0, a list of ints. Conditions: the text has at most 2^20 bytes; the reader lies in a block of its own; of a list: it has not failed, or has nothing left. -/
import Derived.Test.YtocbodjmdgoaiaaDoorWRefN
import Derived.Test.YtocbodjmdgoaiaaDoorWRefY
namespace Go.Proofs.YtocbodjmdgoaiaaDoor
open Go.RowKit Wm
set_option linter.unusedVariables false

theorem qint_any {w : World} {r : Nat} {s : Bs} {f : Bool} (h : Rdq w r s f) (hs : s.length ≤ 1048576) : Calls Tryd.prog 25 #[.pointer (some ⟨r, 0, none⟩)] w (QI r s f w) := by
  match s, h with
  | [], h => exact (qint_empty h).mono fun e w' ⟨a, b, c⟩ => .inr ⟨by rfl, a, b, c⟩
  | c :: t, h => exact qint_cons c t (by simp at hs; omega) h
/-- What the reference's reader gives that reads an int not below 0. -/
def QN (r : Nat) (s : Bs) (f : Bool) (w : World) (e : Ending) (w' : World) : Prop :=
  (∃ m u, decI s = some (m, u) ∧ 0 ≤ m ∧ e = .returned (.int .i64 m) ∧ Rdq w' r u f ∧ w.grownBy w' (some r)) ∨ ((decI s = none ∨ ∃ m u, decI s = some (m, u) ∧ m < 0) ∧ e = .returned (.int .i64 0) ∧ Rdq w' r [] true ∧ w.grownBy w' (some r))
set_option maxHeartbeats 1000000 in
set_option maxRecDepth 100000 in
theorem qnum_any {w : World} {r : Nat} {s : Bs} {f : Bool} (h : Rdq w r s f) (hs : s.length ≤ 1048576) : Calls Tryd.prog 23 #[.pointer (some ⟨r, 0, none⟩)] w (QN r s f w) := by
  have CI := Lib.hid (qint_any h hs)
  have FQ := Lib.hid (fun W u g (hW : Rdq W r u g) => qfail hW)
  clear h
  go_enter Tryd.func23, Tryd.ntmps23
  go_wp2_with fail
  refine CI.out.mono ?_
  rintro e w1 (⟨m, u, hd, rfl, h1, h2⟩ | ⟨hd, rfl, h1, h2⟩)
  · have HD := Lib.hid hd
    have H1 := Lib.hid h1
    have H2 := Lib.hid h2
    clear hd h1 h2
    by_cases hm : m < 0
    · have d0 : decide (m < 0) = true := decide_eq_true hm
      have HM := Lib.hid hm
      clear hm
      go_wp2_with fail
      refine (FQ.out _ _ _ H1.out).mono ?_
      rintro e w2 ⟨rfl, h3, h4⟩
      have HQ : Hid (QN r s f w (.returned (.int .i64 0)) w2) := Lib.hid (.inr ⟨.inr ⟨m, u, HD.out, HM.out⟩, rfl, h3, only_trans H2.out h4⟩)
      clear h3 h4
      go_wp2_with fail
      go_ret
      exact HQ.out
    · have d0 : decide (m < 0) = false := decide_eq_false hm
      have HQ : Hid (QN r s f w (.returned (.int .i64 m)) w1) := Lib.hid (.inl ⟨m, u, HD.out, Int.not_lt.1 hm, rfl, H1.out, H2.out⟩)
      clear hm
      go_wp2_with fail
      go_ret
      exact HQ.out
  · have HQ : Hid (QN r s f w (.returned (.int .i64 0)) w1) := Lib.hid (.inr ⟨.inl hd, rfl, h1, h2⟩)
    clear hd h1 h2
    go_wp2_with fail
    go_ret
    exact HQ.out
/-- What the reference's reader gives that reads a list of ints. -/
def RQi (r : Nat) (s : Bs) (f : Bool) (w : World) (e : Ending) (w' : World) : Prop :=
  (∃ (l : List Int) (t : Bs) (v : Value), (∀ x ∈ l, J64 x) ∧ s = encL encI l ++ t ∧ e = .returned v ∧ w'.ownsRow w.heap.size 3 1 v l.length (iv l) ∧ Rdq w' r t f ∧ w.grownBy w' (some r)) ∨
  ((¬ ∃ (l : List Int) (t : Bs), (∀ x ∈ l, J64 x) ∧ s = encL encI l ++ t) ∧ e = .returned (.slice none 0 0) ∧ Rdq w' r [] true ∧ w.grownBy w' (some r))
/-- The head of its loop. -/
def LQi (r : Nat) (s : Bs) (f : Bool) (w : World) (v : Value) (wr : World) : Prop :=
  (∃ (l : List Int) (t : Bs), (∀ x ∈ l, J64 x) ∧ s = pre encI l ++ t ∧ wr.ownsRow w.heap.size 3 1 v l.length (iv l) ∧ Rdq wr r t f ∧ w.grownBy wr (some r)) ∨
  ((¬ ∃ (l : List Int) (t : Bs), (∀ x ∈ l, J64 x) ∧ s = encL encI l ++ t) ∧ Rdq wr r [] true ∧ w.grownBy wr (some r))

set_option maxHeartbeats 4000000 in
set_option maxRecDepth 100000 in
theorem qnums_any {w : World} {r : Nat} {s : Bs} {f : Bool} (h : Rdq w r s f) (hs : s.length ≤ 1048576) (hf : f = true → s = []) : Calls Tryd.prog 30 #[.pointer (some ⟨r, 0, none⟩)] w (RQi r s f w) := by
  obtain ⟨i0, hi0, hz0, hz1, hz2⟩ := info_parts infoInt
  have hrlt := Blk.lt h
  have H0 : Hid (LQi r s f w (.slice none 0 0) w) := Lib.hid (.inl ⟨[], s, by simp, rfl, ⟨by simp [iv], .inl ⟨rfl, rfl⟩⟩, h, only_refl _ _⟩)
  clear h
  go_enter Tryd.func30, Tryd.ntmps30
  go_wp2_with fail
  go_loopw [3] (fun v wr => LQi r s f w v wr) (fun _ wr => restLen wr r)
  case atStart => exact H0.out
  case round =>
    have hrel' := hrel
    clear hrel
    rcases hrel' with ⟨l, t, hl, hst, hown, hrd, hon⟩ | ⟨hno, hrd, hon⟩
    · have htl : l.length + t.length ≤ 1048576 := by
        have := congrArg List.length hst
        have h2 : l.length ≤ (pre encI l).length := by
          clear hst this hown hrd hon hl
          induction l with
          | nil => simp
          | cons x l ih => simp [pre]; omega
        rw [List.length_append] at this
        omega
      by_cases h1 : ∃ u, t = 1 :: u
      · obtain ⟨u, rfl⟩ := h1
        have hul : u.length ≤ 1048576 := by simp at htl; omega
        have hrl := restLen_q hrd
        have MV := Lib.hid (qmore_one u hul hrd)
        have CT := Lib.hid (fun W (hW : Rdq W r u f) => qint_any hW hul)
        have HRL := Lib.hid hrl
        have HST := Lib.hid hst
        have HL := Lib.hid hl
        have HOWN := Lib.hid hown
        have HON := Lib.hid hon
        clear hrl hst hl hown hon hrd
        go_wp2_with fail
        refine MV.out.mono ?_
        rintro e w1 ⟨rfl, h1, h2⟩
        have H1 := Lib.hid h1
        have H2 := Lib.hid h2
        clear h1 h2
        go_wp2_with fail
        refine (CT.out _ H1.out).mono ?_
        rintro e w2 (⟨m, u2, hd, rfl, h3, h4⟩ | ⟨hd, rfl, h3, h4⟩)
        · have hJ := decI_some hd
          have HJ := Lib.hid hJ
          have hon2 := only_trans H2.out h4
          have hne : u3.ownBlock = none ∨ u3.ownBlock ≠ some r := by
            cases ho : u3.ownBlock with
            | none => exact .inl rfl
            | some k => exact .inr (fun e => by have := (HOWN.out.lt k ho).1; have e' := Option.some.inj e; omega)
          have hown2 := HOWN.out.kept hon2 hne
          have hsz2 := hon2.size
          have hsz1 := HON.out.size
          have H3 := Lib.hid h3
          have H4 := Lib.hid hon2
          clear h3 h4 hon2 hne hJ hd
          go_wp2_with (first
            | (at_builtin; go_loud (refine wpList_append_own _ rfl (.tmp 6) (.tmp 9) 25 rfl w.heap.size 3 i0 (.int .i64 0) 1 8 Tryd.underlying25 hi0 hz0 hz1 hz2 rfl (by decide) _ _ _ rfl (hown2.alloc _) ⟨w2.heap.size, 0, none⟩ 1 1 [.int .i64 m] rfl rfl (fun j u hj => one_cell rfl j hj) one_int (by unfold maxLen; omega) (by omega) (by simp; omega) ?_); intro v3 w3 hown3 hgrow3 _))
          have hlt3 := fun k (e : u3.ownBlock = some k) => (hown2.lt k e)
          have F3 : Hid (Rdq w3 r u2 f ∧ w.grownBy w3 (some r)) := Lib.hid ⟨(H3.out.below (below_alloc w2 _)).kept' hgrow3 (fun k e => by have := (hlt3 k e).1; omega), only_own (only_alloc (only_trans HON.out H4.out) _) hgrow3 (fun k e => (hlt3 k e).1)⟩
          have F4 : Hid (w3.ownsRow w.heap.size 3 1 v3 (l ++ [m]).length (iv (l ++ [m]))) := Lib.hid (by simpa [iv] using hown3)
          clear hown2 hown3 hgrow3 hlt3
          go_wp2_with fail
          go_roundw
          case rel => exact .inl ⟨l ++ [m], u2, by
            intro x hx
            rcases List.mem_append.1 hx with hx | hx
            · exact HL.out x hx
            · have : x = m := by simpa using hx
              rw [this]; exact HJ.out.1, by rw [HST.out, pre_snoc, HJ.out.2]; simp, F4.out, F3.out.1, F3.out.2⟩
          case measure =>
            rw [restLen_q F3.out.1, HRL.out, HJ.out.2]
            simp; omega
        · have HNO := Lib.hid (none_after_int HL.out HST.out hd)
          have hon2 := only_trans H2.out h4
          have hne : u3.ownBlock = none ∨ u3.ownBlock ≠ some r := by
            cases ho : u3.ownBlock with
            | none => exact .inl rfl
            | some k => exact .inr (fun e => by have := (HOWN.out.lt k ho).1; have e' := Option.some.inj e; omega)
          have hown2 := HOWN.out.kept hon2 hne
          have hsz2 := hon2.size
          have hsz1 := HON.out.size
          have H3 := Lib.hid h3
          have H4 := Lib.hid hon2
          clear h3 h4 hon2 hne hd
          go_wp2_with (first
            | (at_builtin; go_loud (refine wpList_append_own _ rfl (.tmp 6) (.tmp 9) 25 rfl w.heap.size 3 i0 (.int .i64 0) 1 8 Tryd.underlying25 hi0 hz0 hz1 hz2 rfl (by decide) _ _ _ rfl (hown2.alloc _) ⟨w2.heap.size, 0, none⟩ 1 1 [.int .i64 0] rfl rfl (fun j u hj => one_cell rfl j hj) one_int (by unfold maxLen; omega) (by omega) (by simp; omega) ?_); intro v3 w3 hown3 hgrow3 _))
          have hlt3 := fun k (e : u3.ownBlock = some k) => (hown2.lt k e)
          have F3 : Hid (Rdq w3 r [] true ∧ w.grownBy w3 (some r)) := Lib.hid ⟨(H3.out.below (below_alloc w2 _)).kept' hgrow3 (fun k e => by have := (hlt3 k e).1; omega), only_own (only_alloc (only_trans HON.out H4.out) _) hgrow3 (fun k e => (hlt3 k e).1)⟩
          clear hown2 hown3 hgrow3 hlt3
          go_wp2_with fail
          go_roundw
          case rel => exact .inr ⟨HNO.out, F3.out.1, F3.out.2⟩
          case measure =>
            rw [restLen_q F3.out.1, HRL.out]
            simp
      · by_cases h0 : ∃ u, t = 0 :: u
        · obtain ⟨u, rfl⟩ := h0
          have hse : s = encL encI l ++ u := by rw [hst]; simp [encL]
          have hff : f = false := by
            cases f with
            | false => rfl
            | true => have := hf rfl; rw [hse] at this; simp [encL] at this
          subst hff
          have MV := Lib.hid (qmore_zero u (by simp at htl; omega) hrd)
          have HSE := Lib.hid hse
          have HL := Lib.hid hl
          have HOWN := Lib.hid hown
          have HON := Lib.hid hon
          clear hst hl hown hon hrd hse
          go_wp2_with fail
          refine MV.out.mono ?_
          rintro e w1 ⟨rfl, h1, h2⟩
          obtain ⟨k0, k1⟩ := h1.cells
          have H1 := Lib.hid h1
          have H2 := Lib.hid h2
          clear h1 h2
          go_wp2_with fail
          go_ret
          refine .inl ⟨l, u, u3, HL.out, HSE.out, rfl, HOWN.out.kept H2.out ?_, H1.out, only_trans HON.out H2.out⟩
          cases ho : u3.ownBlock with
          | none => exact .inl rfl
          | some k => exact .inr (fun e => by have := (HOWN.out.lt k ho).1; have e' := Option.some.inj e; omega)
        · have hno := none_at_end hl hst (fun u e => h0 ⟨u, e⟩) (fun u e => h1 ⟨u, e⟩)
          have MV := Lib.hid (qmore_no t (by omega) h0 h1 hrd)
          have HNO := Lib.hid hno
          have HON := Lib.hid hon
          clear hst hl hown hon hrd hno h0 h1
          go_wp2_with fail
          refine MV.out.mono ?_
          rintro e w1 ⟨rfl, h1, h2⟩
          obtain ⟨k0, k1⟩ := h1.cells
          have H1 := Lib.hid h1
          have H2 := Lib.hid h2
          clear h1 h2
          go_wp2_with fail
          go_ret
          exact .inr ⟨HNO.out, rfl, H1.out, only_trans HON.out H2.out⟩
    · have MV := Lib.hid (qmore_empty hrd)
      have HNO := Lib.hid hno
      have HON := Lib.hid hon
      clear hon hrd hno
      go_wp2_with fail
      refine MV.out.mono ?_
      rintro e w1 ⟨rfl, h1, h2⟩
      obtain ⟨k0, k1⟩ := h1.cells
      have H1 := Lib.hid h1
      have H2 := Lib.hid h2
      clear h1 h2
      go_wp2_with fail
      go_ret
      exact .inr ⟨HNO.out, rfl, H1.out, only_trans HON.out H2.out⟩
end Go.Proofs.YtocbodjmdgoaiaaDoor
