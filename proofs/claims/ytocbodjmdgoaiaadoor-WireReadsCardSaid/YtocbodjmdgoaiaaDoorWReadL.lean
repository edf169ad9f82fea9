/- The methods of a reader that read a list of ints or of strings, by one generic function. Conditions: the text has at most 2^20 bytes; the reader lies in a block of its own, behind the library's own variable, which holds some int. -/
import Derived.Test.YtocbodjmdgoaiaaDoorWReader
namespace Go.Proofs.YtocbodjmdgoaiaaDoor
open Go.RowKit Wm
set_option linter.unusedVariables false

theorem infoInt : (Tryd.prog.info? 3).map (fun i => (i.zero, i.size, i.bytes)) = some (some (.int .i64 0), 1, 8) := by kernel_rfl
theorem infoStr : (Tryd.prog.info? 9).map (fun i => (i.zero, i.size, i.bytes)) = some (some (.string ⟨#[]⟩), 1, 16) := by kernel_rfl
/-- How much a reader has left: what every round of its loop lowers. -/
def restLen (w : World) (r : Nat) : Nat := match w.cell? ⟨r, 0, none⟩ with | some (.string s) => s.size | _ => 0
theorem restLen_eq {w : World} {r : Nat} {s : Bs} {f : Bool} (h : Rdr w r s f) : restLen w r = s.length := by
  unfold restLen
  rw [h.cells.1]
  rfl
theorem only_own {a b c : World} {r : Nat} {row : Option Nat} (h : a.grownBy b (some r)) (h' : b.grownBy c row) (hr : ∀ k, row = some k → a.heap.size ≤ k) : a.grownBy c (some r) :=
  ⟨h'.os.trans h.os, h'.tape.trans h.tape, h'.output.trans h.output, Nat.le_trans h.size h'.size, fun i hi hn => (h'.block i (Nat.lt_of_lt_of_le hi h.size) (fun e => by have := hr i e.symm; omega)).trans (h.block i hi hn)⟩
theorem Rdr.kept {w w' : World} {r : Nat} {s : Bs} {f : Bool} {row : Option Nat} (h : Rdr w r s f) (hb : w.grownBy w' row) (hr : ∀ k, row = some k → r < k) : Rdr w' r s f :=
  Blk.grown h hb (fun e => by have := hr r e.symm; omega)
theorem hasPre (c : UInt8) (s : Bs) (w : World) : Calls Tryd.prog 62 #[.string (sv s), .string (sv [c])] w fun e w' => e = .returned (.bool (match s with | [] => false | b :: _ => c == b)) ∧ w = w' := by
  have h := Tryd.strings_HasPrefix (sv s) (sv [c]) w
  rw [sv_list, sv_list] at h
  refine h.mono fun e w' ⟨a, b⟩ => ⟨?_, b.symm⟩
  rw [a]
  cases s with
  | nil => rfl
  | cons b t => simp [Lib.hasPrefix, List.isPrefixOf]
theorem hasPre_yes (c : UInt8) (t : Bs) (w : World) : Calls Tryd.prog 62 #[.string (sv (c :: t)), .string (sv [c])] w fun e w' => e = .returned (.bool true) ∧ w = w' := by
  have h := hasPre c (c :: t) w
  simp only [beq_self_eq_true] at h
  exact h
theorem hasPre_no (c : UInt8) (s : Bs) (w : World) (hs : ∀ t, s ≠ c :: t) : Calls Tryd.prog 62 #[.string (sv s), .string (sv [c])] w fun e w' => e = .returned (.bool false) ∧ w = w' := by
  have h := hasPre c s w
  cases s with
  | nil => exact h
  | cons b t =>
    have : (c == b) = false := by
      rw [beq_eq_false_iff_ne]
      rintro rfl
      exact hs t rfl
    simp only [this] at h
    exact h

theorem one_int {n : Int} : ∀ u ∈ [Value.int .i64 n], u.oneCell' = true := by
  intro u hu
  simp at hu
  subst hu
  rfl
theorem one_str {n : ByteArray} : ∀ u ∈ [Value.string n], u.oneCell' = true := by
  intro u hu
  simp at hu
  subst hu
  rfl
/-- What a reader gives that reads a list of ints. -/
def RLi (r : Nat) (s : Bs) (f : Bool) (w : World) (e : Ending) (w' : World) : Prop :=
  (∃ (l : List Int) (t : Bs) (v : Value), (∀ x ∈ l, J64 x) ∧ s = encL encI l ++ t ∧ e = .returned v ∧ w'.ownsRow w.heap.size 3 1 v l.length (iv l) ∧ Rdr w' r t f ∧ w.grownBy w' (some r)) ∨
  ((¬ ∃ (l : List Int) (t : Bs), (∀ x ∈ l, J64 x) ∧ s = encL encI l ++ t) ∧ e = .returned (.slice none 0 0) ∧ Rdr w' r [] true ∧ w.grownBy w' (some r))
/-- The head of the loop: what has been read so far; or the reader has failed, and there is no list. -/
def LIi (r : Nat) (s : Bs) (f : Bool) (w : World) (v : Value) (wr : World) : Prop :=
  (∃ (l : List Int) (t : Bs), (∀ x ∈ l, J64 x) ∧ s = pre encI l ++ t ∧ wr.ownsRow w.heap.size 3 1 v l.length (iv l) ∧ Rdr wr r t f ∧ w.grownBy wr (some r)) ∨
  ((¬ ∃ (l : List Int) (t : Bs), (∀ x ∈ l, J64 x) ∧ s = encL encI l ++ t) ∧ Rdr wr r [] true ∧ w.grownBy wr (some r))
theorem inj_ints : ∀ (x y : Int) (t u : Bs), J64 x → J64 y → encI x ++ t = encI y ++ u → x = y ∧ t = u := fun _ _ _ _ hx hy h => encI_inj hx hy h
theorem none_after_int {l : List Int} {t s : Bs} (hl : ∀ x ∈ l, J64 x) (hs : s = pre encI l ++ 1 :: t) (hd : decI t = none) : ¬ ∃ (l : List Int) (t : Bs), (∀ x ∈ l, J64 x) ∧ s = encL encI l ++ t := by
  rintro ⟨l', t', hl', he⟩
  rw [hs] at he
  obtain ⟨l'', rfl, hr⟩ := encL_peel J64 inj_ints l _ l' t' hl hl' he
  cases l'' with
  | nil => simp [encL, pre] at hr
  | cons y l'' =>
    have : t = encI y ++ (encL encI l'' ++ t') := by simpa [encL, pre] using hr
    rw [this, decI_enc (hl' y (by simp))] at hd
    cases hd
theorem none_at_end {l : List Int} {t s : Bs} (hl : ∀ x ∈ l, J64 x) (hs : s = pre encI l ++ t) (h0 : ∀ u, t ≠ 0 :: u) (h1 : ∀ u, t ≠ 1 :: u) : ¬ ∃ (l : List Int) (t : Bs), (∀ x ∈ l, J64 x) ∧ s = encL encI l ++ t := by
  rintro ⟨l', t', hl', he⟩
  rw [hs] at he
  obtain ⟨l'', rfl, hr⟩ := encL_peel J64 inj_ints l _ l' t' hl hl' he
  cases l'' with
  | nil => exact h0 t' (by simpa [encL, pre] using hr)
  | cons y l'' => exact h1 (encI y ++ (encL encI l'' ++ t')) (by simpa [encL, pre] using hr)

set_option maxHeartbeats 2000000 in
set_option maxRecDepth 100000 in
theorem readList_ints {w : World} {r : Nat} {s : Bs} {f : Bool} (h : Rdr w r s f) (hs : s.length ≤ 1048576) :
    Calls Tryd.prog 51 #[.pointer (some ⟨r, 0, none⟩), .func (.func 24) #[.pointer (some ⟨r, 0, none⟩)] #[]] w (RLi r s f w) := by
  obtain ⟨i0, hi0, hz0, hz1, hz2⟩ := info_parts infoInt
  have hrlt := Blk.lt h
  have H0 : Hid (LIi r s f w (.slice none 0 0) w) := Lib.hid (.inl ⟨[], s, by simp, rfl, ⟨by simp [iv], .inl ⟨rfl, rfl⟩⟩, h, only_refl _ _⟩)
  clear h
  go_enter Tryd.func51, Tryd.ntmps51
  go_wp2_with fail
  go_loopw [5] (fun v wr => LIi r s f w v wr) (fun _ wr => restLen wr r)
  case atStart => exact H0.out
  case round =>
    have hrel' := hrel
    clear hrel
    rcases hrel' with ⟨l, t, hl, hst, hown, hrd, hon⟩ | ⟨hno, hrd, hon⟩
    · have htl : l.length + t.length ≤ 1048576 := by
        have := congrArg List.length hst
        have h2 : l.length ≤ (pre encI l).length := by
          clear hst this hown hrd hon hl
          induction l with
          | nil => simp
          | cons x l ih => simp [pre]; omega
        rw [List.length_append] at this
        omega
      by_cases h1 : ∃ u, t = 1 :: u
      · obtain ⟨u, rfl⟩ := h1
        obtain ⟨c0, c1⟩ := hrd.cells
        have hrl := restLen_eq hrd
        have hmv := move_ok hrd 1 (by omega) (by simp) (by simp at htl ⊢; omega)
        have hp := hasPre_yes 1 u wr
        have HP := Lib.hid hp
        have HMV := Lib.hid hmv
        have HRL := Lib.hid hrl
        have HST := Lib.hid hst
        have HL := Lib.hid hl
        have HOWN := Lib.hid hown
        have HON := Lib.hid hon
        have HRD := Lib.hid hrd
        clear hmv hp hrl hst hl hown hon hrd
        generalize sv (1 :: u) = S at *
        go_wp2_with fail
        refine HP.out.mono ?_
        rintro e w1 ⟨rfl, rfl⟩
        go_wp2_with fail
        refine HMV.out.mono ?_
        rintro e w1 ⟨rfl, h1, h2⟩
        have H1 := Lib.hid h1
        have H2 := Lib.hid h2
        clear h1 h2
        have hul : u.length ≤ 1048576 := by simp at htl; omega
        cases hd : decI u with
        | some p =>
          obtain ⟨m, u2⟩ := p
          have hJ := decI_some hd
          have C1 := Lib.hid (rint_yes H1.out hul hd)
          have HJ := Lib.hid hJ
          clear hJ hd
          go_wp2_with fail
          refine C1.out.mono ?_
          rintro e w2 ⟨rfl, h3, h4⟩
          have hon2 := only_trans H2.out h4
          have hne : u5.ownBlock = none ∨ u5.ownBlock ≠ some r := by
            cases ho : u5.ownBlock with
            | none => exact .inl rfl
            | some k => exact .inr (fun e => by have := (HOWN.out.lt k ho).1; have e' := Option.some.inj e; omega)
          have hown2 := HOWN.out.kept hon2 hne
          have hsz2 := hon2.size
          have hsz1 := HON.out.size
          have H3 := Lib.hid h3
          have H4 := Lib.hid hon2
          clear h3 h4 hon2 hne
          go_wp2_with (first
            | (at_builtin; go_loud (refine wpList_append_own _ rfl (.tmp 13) (.tmp 16) 25 rfl w.heap.size 3 i0 (.int .i64 0) 1 8 Tryd.underlying25 hi0 hz0 hz1 hz2 rfl (by decide) _ _ _ rfl (hown2.alloc _) ⟨w2.heap.size, 0, none⟩ 1 1 [.int .i64 m] rfl rfl (fun j u hj => one_cell rfl j hj) one_int (by unfold maxLen; omega) (by omega) (by simp; omega) ?_); intro v3 w3 hown3 hgrow3 _))
          have hlt3 := fun k (e : u5.ownBlock = some k) => (hown2.lt k e)
          have F3 : Hid (Rdr w3 r u2 f ∧ w.grownBy w3 (some r)) := Lib.hid ⟨(H3.out.below (below_alloc w2 _)).kept hgrow3 (fun k e => by have := (hlt3 k e).1; omega), only_own (only_alloc (only_trans HON.out H4.out) _) hgrow3 (fun k e => (hlt3 k e).1)⟩
          have F4 : Hid (w3.ownsRow w.heap.size 3 1 v3 (l ++ [m]).length (iv (l ++ [m]))) := Lib.hid (by simpa [iv] using hown3)
          clear hown2 hown3 hgrow3 hlt3
          go_wp2_with fail
          go_roundw
          case rel => exact .inl ⟨l ++ [m], u2, by
            intro x hx
            rcases List.mem_append.1 hx with hx | hx
            · exact HL.out x hx
            · have : x = m := by simpa using hx
              rw [this]; exact HJ.out.1, by rw [HST.out, pre_snoc, HJ.out.2]; simp, F4.out, F3.out.1, F3.out.2⟩
          case measure =>
            rw [restLen_eq F3.out.1, HRL.out, HJ.out.2]
            simp; omega
        | none =>
          have C1 := Lib.hid (rint_no H1.out hul hd)
          have HNO := Lib.hid (none_after_int HL.out HST.out hd)
          clear hd
          go_wp2_with fail
          refine C1.out.mono ?_
          rintro e w2 ⟨rfl, h3, h4⟩
          have hon2 := only_trans H2.out h4
          have hne : u5.ownBlock = none ∨ u5.ownBlock ≠ some r := by
            cases ho : u5.ownBlock with
            | none => exact .inl rfl
            | some k => exact .inr (fun e => by have := (HOWN.out.lt k ho).1; have e' := Option.some.inj e; omega)
          have hown2 := HOWN.out.kept hon2 hne
          have hsz2 := hon2.size
          have hsz1 := HON.out.size
          have H3 := Lib.hid h3
          have H4 := Lib.hid hon2
          clear h3 h4 hon2 hne
          go_wp2_with (first
            | (at_builtin; go_loud (refine wpList_append_own _ rfl (.tmp 13) (.tmp 16) 25 rfl w.heap.size 3 i0 (.int .i64 0) 1 8 Tryd.underlying25 hi0 hz0 hz1 hz2 rfl (by decide) _ _ _ rfl (hown2.alloc _) ⟨w2.heap.size, 0, none⟩ 1 1 [.int .i64 0] rfl rfl (fun j u hj => one_cell rfl j hj) one_int (by unfold maxLen; omega) (by omega) (by simp; omega) ?_); intro v3 w3 hown3 hgrow3 _))
          have hlt3 := fun k (e : u5.ownBlock = some k) => (hown2.lt k e)
          have F3 : Hid (Rdr w3 r [] true ∧ w.grownBy w3 (some r)) := Lib.hid ⟨(H3.out.below (below_alloc w2 _)).kept hgrow3 (fun k e => by have := (hlt3 k e).1; omega), only_own (only_alloc (only_trans HON.out H4.out) _) hgrow3 (fun k e => (hlt3 k e).1)⟩
          clear hown2 hown3 hgrow3 hlt3
          go_wp2_with fail
          go_roundw
          case rel => exact .inr ⟨HNO.out, F3.out.1, F3.out.2⟩
          case measure =>
            rw [restLen_eq F3.out.1, HRL.out]
            simp
      · have hp := hasPre_no 1 t wr (fun u e => h1 ⟨u, e⟩)
        obtain ⟨c0, c1⟩ := hrd.cells
        by_cases h0 : ∃ u, t = 0 :: u
        · obtain ⟨u, rfl⟩ := h0
          have hmv := move_ok hrd 1 (by omega) (by simp) (by simp at htl ⊢; omega)
          have hp2 := hasPre_yes 0 u wr
          have hse : s = encL encI l ++ u := by rw [hst]; simp [encL]
          have HP := Lib.hid hp
          have HP2 := Lib.hid hp2
          have HMV := Lib.hid hmv
          have HSE := Lib.hid hse
          have HL := Lib.hid hl
          have HOWN := Lib.hid hown
          have HON := Lib.hid hon
          clear hmv hp hp2 hst hl hown hon hrd hse
          generalize sv (0 :: u) = S at *
          go_wp2_with fail
          refine HP.out.mono ?_
          rintro e w1 ⟨rfl, rfl⟩
          go_wp2_with fail
          refine HP2.out.mono ?_
          rintro e w1 ⟨rfl, rfl⟩
          go_wp2_with fail
          refine HMV.out.mono ?_
          rintro e w1 ⟨rfl, h1, h2⟩
          have H1 := Lib.hid h1
          have H2 := Lib.hid h2
          clear h1 h2
          go_wp2_with fail
          go_ret
          refine .inl ⟨l, u, u5, HL.out, HSE.out, rfl, HOWN.out.kept H2.out ?_, H1.out, only_trans HON.out H2.out⟩
          cases ho : u5.ownBlock with
          | none => exact .inl rfl
          | some k => exact .inr (fun e => by have := (HOWN.out.lt k ho).1; have e' := Option.some.inj e; omega)
        · have hno := none_at_end hl hst (fun u e => h0 ⟨u, e⟩) (fun u e => h1 ⟨u, e⟩)
          have hmv := move_fail hrd
          have hp2 := hasPre_no 0 t wr (fun u e => h0 ⟨u, e⟩)
          have HP := Lib.hid hp
          have HP2 := Lib.hid hp2
          have HMV := Lib.hid hmv
          have HNO := Lib.hid hno
          have HON := Lib.hid hon
          clear hmv hp hp2 hst hl hown hon hrd hno h0 h1
          generalize sv t = S at *
          go_wp2_with fail
          refine HP.out.mono ?_
          rintro e w1 ⟨rfl, rfl⟩
          go_wp2_with fail
          refine HP2.out.mono ?_
          rintro e w1 ⟨rfl, rfl⟩
          go_wp2_with fail
          refine HMV.out.mono ?_
          rintro e w1 ⟨rfl, h1, h2⟩
          have H1 := Lib.hid h1
          have H2 := Lib.hid h2
          clear h1 h2
          go_wp2_with fail
          go_ret
          exact .inr ⟨HNO.out, rfl, H1.out, only_trans HON.out H2.out⟩
    · have hp := hasPre_no 1 [] wr (fun u e => by cases e)
      have hp2 := hasPre_no 0 [] wr (fun u e => by cases e)
      obtain ⟨c0, c1⟩ := hrd.cells
      have hmv := move_fail hrd
      have HP := Lib.hid hp
      have HP2 := Lib.hid hp2
      have HMV := Lib.hid hmv
      have HNO := Lib.hid hno
      have HON := Lib.hid hon
      clear hmv hp hp2 hon hrd hno
      generalize sv [] = S at *
      go_wp2_with fail
      refine HP.out.mono ?_
      rintro e w1 ⟨rfl, rfl⟩
      go_wp2_with fail
      refine HP2.out.mono ?_
      rintro e w1 ⟨rfl, rfl⟩
      go_wp2_with fail
      refine HMV.out.mono ?_
      rintro e w1 ⟨rfl, h1, h2⟩
      have H1 := Lib.hid h1
      have H2 := Lib.hid h2
      clear h1 h2
      go_wp2_with fail
      go_ret
      exact .inr ⟨HNO.out, rfl, H1.out, only_trans HON.out H2.out⟩
/-- What a reader gives that reads a list of strings. -/
def RLt (r : Nat) (s : Bs) (f : Bool) (w : World) (e : Ending) (w' : World) : Prop :=
  (∃ (l : List Bs) (t : Bs) (v : Value), (∀ x ∈ l, True) ∧ s = encL encT l ++ t ∧ e = .returned v ∧ w'.ownsRow w.heap.size 9 1 v l.length (tv l) ∧ Rdr w' r t f ∧ w.grownBy w' (some r)) ∨
  ((¬ ∃ (l : List Bs) (t : Bs), (∀ x ∈ l, True) ∧ s = encL encT l ++ t) ∧ e = .returned (.slice none 0 0) ∧ Rdr w' r [] true ∧ w.grownBy w' (some r))
/-- The head of the loop: what has been read so far; or the reader has failed, and there is no list. -/
def LIt (r : Nat) (s : Bs) (f : Bool) (w : World) (v : Value) (wr : World) : Prop :=
  (∃ (l : List Bs) (t : Bs), (∀ x ∈ l, True) ∧ s = pre encT l ++ t ∧ wr.ownsRow w.heap.size 9 1 v l.length (tv l) ∧ Rdr wr r t f ∧ w.grownBy wr (some r)) ∨
  ((¬ ∃ (l : List Bs) (t : Bs), (∀ x ∈ l, True) ∧ s = encL encT l ++ t) ∧ Rdr wr r [] true ∧ w.grownBy wr (some r))
theorem inj_texts : ∀ (x y : Bs) (t u : Bs), True → True → encT x ++ t = encT y ++ u → x = y ∧ t = u := fun _ _ _ _ hx hy h => encT_inj h
theorem none_after_text {l : List Bs} {t s : Bs} (hl : ∀ x ∈ l, True) (hs : s = pre encT l ++ 1 :: t) (hd : decT t = none) : ¬ ∃ (l : List Bs) (t : Bs), (∀ x ∈ l, True) ∧ s = encL encT l ++ t := by
  rintro ⟨l', t', hl', he⟩
  rw [hs] at he
  obtain ⟨l'', rfl, hr⟩ := encL_peel (fun _ => True) inj_texts l _ l' t' hl hl' he
  cases l'' with
  | nil => simp [encL, pre] at hr
  | cons y l'' =>
    have : t = encT y ++ (encL encT l'' ++ t') := by simpa [encL, pre] using hr
    rw [this, decT_enc] at hd
    cases hd
theorem none_at_end_t {l : List Bs} {t s : Bs} (hl : ∀ x ∈ l, True) (hs : s = pre encT l ++ t) (h0 : ∀ u, t ≠ 0 :: u) (h1 : ∀ u, t ≠ 1 :: u) : ¬ ∃ (l : List Bs) (t : Bs), (∀ x ∈ l, True) ∧ s = encL encT l ++ t := by
  rintro ⟨l', t', hl', he⟩
  rw [hs] at he
  obtain ⟨l'', rfl, hr⟩ := encL_peel (fun _ => True) inj_texts l _ l' t' hl hl' he
  cases l'' with
  | nil => exact h0 t' (by simpa [encL, pre] using hr)
  | cons y l'' => exact h1 (encT y ++ (encL encT l'' ++ t')) (by simpa [encL, pre] using hr)

set_option maxHeartbeats 2000000 in
set_option maxRecDepth 100000 in
theorem readList_texts {w : World} {r : Nat} {s : Bs} {f : Bool} (h : Rdr w r s f) (hs : s.length ≤ 1048576) (hm : Mx w) (hg0 : 0 < r) :
    Calls Tryd.prog 53 #[.pointer (some ⟨r, 0, none⟩), .func (.func 26) #[.pointer (some ⟨r, 0, none⟩)] #[]] w (RLt r s f w) := by
  obtain ⟨i0, hi0, hz0, hz1, hz2⟩ := info_parts infoStr
  have hrlt := Blk.lt h
  have H0 : Hid (LIt r s f w (.slice none 0 0) w) := Lib.hid (.inl ⟨[], s, by simp, rfl, ⟨by simp [tv], .inl ⟨rfl, rfl⟩⟩, h, only_refl _ _⟩)
  have HMX := Lib.hid hm
  clear h hm
  go_enter Tryd.func53, Tryd.ntmps53
  go_wp2_with fail
  go_loopw [5] (fun v wr => LIt r s f w v wr) (fun _ wr => restLen wr r)
  case atStart => exact H0.out
  case round =>
    have hrel' := hrel
    clear hrel
    rcases hrel' with ⟨l, t, hl, hst, hown, hrd, hon⟩ | ⟨hno, hrd, hon⟩
    · have htl : l.length + t.length ≤ 1048576 := by
        have := congrArg List.length hst
        have h2 : l.length ≤ (pre encT l).length := by
          clear hst this hown hrd hon hl
          induction l with
          | nil => simp
          | cons x l ih => simp [pre]; omega
        rw [List.length_append] at this
        omega
      by_cases h1 : ∃ u, t = 1 :: u
      · obtain ⟨u, rfl⟩ := h1
        obtain ⟨c0, c1⟩ := hrd.cells
        have hrl := restLen_eq hrd
        have hmv := move_ok hrd 1 (by omega) (by simp) (by simp at htl ⊢; omega)
        have hp := hasPre_yes 1 u wr
        have HP := Lib.hid hp
        have HMV := Lib.hid hmv
        have HRL := Lib.hid hrl
        have HST := Lib.hid hst
        have HL := Lib.hid hl
        have HOWN := Lib.hid hown
        have HON := Lib.hid hon
        have HRD := Lib.hid hrd
        clear hmv hp hrl hst hl hown hon hrd
        generalize sv (1 :: u) = S at *
        go_wp2_with fail
        refine HP.out.mono ?_
        rintro e w1 ⟨rfl, rfl⟩
        go_wp2_with fail
        refine HMV.out.mono ?_
        rintro e w1 ⟨rfl, h1, h2⟩
        have H1 := Lib.hid h1
        have H2 := Lib.hid h2
        clear h1 h2
        have hul : u.length ≤ 1048576 := by simp at htl; omega
        cases hd : decT u with
        | some p =>
          obtain ⟨m, u2⟩ := p
          have hJ := decT_some _ _ _ hd
          have C1 := Lib.hid (rtext_yes H1.out hul (HMX.out.only (only_trans HON.out H2.out) hg0) hd)
          have HJ := Lib.hid hJ
          clear hJ hd
          go_wp2_with fail
          refine C1.out.mono ?_
          rintro e w2 ⟨rfl, h3, h4⟩
          have hon2 := only_trans H2.out h4
          have hne : u5.ownBlock = none ∨ u5.ownBlock ≠ some r := by
            cases ho : u5.ownBlock with
            | none => exact .inl rfl
            | some k => exact .inr (fun e => by have := (HOWN.out.lt k ho).1; have e' := Option.some.inj e; omega)
          have hown2 := HOWN.out.kept hon2 hne
          have hsz2 := hon2.size
          have hsz1 := HON.out.size
          have H3 := Lib.hid h3
          have H4 := Lib.hid hon2
          clear h3 h4 hon2 hne
          go_wp2_with (first
            | (at_builtin; go_loud (refine wpList_append_own _ rfl (.tmp 13) (.tmp 16) 26 rfl w.heap.size 9 i0 (.string ⟨#[]⟩) 1 16 Tryd.underlying26 hi0 hz0 hz1 hz2 rfl (by decide) _ _ _ rfl (hown2.alloc _) ⟨w2.heap.size, 0, none⟩ 1 1 [.string (sv m)] rfl rfl (fun j u hj => one_cell rfl j hj) one_str (by unfold maxLen; omega) (by omega) (by simp; omega) ?_); intro v3 w3 hown3 hgrow3 _))
          have hlt3 := fun k (e : u5.ownBlock = some k) => (hown2.lt k e)
          have F3 : Hid (Rdr w3 r u2 f ∧ w.grownBy w3 (some r)) := Lib.hid ⟨(H3.out.below (below_alloc w2 _)).kept hgrow3 (fun k e => by have := (hlt3 k e).1; omega), only_own (only_alloc (only_trans HON.out H4.out) _) hgrow3 (fun k e => (hlt3 k e).1)⟩
          have F4 : Hid (w3.ownsRow w.heap.size 9 1 v3 (l ++ [m]).length (tv (l ++ [m]))) := Lib.hid (by simpa [tv] using hown3)
          clear hown2 hown3 hgrow3 hlt3
          go_wp2_with fail
          go_roundw
          case rel => exact .inl ⟨l ++ [m], u2, by
            intro x hx
            trivial, by rw [HST.out, pre_snoc, HJ.out]; simp, F4.out, F3.out.1, F3.out.2⟩
          case measure =>
            rw [restLen_eq F3.out.1, HRL.out, HJ.out]
            simp; omega
        | none =>
          have C1 := Lib.hid (rtext_no H1.out hul (HMX.out.only (only_trans HON.out H2.out) hg0) hd)
          have HNO := Lib.hid (none_after_text HL.out HST.out hd)
          clear hd
          go_wp2_with fail
          refine C1.out.mono ?_
          rintro e w2 ⟨rfl, h3, h4⟩
          have hon2 := only_trans H2.out h4
          have hne : u5.ownBlock = none ∨ u5.ownBlock ≠ some r := by
            cases ho : u5.ownBlock with
            | none => exact .inl rfl
            | some k => exact .inr (fun e => by have := (HOWN.out.lt k ho).1; have e' := Option.some.inj e; omega)
          have hown2 := HOWN.out.kept hon2 hne
          have hsz2 := hon2.size
          have hsz1 := HON.out.size
          have H3 := Lib.hid h3
          have H4 := Lib.hid hon2
          clear h3 h4 hon2 hne
          go_wp2_with (first
            | (at_builtin; go_loud (refine wpList_append_own _ rfl (.tmp 13) (.tmp 16) 26 rfl w.heap.size 9 i0 (.string ⟨#[]⟩) 1 16 Tryd.underlying26 hi0 hz0 hz1 hz2 rfl (by decide) _ _ _ rfl (hown2.alloc _) ⟨w2.heap.size, 0, none⟩ 1 1 [.string (sv [])] rfl rfl (fun j u hj => one_cell rfl j hj) one_str (by unfold maxLen; omega) (by omega) (by simp; omega) ?_); intro v3 w3 hown3 hgrow3 _))
          have hlt3 := fun k (e : u5.ownBlock = some k) => (hown2.lt k e)
          have F3 : Hid (Rdr w3 r [] true ∧ w.grownBy w3 (some r)) := Lib.hid ⟨(H3.out.below (below_alloc w2 _)).kept hgrow3 (fun k e => by have := (hlt3 k e).1; omega), only_own (only_alloc (only_trans HON.out H4.out) _) hgrow3 (fun k e => (hlt3 k e).1)⟩
          clear hown2 hown3 hgrow3 hlt3
          go_wp2_with fail
          go_roundw
          case rel => exact .inr ⟨HNO.out, F3.out.1, F3.out.2⟩
          case measure =>
            rw [restLen_eq F3.out.1, HRL.out]
            simp
      · have hp := hasPre_no 1 t wr (fun u e => h1 ⟨u, e⟩)
        obtain ⟨c0, c1⟩ := hrd.cells
        by_cases h0 : ∃ u, t = 0 :: u
        · obtain ⟨u, rfl⟩ := h0
          have hmv := move_ok hrd 1 (by omega) (by simp) (by simp at htl ⊢; omega)
          have hp2 := hasPre_yes 0 u wr
          have hse : s = encL encT l ++ u := by rw [hst]; simp [encL]
          have HP := Lib.hid hp
          have HP2 := Lib.hid hp2
          have HMV := Lib.hid hmv
          have HSE := Lib.hid hse
          have HL := Lib.hid hl
          have HOWN := Lib.hid hown
          have HON := Lib.hid hon
          clear hmv hp hp2 hst hl hown hon hrd hse
          generalize sv (0 :: u) = S at *
          go_wp2_with fail
          refine HP.out.mono ?_
          rintro e w1 ⟨rfl, rfl⟩
          go_wp2_with fail
          refine HP2.out.mono ?_
          rintro e w1 ⟨rfl, rfl⟩
          go_wp2_with fail
          refine HMV.out.mono ?_
          rintro e w1 ⟨rfl, h1, h2⟩
          have H1 := Lib.hid h1
          have H2 := Lib.hid h2
          clear h1 h2
          go_wp2_with fail
          go_ret
          refine .inl ⟨l, u, u5, HL.out, HSE.out, rfl, HOWN.out.kept H2.out ?_, H1.out, only_trans HON.out H2.out⟩
          cases ho : u5.ownBlock with
          | none => exact .inl rfl
          | some k => exact .inr (fun e => by have := (HOWN.out.lt k ho).1; have e' := Option.some.inj e; omega)
        · have hno := none_at_end_t hl hst (fun u e => h0 ⟨u, e⟩) (fun u e => h1 ⟨u, e⟩)
          have hmv := move_fail hrd
          have hp2 := hasPre_no 0 t wr (fun u e => h0 ⟨u, e⟩)
          have HP := Lib.hid hp
          have HP2 := Lib.hid hp2
          have HMV := Lib.hid hmv
          have HNO := Lib.hid hno
          have HON := Lib.hid hon
          clear hmv hp hp2 hst hl hown hon hrd hno h0 h1
          generalize sv t = S at *
          go_wp2_with fail
          refine HP.out.mono ?_
          rintro e w1 ⟨rfl, rfl⟩
          go_wp2_with fail
          refine HP2.out.mono ?_
          rintro e w1 ⟨rfl, rfl⟩
          go_wp2_with fail
          refine HMV.out.mono ?_
          rintro e w1 ⟨rfl, h1, h2⟩
          have H1 := Lib.hid h1
          have H2 := Lib.hid h2
          clear h1 h2
          go_wp2_with fail
          go_ret
          exact .inr ⟨HNO.out, rfl, H1.out, only_trans HON.out H2.out⟩
    · have hp := hasPre_no 1 [] wr (fun u e => by cases e)
      have hp2 := hasPre_no 0 [] wr (fun u e => by cases e)
      obtain ⟨c0, c1⟩ := hrd.cells
      have hmv := move_fail hrd
      have HP := Lib.hid hp
      have HP2 := Lib.hid hp2
      have HMV := Lib.hid hmv
      have HNO := Lib.hid hno
      have HON := Lib.hid hon
      clear hmv hp hp2 hon hrd hno
      generalize sv [] = S at *
      go_wp2_with fail
      refine HP.out.mono ?_
      rintro e w1 ⟨rfl, rfl⟩
      go_wp2_with fail
      refine HP2.out.mono ?_
      rintro e w1 ⟨rfl, rfl⟩
      go_wp2_with fail
      refine HMV.out.mono ?_
      rintro e w1 ⟨rfl, h1, h2⟩
      have H1 := Lib.hid h1
      have H2 := Lib.hid h2
      clear h1 h2
      go_wp2_with fail
      go_ret
      exact .inr ⟨HNO.out, rfl, H1.out, only_trans HON.out H2.out⟩

theorem rnums_any {w : World} {r : Nat} {s : Bs} {f : Bool} (h : Rdr w r s f) (hs : s.length ≤ 1048576) : Calls Tryd.prog 29 #[.pointer (some ⟨r, 0, none⟩)] w (RLi r s f w) := by
  have c1 := readList_ints h hs
  have C1 := Lib.hid c1
  clear c1 h
  go_enter Tryd.func29, Tryd.ntmps29
  go_wp2_with fail
  refine C1.out.mono ?_
  rintro e w' (⟨l, t, v, h1, h2, rfl, h3, h4, h5⟩ | ⟨h1, rfl, h3, h4⟩)
  · have H : Hid (RLi r s f w (.returned v) w') := Lib.hid (.inl ⟨l, t, v, h1, h2, rfl, h3, h4, h5⟩)
    clear h1 h2 h3 h4 h5
    go_wp2_with fail
    go_ret
    exact H.out
  · have H : Hid (RLi r s f w (.returned (.slice none 0 0)) w') := Lib.hid (.inr ⟨h1, rfl, h3, h4⟩)
    clear h1 h3 h4
    go_wp2_with fail
    go_ret
    exact H.out

theorem rtexts_any {w : World} {r : Nat} {s : Bs} {f : Bool} (h : Rdr w r s f) (hs : s.length ≤ 1048576) (hm : Mx w) (hg0 : 0 < r) : Calls Tryd.prog 32 #[.pointer (some ⟨r, 0, none⟩)] w (RLt r s f w) := by
  have c1 := readList_texts h hs hm hg0
  have C1 := Lib.hid c1
  clear c1 h hm
  go_enter Tryd.func32, Tryd.ntmps32
  go_wp2_with fail
  refine C1.out.mono ?_
  rintro e w' (⟨l, t, v, h1, h2, rfl, h3, h4, h5⟩ | ⟨h1, rfl, h3, h4⟩)
  · have H : Hid (RLt r s f w (.returned v) w') := Lib.hid (.inl ⟨l, t, v, h1, h2, rfl, h3, h4, h5⟩)
    clear h1 h2 h3 h4 h5
    go_wp2_with fail
    go_ret
    exact H.out
  · have H : Hid (RLt r s f w (.returned (.slice none 0 0)) w') := Lib.hid (.inr ⟨h1, rfl, h3, h4⟩)
    clear h1 h3 h4
    go_wp2_with fail
    go_ret
    exact H.out
end Go.Proofs.YtocbodjmdgoaiaaDoor
