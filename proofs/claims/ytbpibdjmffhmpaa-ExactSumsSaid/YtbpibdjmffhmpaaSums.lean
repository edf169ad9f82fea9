/- The statement ExactSums: the sum of a list does not depend on the order, a negated list has the negated sum, and the sum is that of the limited additions where these stay inside the limits. Conditions: none. -/
import Derived.Test.YtbpibdjmffhmpaaUp
import Derived.Deep.DeepCutAuto
namespace Go.Proofs.Ytbpibdjmffhmpaa.exactSums
open Go.ChangeShapes Go.WideShapes Go.ChangeAt Go.RowKit Mth
open Go.Proofs.Ytbpibdjmffhmpaa
set_option linter.unusedVariables false

section
variable {P : Program}
/-- An append to a slice of the call's own: where the new slice lies. -/
theorem run_append_where (w : World) (base : Nat) (t ty e : TypeId) (i : TypeInfo) (z : Value) (size bytes : Nat) (ht : P.underlying t = some (.slice e)) (hi : P.info? e = some i) (hz : i.zero = some z)
    (hsize : i.size = size) (hby : i.bytes = bytes) (hzs : z.cells.size = size) (hsz : 0 < size)
    (v : Value) (n : Nat) (xs : List Value) (hown : w.ownsRow base e size v n xs)
    (a : Addr) (m c : Nat) (hm : 0 < m) (news : List Value) (hl : news.length = m * size) (hnews : ∀ j u, news[j]? = some u → w.cell? (a.add j) = some u) (h1 : ∀ u ∈ news, u.oneCell' = true)
    (h63 : n + m ≤ maxLen) (hbytes : (n + m) * bytes ≤ 140737488355328) (hbase : base ≤ w.heap.size) :
    ∃ v' w', (Builtin.append_ #[t, t] ty #[v, .slice (some a) m c]).run P w = .ok v' w' ∧ w'.ownsRow base e size v' (n + m) (xs ++ news) ∧ w.grownBy w' v.ownBlock ∧
      (v'.ownBlock = some w.heap.size ∨ v'.ownBlock = v.ownBlock) := by
  obtain ⟨v', w', hr, h2, h3, h4⟩ := run_append_own (P := P) w base t ty e i z size bytes ht hi hz hsize hby hzs hsz v n xs hown a m c news hl hnews h1 h63 hbytes hbase
  refine ⟨v', w', hr, h2, h3, ?_⟩
  subst hsize hby
  have hsmall : n + m ≤ 9223372036854775807 := by simp only [maxLen] at h63; omega
  rcases hown.2 with ⟨rfl, rfl⟩ | ⟨g, cap, cur, rfl, hbg, hg, hnc, hcm, hcs, htake⟩
  · have hr2 := run_append_nil (P := P) w t ty e i z ht hi hz a m c news hl hnews hm (by omega) (by have hb := hbytes; simp only [Nat.zero_add] at hb; omega)
    rw [hr2] at hr
    injection hr with e1 e2
    left
    rw [← e1]
    rfl
  · by_cases hroom : n + m ≤ cap
    · have hfit : n * i.size + news.length ≤ cur.size := by rw [hl, hcs, ← Nat.add_mul]; exact Nat.mul_le_mul_right _ hroom
      have hr2 := run_append_room (P := P) w t ty e i ht hi g n cap cur hg a m c news hl hnews h1 hroom hfit
      rw [hr2] at hr
      injection hr with e1 e2
      right
      rw [← e1]
      rfl
    · have hr2 := run_append_grow (P := P) w t ty e i z ht hi hz ⟨g, 0, none⟩ n cap xs hown.1 (hown.cells (g := g) rfl) a m c news hl hnews (by omega) (by omega) (growslice_fits (by omega) hbytes)
      rw [hr2] at hr
      injection hr with e1 e2
      left
      rw [← e1]
      rfl

theorem wpList_append_where {w : World} {ops : Array Oper} {rest : List Oper} {o : Oper} {a : Act} {Q : Exit → Act → World → Prop} (hgd : o.guard = none) (s x : Operand) (t : TypeId)
    (ho : o.op = .call { callee := .builtin .append, args := #[s, x], argTypes := #[t, t] })
    (base : Nat) (e : TypeId) (i : TypeInfo) (z : Value) (size bytes : Nat) (ht : P.underlying t = some (.slice e)) (hi : P.info? e = some i) (hz : i.zero = some z)
    (hsize : i.size = size) (hby : i.bytes = bytes) (hzs : z.cells.size = size) (hsz : 0 < size)
    (v : Value) (n : Nat) (xs : List Value) (hs : a.eval s = v) (hown : w.ownsRow base e size v n xs)
    (ad : Addr) (m c : Nat) (hm : 0 < m) (news : List Value) (hx : a.eval x = .slice (some ad) m c) (hl : news.length = m * size) (hnews : ∀ j u, news[j]? = some u → w.cell? (ad.add j) = some u) (h1 : ∀ u ∈ news, u.oneCell' = true)
    (h63 : n + m ≤ maxLen) (hbytes : (n + m) * bytes ≤ 140737488355328) (hbase : base ≤ w.heap.size)
    (h : ∀ v' w', w'.ownsRow base e size v' (n + m) (xs ++ news) → w.grownBy w' v.ownBlock → (v'.ownBlock = some w.heap.size ∨ v'.ownBlock = v.ownBlock) → wpList P ops Q rest (a.put o.dst v') w') : wpList P ops Q (o :: rest) a w :=
  wpList_plain hgd fun _ hK => by
    obtain ⟨v', w', hr, h2, h3, h4⟩ := run_append_where (P := P) w base t o.type e i z size bytes ht hi hz hsize hby hzs hsz v n xs hown ad m c hm news hl hnews h1 h63 hbytes hbase
    unfold Oper.wp execOp
    simp only [ho, resolve, invoke, builtin, Sem.run_bind, Sem.run_pure, Result.andThen_ok, List.map_toArray, List.map_cons, List.map_nil, hs, hx, hr]
    exact hK _ _ (h v' w' h2 h3 h4)
end

/-- The last k elements, from the end. -/
def rev (zs : List Int) (k : Nat) : List Int := (zs.drop (zs.length - k)).reverse
theorem rev_zero (zs : List Int) : rev zs 0 = [] := by unfold rev; simp
theorem rev_all (zs : List Int) : rev zs zs.length = zs.reverse := by unfold rev; simp
theorem rev_len (zs : List Int) (k : Nat) (hk : k ≤ zs.length) : (rev zs k).length = k := by unfold rev; simp; omega
theorem rev_succ (zs : List Int) (k j : Nat) (hk : k + 1 + j = zs.length) : rev zs (k + 1) = rev zs k ++ [zs.getD j 0] := by
  unfold rev
  rw [show zs.length - (k + 1) = j by omega, show zs.length - k = j + 1 by omega]
  rw [List.drop_eq_getElem_cons (by omega : j < zs.length), List.reverse_cons, List.getD_eq_getElem?_getD, List.getElem?_eq_getElem (by omega : j < zs.length)]
  rfl
def neg (zs : List Int) (k : Nat) : List Int := (rev zs k).map fun x => lim (0 - x)
theorem neg_succ (zs : List Int) (k j : Nat) (hk : k + 1 + j = zs.length) : neg zs (k + 1) = neg zs k ++ [lim (0 - zs.getD j 0)] := by
  unfold neg; rw [rev_succ zs k j hk, List.map_append]; rfl
/-- all of the last k elements have an opposite -/
def fineB (zs : List Int) (k : Nat) : Bool := (rev zs k).all fun x => decide (-9223372036854775808 < x)
theorem fineB_succ (zs : List Int) (k j : Nat) (hk : k + 1 + j = zs.length) : fineB zs (k + 1) = (fineB zs k && decide (-9223372036854775808 < zs.getD j 0)) := by
  unfold fineB; rw [rev_succ zs k j hk, List.all_append]; simp
theorem neg_tot {zs : List Int} (hf : Fits zs) (h : fineB zs zs.length = true) : tot (neg zs zs.length) = - tot zs := by
  have h1 : neg zs zs.length = (rev zs zs.length).map fun x => -x := by
    unfold neg
    apply List.map_congr_left
    intro x hx
    have h2 := List.all_eq_true.1 h x hx
    have h3 := of_decide_eq_true h2
    rw [rev_all] at hx
    have h4 := hf x (List.mem_reverse.1 hx)
    rw [Int.zero_sub, lim_in (by unfold I64; omega)]
  rw [h1, tot_neg, rev_all, tot_reverse]
theorem neg_fits (zs : List Int) (k : Nat) : Fits (neg zs k) := by
  intro x hx
  obtain ⟨y, _, rfl⟩ := List.mem_map.1 hx
  exact lim_bd _
theorem rev_fits {zs : List Int} (h : Fits zs) (k : Nat) : Fits (rev zs k) := fun x hx => h x (List.mem_of_mem_drop (List.mem_reverse.1 hx))

/-- a row of ints reads as a list -/
theorem reads_row {w : World} {v : Value} {zs : List Int} {B : Nat} (h : w.ownsRow B 3 1 v zs.length (zs.map (Value.int .i64))) (hn : zs.length * 8 ≤ 140737488351232) (hf : Fits zs) : Reads w v zs := by
  refine ⟨hn, hf, ?_⟩
  rcases h.2 with ⟨rfl, h0⟩ | ⟨g, cap, cur, rfl, hb, hg, hnc, hcm, hcs, htake⟩
  · left
    exact ⟨List.length_eq_zero_iff.1 h0, _, _, rfl⟩
  · right
    refine ⟨g, 0, cap, rfl, (Array.getElem?_eq_some_iff.1 hg).1, ?_⟩
    intro j hj
    rw [Nat.zero_add, h.cellAt j (by omega)]
    simp [List.getD_eq_getElem?_getD, hj]

/-- after one more limited addition -/
theorem lim_next {lv x s : Int} {b : Bool} (h : b = true → lv = s) (hx : I64 x) (hl : I64 lv) :
    ((b && decide (-9223372036854775808 < lim (lv + x)) && decide (lim (lv + x) < 9223372036854775807)) = true → lim (lv + x) = s + x) := by
  intro h1
  simp only [Bool.and_eq_true, decide_eq_true_eq] at h1
  have h2 := h h1.1.1
  subst h2
  have h3 := h1.1.2
  have h4 := h1.2
  revert h3 h4
  unfold lim
  (repeat' split) <;> omega

theorem sumN_bd (l : List Int) : I64 (sumN l) := by
  unfold sumN
  cases h : sumB l with
  | true => have := of_decide_eq_true h; unfold I64; simp; omega
  | false => exact i64c (n := 0) (by decide)
/-- the sums of two parts -/
theorem sumB_two (zs : List Int) (p : Nat) (h1 : sumB (zs.take p) = true) (h2 : sumB (zs.drop p) = true) : sumN [sumN (zs.take p), sumN (zs.drop p)] = sumN zs ∧ sumB [sumN (zs.take p), sumN (zs.drop p)] = sumB zs := by
  have h3 := tot_append (zs.take p) (zs.drop p)
  rw [List.take_append_drop] at h3
  have e1 : sumN (zs.take p) = tot (zs.take p) := by unfold sumN; rw [h1]; rfl
  have e2 : sumN (zs.drop p) = tot (zs.drop p) := by unfold sumN; rw [h2]; rfl
  have e3 : tot [sumN (zs.take p), sumN (zs.drop p)] = tot zs := by rw [e1, e2, h3]; simp [tot]
  have e4 : sumB [sumN (zs.take p), sumN (zs.drop p)] = sumB zs := by unfold sumB; rw [e3]
  exact ⟨by unfold sumN at *; rw [e4, e3], e4⟩
theorem neg_sum {zs : List Int} (hf : Fits zs) (h1 : fineB zs zs.length = true) (h2 : sumB zs = true) (h3 : sumB (neg zs zs.length) = true) : sumN (neg zs zs.length) = -sumN zs := by
  unfold sumN
  rw [h2, h3, neg_tot hf h1]
  rfl
def Apart (v v' : Value) : Prop := v.ownBlock = none ∨ v'.ownBlock = none ∨ v.ownBlock ≠ v'.ownBlock

/-- The two rows that the first loop appends to. -/
structure Two (zs : List Int) (B k : Nat) (w0 : World) (vb vm : Value) (wr : World) : Prop where
  back : wr.ownsRow B 3 1 vb (rev zs k).length ((rev zs k).map (Value.int .i64))
  minus : wr.ownsRow B 3 1 vm (neg zs k).length ((neg zs k).map (Value.int .i64))
  apart : Apart vb vm
  below : Below B w0 wr
theorem Two.start (zs : List Int) (w0 : World) : Two zs w0.heap.size 0 w0 (.slice none 0 0) (.slice none 0 0) w0 := by
  refine ⟨?_, ?_, .inl rfl, Below.refl _ _⟩
  · rw [rev_zero]; exact World.ownsRow_nil _ _ _ _
  · unfold neg; rw [rev_zero]; exact World.ownsRow_nil _ _ _ _

theorem own_ne {w : World} {B n : Nat} {v : Value} {xs : List Value} (h : w.ownsRow B 3 1 v n xs) {g : Nat} (hg : w.heap.size ≤ g) : v.ownBlock = none ∨ v.ownBlock ≠ some g := by
  cases hv : v.ownBlock with
  | none => exact .inl rfl
  | some k => right; intro he; have := (h.lt k hv).2; injection he with he; omega
/-- what one append does to two rows -/
theorem one_append {B : Nat} {w0 wr w' : World} {va vo va' : Value} {la lo la' : List Int} {o : Obj} (ha : wr.ownsRow B 3 1 va la.length (la.map (Value.int .i64))) (ho : wr.ownsRow B 3 1 vo lo.length (lo.map (Value.int .i64)))
    (hap : Apart va vo) (hbel : Below B w0 wr) (hB : B ≤ wr.heap.size) {x : Int} (he : la' = la ++ [x])
    (hown : w'.ownsRow B 3 1 va' (la.length + 1) (la.map (Value.int .i64) ++ [.int .i64 x])) (hgrow : (wr.alloc o).grownBy w' va.ownBlock) (hwh : va'.ownBlock = some (wr.heap.size + 1) ∨ va'.ownBlock = va.ownBlock) :
    w'.ownsRow B 3 1 va' la'.length (la'.map (Value.int .i64)) ∧ w'.ownsRow B 3 1 vo lo.length (lo.map (Value.int .i64)) ∧ Apart va' vo ∧ Below B w0 w' ∧ B ≤ w'.heap.size := by
  subst he
  refine ⟨by simpa using hown, ?_, ?_, ?_, ?_⟩
  · refine (ho.alloc o).kept hgrow ?_
    rcases hap with h | h | h
    · rw [h]
      cases hv : vo.ownBlock with
      | none => exact .inl rfl
      | some k => right; intro e; cases e
    · exact .inl h
    · exact .inr (fun e => h e.symm)
  · rcases hwh with h | h
    · unfold Apart
      rw [h]
      rcases own_ne (ho.alloc o) (g := wr.heap.size + 1) (by simp) with h2 | h2
      · exact .inr (.inl h2)
      · exact .inr (.inr (fun e => h2 e.symm))
    · unfold Apart at *
      rw [h]
      exact hap
  · exact (hbel.alloc hB o).grown hgrow (by simp; omega) (fun k hk => (ha.lt k hk).1)
  · have := hgrow.size
    simp at this
    omega
theorem Apart.symm {v v' : Value} (h : Apart v v') : Apart v' v := by
  rcases h with h | h | h
  · exact .inr (.inl h)
  · exact .inl h
  · exact .inr (.inr (fun e => h e.symm))

set_option maxHeartbeats 3200000 in
set_option maxRecDepth 100000 in
theorem walk_some (t : Int) (zs : List Int) (b off c : Nat) (w : World) (hr : Reads w (.slice (some ⟨b, off, none⟩) zs.length c) zs)
    (hbl : b < w.heap.size) (hc : ∀ j, j < zs.length → w.cell? ⟨b, off + j, none⟩ = some (.int .i64 (zs.getD j 0))) (hnc : zs.length ≤ c) (hn1 : 1 ≤ zs.length) (hn2 : zs.length ≤ 200) :
    Calls Try.prog 7 #[.slice (some ⟨b, off, none⟩) zs.length c, .int .i64 t] w (IsTrue w) := by
  obtain ⟨i0, hi, hz0, hz1, hz2⟩ := info_parts (show (Try.prog.info? 3).map (fun i => (i.zero, i.size, i.bytes)) = some (some (.int .i64 0), 1, 8) by kernel_rfl)
  have hfit := hr.2.1
  have HFIT := Lib.hid hfit
  have HR := Lib.hid hr
  have HC := Lib.hid hc
  clear hr hc hfit
  have d200 : decide (200 < zs.length) = false := decide_eq_false (by omega)
  go_enter Try.func7, Try.ntmps7
  go_wp2_with fail
  refine (small_any _).mono ?_
  rintro e w1 ⟨rfl, hbel⟩
  have R1 := Lib.hid (HR.out.below hbel)
  have HBEL := Lib.hid hbel
  clear hbel
  go_wp2_with fail
  refine (sum_any R1.out).mono ?_
  rintro e w2 ⟨rfl, rfl⟩
  go_wp2_with fail
  go_loopw [8, 9, 11, 12] (fun vb vm fine i wr => ∃ k : Nat, k ≤ zs.length ∧ i = .int .i64 ((zs.length : Int) - 1 - k) ∧ fine = .bool (fineB zs k) ∧ Two zs w1.heap.size k w1 vb vm wr) (fun _ _ _ i _ => ((intOf i) + 1).toNat)
  case atStart => exact ⟨0, Nat.zero_le _, by go_num, by simp [fineB, rev_zero], Two.start zs w1⟩
  case round =>
    obtain ⟨k, hk, rfl, rfl, two⟩ := hrel
    by_cases hlt : k < zs.length
    · obtain ⟨j, hj⟩ : ∃ j, k + 1 + j = zs.length := ⟨zs.length - (k + 1), by omega⟩
      have hji : (zs.length : Int) - 1 - (k : Int) = (j : Int) := by omega
      rw [hji]
      have HJ := Lib.hid hj
      have HJI := Lib.hid hji
      have TWO := Lib.hid two
      have hsz := two.below.size
      have hcell : wr.cell? ⟨b, off + j, none⟩ = some (.int .i64 (zs.getD j 0)) := ((bon HBEL.out two.below).cell (p := ⟨b, off + j, none⟩) hbl).trans (HC.out j (by omega))
      have hx := HFIT.out.getD j
      have hjl : j < zs.length := by omega
      clear two hji hj
      generalize hxx : zs.getD j 0 = x at *
      have HX := Lib.hid hxx
      clear hxx
      have hlk := rev_len zs k hk
      have HLK := Lib.hid hlk
      have hln : (neg zs k).length = k := by unfold neg; rw [List.length_map]; exact hlk
      have HLN := Lib.hid hln
      clear hlk hln
      go_wp2_with (at_builtin; refine wpList_append_where rfl (.tmp 42) (.tmp 47) 22 rfl w1.heap.size 3 i0 (.int .i64 0) 1 8 Try.underlying22 hi hz0 hz1 hz2 rfl (by decide) _ _ _ rfl (TWO.out.back.alloc _) ⟨wr.heap.size, 0, none⟩ 1 1 (by decide) [.int .i64 x] rfl rfl ?c1 ?c2 ?c3 ?c4 ?c5 ?_)
      case c1 =>
        intro j u hj
        match j, hj with
        | 0, hj => simp at hj; subst hj; simp [Addr.add]
      case c2 => intro u hu; simp at hu; subst hu; rfl
      case c3 => have := HLK.out; unfold maxLen; omega
      case c4 => have := HLK.out; omega
      case c5 => simp; omega
      intro vb' wa hown hgrow hwh
      obtain ⟨a1, a2, a3, a4, a5⟩ := one_append (la' := rev zs (k + 1)) TWO.out.back TWO.out.minus TWO.out.apart TWO.out.below hsz (by rw [rev_succ zs k j HJ.out, HX.out]) hown hgrow hwh
      have A1 := Lib.hid a1
      have A2 := Lib.hid a2
      have A3 := Lib.hid a3
      have A4 := Lib.hid a4
      have hcell2 : wa.cell? ⟨b, off + j, none⟩ = some (.int .i64 x) := by
        have h1 := (bon HBEL.out a4).cell (p := ⟨b, off + j, none⟩) hbl
        rw [h1, HC.out j (by omega), HX.out]
      have hsub := fun W => sub_any 0 x (i64c (by decide)) hx W
      have HSUB := Lib.hid hsub
      clear a1 a2 a3 a4 hown hgrow hwh hsub
      go_wp2_with fail
      refine (HSUB.out _).mono ?_
      rintro e w2 ⟨rfl, rfl⟩
      go_wp2_with (at_builtin; refine wpList_append_where rfl (.tmp 49) (.tmp 55) 22 rfl w1.heap.size 3 i0 (.int .i64 0) 1 8 Try.underlying22 hi hz0 hz1 hz2 rfl (by decide) _ _ _ rfl (A2.out.alloc _) ⟨wa.heap.size, 0, none⟩ 1 1 (by decide) [.int .i64 (lim (0 - x))] rfl rfl ?c1 ?c2 ?c3 ?c4 ?c5 ?_)
      case c1 =>
        intro j u hj
        match j, hj with
        | 0, hj => simp at hj; subst hj; simp [Addr.add]
      case c2 => intro u hu; simp at hu; subst hu; rfl
      case c3 => have := HLN.out; unfold maxLen; omega
      case c4 => have := HLN.out; omega
      case c5 => simp; omega
      intro vm' wb hown hgrow hwh
      obtain ⟨b1, b2, b3, b4, b5⟩ := one_append (la' := neg zs (k + 1)) A2.out A1.out A3.out.symm A4.out a5 (by rw [neg_succ zs k j HJ.out, HX.out, Int.zero_sub]) hown hgrow hwh
      have TWO' : Hid (Two zs w1.heap.size (k + 1) w1 vb' vm' wb) := Lib.hid ⟨b2, b1, b3.symm, b4⟩
      have hcell3 : wb.cell? ⟨b, off + j, none⟩ = some (.int .i64 x) := by
        have h1 := (bon HBEL.out b4).cell (p := ⟨b, off + j, none⟩) hbl
        rw [h1, HC.out j (by omega), HX.out]
      have hfs := fineB_succ zs k j HJ.out
      rw [HX.out] at hfs
      have hij : ((j : Int) - 1) = ((zs.length : Int) - 1 - ((k + 1 : Nat) : Int)) := by have := HJI.out; omega
      have HIJ := Lib.hid hij
      clear b1 b2 b3 b4 hown hgrow hwh hij
      cases hfk : fineB zs k with
      | false =>
        rw [hfk, Bool.false_and] at hfs
        have HFS := Lib.hid hfs
        clear hfs hfk
        go_wp2_with fail
        go_roundw
        case rel => exact ⟨k + 1, by omega, by rw [HIJ.out], by rw [HFS.out], TWO'.out⟩
        case measure => simp [intOf]
      | true =>
        rw [hfk, Bool.true_and] at hfs
        cases hdx : decide (-9223372036854775808 < x) with
        | false =>
          rw [hdx] at hfs
          have HFS := Lib.hid hfs
          clear hfs hfk
          go_wp2_with fail
          go_roundw
          case rel => exact ⟨k + 1, by omega, by rw [HIJ.out], by rw [HFS.out], TWO'.out⟩
          case measure => simp [intOf]
        | true =>
          rw [hdx] at hfs
          have HFS := Lib.hid hfs
          clear hfs hfk
          go_wp2_with fail
          go_roundw
          case rel => exact ⟨k + 1, by omega, by rw [HIJ.out], by rw [HFS.out], TWO'.out⟩
          case measure => simp [intOf]
    · obtain rfl : k = zs.length := by omega
      have hbk := two.back
      have hmn := two.minus
      have hfits := HFIT.out
      have rb : Reads wr u8 (rev zs zs.length) := reads_row hbk (by rw [rev_len zs _ (Nat.le_refl _)]; omega) (rev_fits hfits _)
      have rm : Reads wr u9 (neg zs zs.length) := reads_row hmn (by unfold neg; rw [List.length_map, rev_len zs _ (Nat.le_refl _)]; omega) (neg_fits _ _)
      have RB := Lib.hid rb
      have RM := Lib.hid rm
      have HALL := Lib.hid (bon HBEL.out two.below)
      have cells : ∀ j, j < zs.length → wr.cell? ⟨b, off + j, none⟩ = some (.int .i64 (zs.getD j 0)) := fun j hj => (HALL.out.cell (p := ⟨b, off + j, none⟩) hbl).trans (HC.out j hj)
      have CELLS := Lib.hid cells
      clear two hbk hmn hfits rb rm cells
      go_wp2_with fail
      go_loop [10, 13, 14] (fun lv ins i => ∃ k : Nat, k ≤ zs.length ∧ i = .int .i64 k ∧ ∃ (l : Int) (b : Bool), lv = .int .i64 l ∧ ins = .bool b ∧ Hid (I64 l) ∧ Hid (b = true → l = tot (zs.take k))) (fun _ _ i => zs.length - (intOf i).toNat)
      case atStart => exact ⟨0, Nat.zero_le _, rfl, 0, true, rfl, rfl, Lib.hid (i64c (by decide)), Lib.hid (fun _ => by simp [tot])⟩
      case round =>
        obtain ⟨k, hk2, rfl, l, bb, rfl, rfl, hI, hT⟩ := hrel
        by_cases hlt2 : k < zs.length
        · have hcell := CELLS.out k hlt2
          have hx := HFIT.out.getD k
          have hts := tot_snoc zs k hlt2
          have hnx := lim_next hT.out hx hI.out
          rw [← hts] at hnx
          have HNX := Lib.hid hnx
          generalize zs.getD k 0 = x at *
          have hadd := fun W => add_any l x hI.out hx W
          have hlb := Lib.hid (lim_bd (l + x))
          generalize lim (l + x) = l2 at *
          have HADD := Lib.hid hadd
          clear hts hnx hadd
          cases bb with
          | false =>
            go_wp2_with fail
            refine (HADD.out _).mono ?_
            rintro e w2 ⟨rfl, rfl⟩
            go_wp2_with fail
            go_round
            case rel => exact ⟨k + 1, by omega, by go_num, l2, false, rfl, rfl, hlb, Lib.hid (fun h => absurd h (by decide))⟩
            case measure => simp [intOf]; omega
          | true =>
            cases hd1 : decide (-9223372036854775808 < l2) with
            | false =>
              go_wp2_with fail
              refine (HADD.out _).mono ?_
              rintro e w2 ⟨rfl, rfl⟩
              go_wp2_with fail
              go_round
              case rel => exact ⟨k + 1, by omega, by go_num, l2, false, rfl, rfl, hlb, Lib.hid (fun h => absurd h (by decide))⟩
              case measure => simp [intOf]; omega
            | true =>
              cases hd2 : decide (l2 < 9223372036854775807) with
              | false =>
                go_wp2_with fail
                refine (HADD.out _).mono ?_
                rintro e w2 ⟨rfl, rfl⟩
                go_wp2_with fail
                go_round
                case rel => exact ⟨k + 1, by omega, by go_num, l2, false, rfl, rfl, hlb, Lib.hid (fun h => absurd h (by decide))⟩
                case measure => simp [intOf]; omega
              | true =>
                have hfin : l2 = tot (zs.take (k + 1)) := HNX.out (by rw [hd1, hd2]; rfl)
                have HFIN := Lib.hid hfin
                clear hfin
                go_wp2_with fail
                refine (HADD.out _).mono ?_
                rintro e w2 ⟨rfl, rfl⟩
                go_wp2_with fail
                go_round
                case rel => exact ⟨k + 1, by omega, by go_num, l2, true, rfl, rfl, hlb, Lib.hid (fun _ => HFIN.out)⟩
                case measure => simp [intOf]; omega
        · obtain rfl : k = zs.length := by omega
          have hT2 := hT.out
          rw [List.take_length] at hT2
          have HT2 := Lib.hid hT2
          clear hT hT2
          have hsr := fun W (h : Reads W u8 (rev zs zs.length)) => sum_any h
          rw [show sumN (rev zs zs.length) = sumN zs by unfold sumN sumB; rw [rev_all, tot_reverse], show sumB (rev zs zs.length) = sumB zs by unfold sumB; rw [rev_all, tot_reverse]] at hsr
          have HSR := Lib.hid hsr
          clear hsr
          go_wp2_with fail
          refine (HSR.out _ RB.out).mono ?_
          rintro e w2 ⟨rfl, rfl⟩
          go_wp2_with fail
          refine (sum_any RM.out).mono ?_
          rintro e w2 ⟨rfl, rfl⟩
          go_upto_region 23 with fail
          have e1 : (sumN zs != sumN zs) = false := by simp
          go_cut [7, 13, 16, 115] (fun v7 v13 v16 v wc => v7 = .bool (sumB zs) ∧ v13 = .bool bb ∧ v16 = .bool (sumB zs) ∧ v = .bool false ∧ wr = wc)
          case first =>
            cases bb with
            | false =>
              cases hsb : sumB zs with
              | false =>
                have HSB := Lib.hid hsb
                clear hsb
                go_wp2_with fail
                go_meet
                exact ⟨by rw [HSB.out], rfl, by rw [HSB.out], rfl, rfl⟩
              | true =>
                have HSB := Lib.hid hsb
                clear hsb
                go_wp2_with fail
                go_meet
                exact ⟨by rw [HSB.out], rfl, by rw [HSB.out], rfl, rfl⟩
            | true =>
              have h1 := HT2.out rfl
              have h2 := hI.out
              have h3 : sumB zs = true := decide_eq_true (by unfold I64 at h2; omega)
              have h4 : sumN zs = l := by unfold sumN; rw [h3]; exact h1.symm
              rw [h3]
              have e2 : (sumN zs != l) = false := by rw [h4]; simp
              have e3 : (sumN zs == l) = true := by rw [h4]; simp
              have H3 := Lib.hid h3
              clear h1 h2 h3 h4
              go_wp2_with fail
              go_meet
              exact ⟨by rw [H3.out], rfl, by rw [H3.out], rfl, rfl⟩
          case rest =>
            obtain ⟨rfl, rfl, rfl, rfl, rfl⟩ := hcut
            go_upto_region 25 with fail
            go_cut [123] (fun v wc => v = .bool (decide (0 ≤ t ∧ t ≤ (zs.length : Int))) ∧ wr = wc)
            case first =>
              by_cases h1 : 0 ≤ t
              · by_cases h2 : t ≤ (zs.length : Int)
                · have h3 : decide (0 ≤ t ∧ t ≤ (zs.length : Int)) = true := decide_eq_true ⟨h1, h2⟩
                  have H3 := Lib.hid h3
                  have d1 : decide (0 ≤ t) = true := decide_eq_true h1
                  have d2 : decide (t ≤ (zs.length : Int)) = true := decide_eq_true h2
                  clear h1 h2 h3
                  go_wp2_with fail
                  go_meet
                  exact ⟨by rw [H3.out], rfl⟩
                · have h3 : decide (0 ≤ t ∧ t ≤ (zs.length : Int)) = false := decide_eq_false (fun h => h2 h.2)
                  have H3 := Lib.hid h3
                  have d1 : decide (0 ≤ t) = true := decide_eq_true h1
                  have d2 : decide (t ≤ (zs.length : Int)) = false := decide_eq_false h2
                  clear h1 h2 h3
                  go_wp2_with fail
                  go_meet
                  exact ⟨by rw [H3.out], rfl⟩
              · have h3 : decide (0 ≤ t ∧ t ≤ (zs.length : Int)) = false := decide_eq_false (fun h => h1 h.1)
                have H3 := Lib.hid h3
                have d1 : decide (0 ≤ t) = false := decide_eq_false h1
                clear h1 h3
                go_wp2_with fail
                go_meet
                exact ⟨by rw [H3.out], rfl⟩
            case rest =>
              obtain ⟨rfl, rfl⟩ := hcut
              go_upto_if 123 with fail
              go_cut [19] (fun _ wc => Below wr.heap.size wr wc)
              case first =>
                cases hb : decide (0 ≤ t ∧ t ≤ (zs.length : Int)) with
                | false =>
                  go_wp2_with fail
                  go_meet
                  exact Below.refl _ _
                | true =>
                  obtain ⟨hb1, hb2⟩ := of_decide_eq_true hb
                  obtain ⟨p, rfl⟩ := Int.eq_ofNat_of_zero_le hb1
                  clear hb hb1
                  have rt : Reads wr (.slice (some ⟨b, off, none⟩) p c) (zs.take p) := by
                    have hl : (zs.take p).length = p := by rw [List.length_take]; omega
                    refine ⟨by rw [hl]; omega, HFIT.out.take p, .inr ⟨b, off, c, by rw [hl], by have := HALL.out.size; omega, ?_⟩⟩
                    intro j hj
                    rw [hl] at hj
                    rw [CELLS.out j (by omega)]
                    simp [List.getD_eq_getElem?_getD, hj]
                  have RT := Lib.hid rt
                  clear rt
                  have hdl : (zs.drop p).length = zs.length - p := List.length_drop
                  have hsb := sumB_two zs p
                  have HSB := Lib.hid hsb
                  have htx := HFIT.out.take p
                  have hdx := HFIT.out.drop p
                  have HTX := Lib.hid (sumN_bd (zs.take p))
                  have HDX := Lib.hid (sumN_bd (zs.drop p))
                  have hsum2 := fun W v (h : Reads W v [sumN (zs.take p), sumN (zs.drop p)]) => sum_any h
                  have HSUM2 := Lib.hid hsum2
                  clear hsb htx hdx hsum2
                  by_cases hcp : p = c
                  · have hpn : p = zs.length := by omega
                    have rd : Reads wr (.slice (some ⟨b, off, none⟩) 0 0) (zs.drop p) := by
                      rw [hpn, List.drop_length]
                      exact ⟨by decide, fun x hx => absurd hx List.not_mem_nil, .inl ⟨rfl, _, _, rfl⟩⟩
                    have RD := Lib.hid rd
                    have d9 : (c == p) = true := by simp [hcp]
                    subst hcp
                    clear rd hpn hdl
                    go_wp2_with fail
                    refine (sum_any RT.out).mono ?_
                    rintro e w2 ⟨rfl, rfl⟩
                    go_wp2_with fail
                    refine (sum_any RD.out).mono ?_
                    rintro e w2 ⟨rfl, rfl⟩
                    go_wp2_with fail
                    refine (HSUM2.out _ _ ?_).mono ?_
                    · exact reads_at _ [sumN (zs.take p), sumN (zs.drop p)] _ 2 rfl (by simp) (fit2 _ _ HTX.out HDX.out)
                    rintro e w2 ⟨rfl, rfl⟩
                    cases h1 : sumB (zs.take p) with
                    | false =>
                      clear h1
                      go_wp2_with fail
                      go_meet
                      exact self_alloc _ _
                    | true =>
                      cases h2 : sumB (zs.drop p) with
                      | false =>
                        clear h1 h2
                        go_wp2_with fail
                        go_meet
                        exact self_alloc _ _
                      | true =>
                        obtain ⟨q1, q2⟩ := HSB.out h1 h2
                        rw [q1, q2]
                        clear h1 h2 q1 q2
                        go_wp2_with fail
                        go_meet
                        exact self_alloc _ _
                  · have rd : Reads wr (.slice (some ⟨b, off + p, none⟩) (zs.length - p) (c - p)) (zs.drop p) := by
                      refine ⟨by rw [hdl]; omega, HFIT.out.drop p, .inr ⟨b, off + p, c - p, by rw [hdl], by have := HALL.out.size; omega, ?_⟩⟩
                      intro j hj
                      rw [hdl] at hj
                      rw [Nat.add_assoc, CELLS.out (p + j) (by omega)]
                      simp [List.getD_eq_getElem?_getD]
                    have RD := Lib.hid rd
                    have hlt9 : p < c := by omega
                    clear rd hdl hcp
                    go_wp2_with fail
                    refine (sum_any RT.out).mono ?_
                    rintro e w2 ⟨rfl, rfl⟩
                    go_wp2_with fail
                    refine (sum_any RD.out).mono ?_
                    rintro e w2 ⟨rfl, rfl⟩
                    go_wp2_with fail
                    refine (HSUM2.out _ _ ?_).mono ?_
                    · exact reads_at _ [sumN (zs.take p), sumN (zs.drop p)] _ 2 rfl (by simp) (fit2 _ _ HTX.out HDX.out)
                    rintro e w2 ⟨rfl, rfl⟩
                    cases h1 : sumB (zs.take p) with
                    | false =>
                      clear h1
                      go_wp2_with fail
                      go_meet
                      exact self_alloc _ _
                    | true =>
                      cases h2 : sumB (zs.drop p) with
                      | false =>
                        clear h1 h2
                        go_wp2_with fail
                        go_meet
                        exact self_alloc _ _
                      | true =>
                        obtain ⟨q1, q2⟩ := HSB.out h1 h2
                        rw [q1, q2]
                        clear h1 h2 q1 q2
                        go_wp2_with fail
                        go_meet
                        exact self_alloc _ _
              case rest =>
                have HCUT := Lib.hid hcut
                have hneg := neg_sum (zs := zs) HFIT.out
                have HNEG := Lib.hid hneg
                have hnb := sumN_bd (neg zs zs.length)
                have HNB := Lib.hid hnb
                clear hcut hneg hnb
                cases hf : fineB zs zs.length with
                | false =>
                  clear hf
                  go_wp2_with fail
                  go_ret
                  exact ⟨rfl, bon HALL.out HCUT.out⟩
                | true =>
                  cases hs1 : sumB zs with
                  | false =>
                    clear hf hs1
                    go_wp2_with fail
                    go_ret
                    exact ⟨rfl, bon HALL.out HCUT.out⟩
                  | true =>
                    cases hs2 : sumB (neg zs zs.length) with
                    | false =>
                      clear hf hs1 hs2
                      go_wp2_with fail
                      go_ret
                      exact ⟨rfl, bon HALL.out HCUT.out⟩
                    | true =>
                      have h1 := HNEG.out hf hs1 hs2
                      have h2 := HNB.out
                      rw [h1] at h2
                      have h3 := wrap_in h2
                      have h4 : (sumN (neg zs zs.length) == -sumN zs) = true := beq_iff_eq.2 h1
                      clear hf hs1 hs2 h1 h2
                      go_wp2_with fail
                      go_ret
                      exact ⟨rfl, bon HALL.out HCUT.out⟩

set_option maxHeartbeats 1600000 in
set_option maxRecDepth 100000 in
/-- A list of more than 200 ints. -/
theorem walk_long (t : Int) (n c : Nat) (a : Option Addr) (w : World) (hn : 200 < n) : Calls Try.prog 7 #[.slice a n c, .int .i64 t] w (IsTrue w) := by
  have d200 : decide (200 < n) = true := decide_eq_true hn
  go_enter Try.func7, Try.ntmps7
  go_wp2_with fail
  refine (small_any _).mono ?_
  rintro e w1 ⟨rfl, hbel⟩
  have HBEL := Lib.hid hbel
  clear hbel
  go_wp2_with fail
  go_ret
  exact ⟨rfl, HBEL.out⟩

set_option maxHeartbeats 1600000 in
set_option maxRecDepth 100000 in
/-- An empty list. -/
theorem walk_nil (t : Int) (c : Nat) (a : Option Addr) (w : World) : Calls Try.prog 7 #[.slice a 0 c, .int .i64 t] w (IsTrue w) := by
  go_enter Try.func7, Try.ntmps7
  go_wp2_with fail
  refine (small_any _).mono ?_
  rintro e w1 ⟨rfl, hbel⟩
  have HBEL := Lib.hid hbel
  clear hbel
  go_wp2_with fail
  refine (sum_none a c _).mono ?_
  rintro e w2 ⟨rfl, rfl⟩
  go_wp2_with fail
  refine wp_loop_rounds 1 ?_
  rw [rounds_succ]
  go_wp2_with fail
  refine wp_loop_rounds 1 ?_
  rw [rounds_succ]
  go_wp2_with fail
  refine (sum_none none 0 _).mono ?_
  rintro e w2 ⟨rfl, rfl⟩
  go_wp2_with fail
  refine (sum_none none 0 _).mono ?_
  rintro e w2 ⟨rfl, rfl⟩
  by_cases h0 : t = 0
  · subst h0
    go_wp2_with fail
    refine (sum_none a c _).mono ?_
    rintro e w2 ⟨rfl, rfl⟩
    go_wp2_with fail
    refine (sum_none a c _).mono ?_
    rintro e w2 ⟨rfl, rfl⟩
    have h00 := fun W v (h : Reads W v [0, 0]) => sum_any h
    rw [show sumN [0, 0] = 0 by decide, show sumB [0, 0] = true by decide] at h00
    have H00 := Lib.hid h00
    clear h00
    go_wp2_with fail
    refine (H00.out _ _ ?_).mono ?_
    · exact reads_at _ [0, 0] _ 2 rfl (by decide) (fit2 _ _ (i64c (by decide)) (i64c (by decide)))
    rintro e w2 ⟨rfl, rfl⟩
    go_wp2_with fail
    go_ret
    exact ⟨rfl, bon HBEL.out (self_alloc _ _)⟩
  · by_cases h1 : t < 0
    · have d1 : decide (0 ≤ t) = false := decide_eq_false (by omega)
      clear h0 h1
      go_wp2_with fail
      go_ret
      exact ⟨rfl, HBEL.out⟩
    · have d1 : decide (0 ≤ t) = true := decide_eq_true (by omega)
      have d2 : decide (t ≤ 0) = false := decide_eq_false (by omega)
      clear h0 h1
      go_wp2_with fail
      go_ret
      exact ⟨rfl, HBEL.out⟩

theorem walk {a : Option Addr} {n c : Nat} {zs : List Int} {w : World} (hr : Reads w (.slice a n c) zs) (hnc : n ≤ c) (t : Int) (ht : I64 t) : Calls Try.prog 7 #[.slice a n c, .int .i64 t] w (IsTrue w) := by
  by_cases h200 : 200 < n
  · exact walk_long t n c a w h200
  · have hr' := hr
    obtain ⟨h1, h2, h3⟩ := hr
    rcases h3 with ⟨rfl, a', c', he⟩ | ⟨b, off, c', he, hbl, hc⟩
    · cases he
      exact walk_nil t c a w
    · cases he
      by_cases h0 : zs.length = 0
      · obtain rfl : zs = [] := List.length_eq_zero_iff.1 h0
        exact walk_nil t c _ w
      · exact walk_some t zs b off c w hr' hbl hc hnc (by omega) (by omega)

theorem own : ownKnob Try.prog.godebug = none := by kernel_rfl
theorem laidOut : laidOutB Try.prog = true := by kernel_rfl
theorem cellsInt : Try.prog.cellsOf 3 = 1 := by kernel_rfl
theorem bytesInt : Try.prog.bytesOf 3 = 8 := by kernel_rfl

set_option maxRecDepth 100000 in
theorem lifted (os : Os) (started : os.Started) (H : Type) (enc : TypeId × Value → H) :
    ReturnsInHanded {} Try.checked os 7 .any (Rows.exactSumsSpec.pre6 enc Try.prog Try.f7 Rows.exactSumsRow.domain false) (Rows.exactSumsSpec.post enc Try.prog Try.f7 false true false false) := by
  refine returnsInHanded_of_change_sized (C := Try.checked) own started (by kernel_rfl) Try.func7
    (ChangeSpec.witness6 (enc := enc) (C := Try.checked) false ⟨#[], #[.slice none 0 0, .int .i64 0], []⟩ 8 (by kernel_rfl) (by kernel_rfl) (by kernel_rfl) (by kernel_rfl)) ?_
  intro W base args ds gs before hval0 hW hcnd hsz0 _
  have hsz : (DataW.weightsEach Try.prog (Try.f7.params.toList ++ Rows.exactSumsSpec.plain.varTypes Try.prog) (ds ++ gs)).all (· ≤ reachBytes) = true := hsz0
  clear hsz0
  have hval : ∀ (j : Nat) t v, Try.f7.params[j]? = some t → args[j]? = some v → Value.okWide Try.prog W .any base t v := hval0
  have hW' := hW
  obtain ⟨p, q, hA0, hV, rfl, hfz, hnd⟩ := hW
  have hA : DataW.TrodAll enc Try.prog W 0 (fun _ => true) true Try.f7.params.toList args.toList ds p := hA0
  rw [Try.params7] at hA hval hsz
  obtain ⟨v0, vs0, d0, ds0, p0, q0, hargs, rfl, rfl, h0, r0⟩ := trodAll_cons hA
  obtain ⟨v1, vs1, d1, ds1, p1, q1, rfl, rfl, rfl, h1, r1⟩ := trodAll_cons r0
  obtain ⟨rfl, rfl, rfl⟩ := trodAll_nil r1
  obtain rfl : args = #[v0, v1] := by cases args; simp_all
  obtain ⟨rfl, rfl⟩ := trodVars_none hV
  obtain ⟨a1, rfl, rfl, rfl, w1⟩ := open_int Try.underlying3 (hval 1 3 v1 rfl rfl) h1
  clear hA0 hval0
  simp only [List.append_nil] at hW'
  have hlt : ∀ x ∈ p0, x.block < W.heap.size := fun x hx => by simpa using hW'.lt x (by simpa using hx)
  obtain ⟨b0, len0, cap0, rfl⟩ := okWide_slice Try.underlying22 (hval 0 22 v0 rfl rfl)
  have hk0 := h0
  have hlt0 : ∀ x ∈ p0, x.block < W.heap.size := fun x hx => hlt x (by simp [hx])
  have trod0 : ∀ (W' : World), Below W.heap.size W W' → DataW.Trod enc Try.prog W' 0 (fun b => decide (b < W.heap.size)) true 22 (.slice b0 len0 cap0) d0 p0 :=
    fun W' hn => Below.trod laidOut (by kernel_rfl) (of_decide_eq_true (by kernel_rfl)) hk0 hn hlt0
  have reads0 : ∃ z0, Reads W (.slice b0 len0 cap0) z0 ∧ len0 ≤ cap0 := by
    obtain ⟨fuel, hf⟩ := h0
    rcases open_ints Try.underlying22 Try.underlying3 cellsInt hf with ⟨hcs, hx⟩ | ⟨a, len, cap, zs, hcs, _, hl, hm, hz, hx, hcell, hwz⟩
    · simp [Value.cells] at hcs
      obtain ⟨rfl, rfl, rfl⟩ := hcs
      exact ⟨[], ⟨by decide, fun x hx => absurd hx List.not_mem_nil, .inl ⟨rfl, _, _, rfl⟩⟩, Nat.le_refl _⟩
    · simp [Value.cells] at hcs
      obtain ⟨rfl, rfl, rfl⟩ := hcs
      simp only [Prod.mk.injEq] at hx
      obtain ⟨rfl, rfl⟩ := hx
      simp only [if_true] at hz
      have hreach : len0 * 8 ≤ 140737488351232 := by
        have := sized_slice hsz (j := 0) (t := 22) (e := 3) rfl rfl Try.underlying22
        rw [bytesInt] at this
        simp only [lits, List.length_map, List.length_take, List.length_drop, reachBytes] at this
        omega
      exact ⟨zs.take len0, reads_mk hreach hl hz hcell hwz (fun b off ha h0 => hlt0 (.cell b off) (by rw [ha]; exact MemPlace.mem_row.2 ⟨0, by omega, by simp⟩)), hl⟩
  obtain ⟨z0, k0⟩ := reads0
  refine (walk (w := W) k0.1 k0.2 a1 (i64_of_wf w1)).mono fun e W' ⟨he, hb⟩ => ?_
  subst he
  exact ⟨_, rfl, _, _, _, [], _, [], hW', (trodAll_cons_mk (shut_bool Try.underlying4 _) trodAll_mk0), (trodAll_cons_mk (trod0 _ hb) (trodAll_cons_mk (shut_int Try.underlying3 w1) trodAll_mk0)), rfl, hb.frame _, fun h => by cases h⟩

theorem over : Rows.exactSumsRow.holds Try.pinned (OpenSpec.ofChange Rows.exactSumsSpec) :=
  OpenClaim.holds_of_wide 7 Try.f7 rfl rfl rfl rfl rfl rfl rfl ⟨rfl, rfl, rfl, rfl, rfl⟩ rfl rfl rfl rfl rfl (by kernel_rfl) Try.func7 (by kernel_rfl)
    (of_decide_eq_true (by kernel_rfl)) (by unfold Func.isWrapper; first | (rw [if_pos (by decide +kernel)]; kernel_rfl) | (rw [if_neg (by decide +kernel)]; exact ⟨rfl, rfl⟩))
    (fun os started H enc _ => lifted os started H enc)

theorem proved : Rows.ExactSumsSaid := over
end Go.Proofs.Ytbpibdjmffhmpaa.exactSums
