/- The reference's Int, Num, Text, Nums and Texts: the same encodings. Conditions: lists and texts of bounded length. -/
import Derived.Test.YtfmjankmfddefaaDoorWText
namespace Go.Proofs.YtfmjankmfddefaaDoor.Wr
open Go.RowKit Wm
set_option linter.unusedVariables false

/-- A slice that reads as a list of cells, nil let in. -/
def Rd (w : World) (A : Option Addr) (n : Nat) (xs : List Value) : Prop :=
  xs.length = n ∧ (0 < n → ∃ ad, A = some ad ∧ ad.block < w.heap.size ∧ ∀ j u, xs[j]? = some u → w.cell? (ad.add j) = some u)
theorem Rd.below {w w' : World} {A : Option Addr} {n : Nat} {xs : List Value} (h : Rd w A n xs) (hb : Below w.heap.size w w') : Rd w' A n xs :=
  ⟨h.1, fun hn => by
    obtain ⟨ad, e, hl, hc⟩ := h.2 hn
    exact ⟨ad, e, Nat.lt_of_lt_of_le hl hb.size, fun j u hu => (hb.cell (p := ad.add j) (by rw [block_of_add]; exact hl)).trans (hc j u hu)⟩⟩
theorem Rd.at_ {w : World} {A : Option Addr} {n k : Nat} {xs : List Value} (h : Rd w A n xs) (hk : k < n) : ∃ ad u, A = some ad ∧ ad.block < w.heap.size ∧ xs[k]? = some u ∧ w.cell? (ad.add k) = some u := by
  obtain ⟨ad, e, hb, hc⟩ := h.2 (by omega)
  have hl : k < xs.length := by rw [h.1]; exact hk
  exact ⟨ad, xs[k], e, hb, List.getElem?_eq_getElem hl, hc k _ (List.getElem?_eq_getElem hl)⟩

theorem own_rd {w : World} {base : Nat} {e : TypeId} {v : Value} {n : Nat} {xs : List Value} (h : w.ownsRow base e 1 v n xs) : ∃ A c, v = .slice A n c ∧ Rd w A n xs := by
  rcases h.2 with ⟨rfl, rfl⟩ | ⟨g, cap, cur, rfl, hg, hh, _⟩
  · exact ⟨none, 0, rfl, by simpa using h.1, fun h0 => by omega⟩
  · exact ⟨some ⟨g, 0, none⟩, cap, rfl, by simpa using h.1, fun h0 => ⟨⟨g, 0, none⟩, rfl, (Array.getElem?_eq_some_iff.1 hh).1, h.cells (g := g) rfl⟩⟩
theorem sv_get (l : Bs) (k : Nat) (h : k < (sv l).size) : (sv l)[k] = l[k]'(by rw [sv_size] at h; exact h) := by
  simp [sv, ByteArray.getElem_eq_getElem_data]
section
variable {P : Program} (w : World)
theorem run_append_void (base : Nat) (t ty e : TypeId) (i : TypeInfo) (size : Nat) (ht : P.underlying t = some (.slice e)) (hi : P.info? e = some i)
    (v : Value) (n : Nat) (xs : List Value) (hown : w.ownsRow base e size v n xs) (c : Nat) : (Builtin.append_ #[t, t] ty #[v, .slice none 0 c]).run P w = .ok v w := by
  rcases hown.2 with ⟨rfl, rfl⟩ | ⟨g, cap, cur, rfl, _, _, hnc, _⟩
  · simp [Builtin.append_, run_underlying ht, sizeOf, typeInfo, hi, Builtin.lenOf, Builtin.firstCells]
  · simp [Builtin.append_, run_underlying ht, sizeOf, typeInfo, hi, Builtin.lenOf, Builtin.firstCells, hnc, storeCells]
/-- append of a list that has come in, or is nil, onto a row of the call's own. -/
theorem wpList_append_rd {ops : Array Oper} {rest : List Oper} {o : Oper} {a : Act} {Q : Exit → Act → World → Prop} (hgd : o.guard = none) (s x : Operand) (t : TypeId)
    (ho : o.op = .call { callee := .builtin .append, args := #[s, x], argTypes := #[t, t] })
    (base : Nat) (e : TypeId) (i : TypeInfo) (z : Value) (bytes : Nat) (ht : P.underlying t = some (.slice e)) (hi : P.info? e = some i) (hz : i.zero = some z)
    (hsize : i.size = 1) (hby : i.bytes = bytes) (hzs : z.cells.size = 1)
    (v : Value) (n : Nat) (xs : List Value) (hs : a.eval s = v) (hown : w.ownsRow base e 1 v n xs)
    (A : Option Addr) (m c : Nat) (news : List Value) (hx : a.eval x = .slice A m c) (hr : Rd w A m news) (h1 : ∀ u ∈ news, u.oneCell' = true)
    (h63 : n + m ≤ maxLen) (hbytes : (n + m) * bytes ≤ 140737488355328) (hbase : base ≤ w.heap.size)
    (h : ∀ v' w', w'.ownsRow base e 1 v' (n + m) (xs ++ news) → w.grownBy w' v.ownBlock → wpList P ops Q rest (a.put o.dst v') w') : wpList P ops Q (o :: rest) a w := by
  cases A with
  | some ad =>
    refine wpList_append_own w hgd s x t ho base e i z 1 bytes ht hi hz hsize hby hzs (by decide) v n xs hs hown ad m c news hx (by rw [hr.1]; omega) ?_ h1 h63 hbytes hbase (fun v' w' h2 h3 _ => h v' w' h2 h3)
    intro j u hu
    have hj := (List.getElem?_eq_some_iff.1 hu).1
    obtain ⟨ad', e', _, hc⟩ := hr.2 (by have := hr.1; omega)
    injection e' with e'
    subst e'
    exact hc j u hu
  | none =>
    have hm : m = 0 := by
      rcases Nat.eq_zero_or_pos m with h0 | h0
      · exact h0
      · obtain ⟨ad, e', _⟩ := hr.2 h0
        cases e'
    subst hm
    have hn : news = [] := List.eq_nil_of_length_eq_zero hr.1
    subst hn
    refine wpList_plain hgd fun _ hK => ?_
    unfold Oper.wp execOp
    have hrun := run_append_void (P := P) w base t o.type e i 1 ht hi v n xs hown c
    simp only [ho, resolve, invoke, builtin, Sem.run_bind, Sem.run_pure, Result.andThen_ok, List.map_toArray, List.map_cons, List.map_nil, hs, hx, hrun]
    exact hK _ _ (h v w (by simpa using hown) (World.grownBy.refl w _))
end
theorem own_new (w : World) (base : Nat) (e : TypeId) (v : Value) (hb : base ≤ w.heap.size) : (w.alloc (.cells #[v] e)).ownsRow base e 1 (.slice (some ⟨w.heap.size, 0, none⟩) 1 1) 1 [v] :=
  ⟨rfl, .inr ⟨w.heap.size, 1, #[v], rfl, hb, heap_alloc_new w _, Nat.le_refl _, by unfold maxLen; omega, rfl, rfl⟩⟩
theorem own_conv {w : World} {base : Nat} {v : Value} {n : Nat} {l : Bs} (h : w.ownsRow base 5 1 v n (bc l)) :
    ∃ A c, v = .slice A n c ∧ (convert 56 9 (.slice A n c)).run Tryd.prog w = .ok (.string (sv l)) w := by
  have hl : l.length = n := by have := h.1; rw [bc_length] at this; omega
  rcases h.2 with ⟨rfl, rfl⟩ | ⟨g, cap, cur, rfl, hg, hh, _⟩
  · have hn : l = [] := List.eq_nil_of_length_eq_zero hl
    subst hn
    exact ⟨none, 0, rfl, by rw [run_convert_bytes_string w _ _ 5 none 0 0 Tryd.underlying56 Tryd.underlying5 Tryd.underlying9]; simp [Conv.bytesToString]; rfl⟩
  · refine ⟨_, cap, rfl, ?_⟩
    have hc := h.cells (g := g) rfl
    have := run_convert_bytes_back (P := Tryd.prog) w 56 9 5 ⟨g, 0, none⟩ cap l Tryd.underlying56 Tryd.underlying5 Tryd.underlying9 (fun i hi => by
      refine hc i _ ?_
      unfold bc
      rw [List.getElem?_map, List.getElem?_eq_getElem hi]; rfl)
    rw [hl] at this
    exact this
theorem be_cons (k : Nat) (v : Int) : be (k + 1) v = byt (v / 256 ^ k) :: be k v := rfl

def Dig (m : Nat) (w : World) (e : Ending) (w' : World) : Prop := ∃ v, e = .returned v ∧ w'.ownsRow w.heap.size 5 1 v (nby m) (bc (be (nby m) m)) ∧ Below w.heap.size w w'
set_option maxHeartbeats 1000000 in
set_option maxRecDepth 100000 in
theorem digits_any (m : Nat) (hm : m < 18446744073709551616) (w : World) : Calls Tryd.prog 66 #[.int .u64 m] w (Dig m w) := by
  obtain ⟨i0, hi0, hz0, hz1, hz2⟩ := info_parts infoByte
  have hK8 := nby_le m
  have hlt := nby_lt m hm
  have HLT := Lib.hid hlt
  clear hlt
  go_enter Tryd.func66, Tryd.ntmps66
  go_wp2_with fail
  go_loopw [0, 3] (fun q v wr => ∃ j : Nat, j ≤ nby m ∧ q = .int .u64 ((m / 256 ^ j : Nat) : Int) ∧ wr.ownsRow w.heap.size 5 1 v j (bc (be j m)) ∧ Below w.heap.size w wr) (fun q _ _ => (intOf q).toNat)
  case atStart => exact ⟨0, Nat.zero_le _, by simp, ⟨rfl, .inl ⟨rfl, rfl⟩⟩, Below.refl _ _⟩
  case round =>
    obtain ⟨j, hj, rfl, hown, hbel⟩ := hrel
    have hsz := hbel.size
    have hq : m / 256 ^ j ≤ m := Nat.div_le_self _ _
    have hnext : m / 256 ^ (j + 1) = m / 256 ^ j / 256 := by rw [Nat.pow_succ, Nat.div_div_eq_div_mul]
    have hbyt : ((byt ((m : Int) / 256 ^ j)).toNat : Int) = ((m / 256 ^ j % 256 : Nat) : Int) := by
      rw [byt_toNat, show ((m : Int) / 256 ^ j) = ((m / 256 ^ j : Nat) : Int) by rw [Int.natCast_ediv, Int.natCast_pow]; rfl]
      omega
    have hjj : 0 < m / 256 ^ j → j < nby m := fun h => by
      rcases Nat.lt_or_ge j (nby m) with h1 | h1
      · exact h1
      · have : j = nby m := by omega
        subst this
        rw [Nat.div_eq_of_lt HLT.out] at h
        omega
    have hend : m / 256 ^ j = 0 → j = nby m := fun h => by
      have h1 : m < 256 ^ j := (Nat.div_eq_zero_iff_lt (Nat.pow_pos (by decide))).1 h
      rcases Nat.lt_or_ge j (nby m) with h2 | h2
      · have h3 := nby_ge m (by omega)
        have h4 : 256 ^ j ≤ 256 ^ (nby m - 1) := Nat.pow_le_pow_right (by decide) (by omega)
        omega
      · omega
    have HNX := Lib.hid hnext
    have HBY := Lib.hid hbyt
    have HJJ := Lib.hid hjj
    have HEND := Lib.hid hend
    clear hnext hbyt hjj hend
    generalize m / 256 ^ j = q at *
    by_cases hq0 : 0 < q
    · obtain ⟨A, c, rfl, hrd⟩ := own_rd hown
      have d : decide ((0 : Int) < (q : Int)) = true := decide_eq_true (by omega)
      have hrd2 := hrd.below (below_alloc wr (.cells #[.int .u8 ((q : Int) % 256)] 5))
      clear hown hrd
      go_wp2_with (first
        | (at_builtin; go_loud (refine wpList_append_rd _ rfl (.tmp 9) (.tmp 10) 56 rfl w.heap.size 5 i0 (.int .u8 0) 1 Tryd.underlying56 hi0 hz0 hz1 hz2 rfl _ 1 _ rfl (own_new wr w.heap.size 5 (.int .u8 ((q : Int) % 256)) hsz) A j c (bc (be j m)) rfl hrd2 (bc_one _) (by unfold maxLen; omega) (by omega) (by simp; omega) ?_); intro v2 w2 hown2 hgrow2))
      have hb2 : Below w.heap.size w w2 := (hbel.alloc hsz _).grown hgrow2 (by simp; omega) (fun k e => by have e' : wr.heap.size = k := Option.some.inj e; omega)
      have hown3 : w2.ownsRow w.heap.size 5 1 v2 (j + 1) (bc (be (j + 1) m)) := by
        rw [be_cons, show bc (byt ((m : Int) / 256 ^ j) :: be j m) = [Value.int .u8 ((byt ((m : Int) / 256 ^ j)).toNat : Int)] ++ bc (be j m) from rfl, HBY.out, Nat.add_comm j 1]
        exact hown2
      have H3 := Lib.hid hown3
      have HB2 := Lib.hid hb2
      clear hown2 hgrow2 hb2 hown3 hrd2
      go_wp2_with fail
      go_roundw
      case rel => exact ⟨j + 1, HJJ.out hq0, by rw [HNX.out]; go_num, H3.out, HB2.out⟩
      case measure => simp [intOf]; omega
    · have d : decide ((0 : Int) < (q : Int)) = false := decide_eq_false (by omega)
      have hjn := HEND.out (by omega)
      have HO : Hid (Dig m w (.returned u3) wr) := Lib.hid ⟨u3, rfl, by rw [← hjn]; exact hown, hbel⟩
      clear hown hjn
      go_wp2_with fail
      go_ret
      exact HO.out
end Go.Proofs.YtfmjankmfddefaaDoor.Wr
