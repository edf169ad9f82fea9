/- append onto a slice of the disk's own: bytes of a text, one pending append; where the new slice lies. New, Read. Conditions: those of each lemma. -/
import Derived.Test.YtdjchpejhfkknaaKEnter
namespace Go.Proofs.Ytdjchpejhfkknaa.Dk
open Go.RowKit Km
set_option linter.unusedVariables false
set_option maxRecDepth 100000

section
variable {P : Program}
/-- append of whatever source onto an own row: the new row, and where it lies. -/
theorem run_append_src (w : World) (t tx ty e : TypeId) (i : TypeInfo) (z : Value) (size bytes : Nat) (ht : P.underlying t = some (.slice e)) (hi : P.info? e = some i) (hz : i.zero = some z)
    (hsize : i.size = size) (hby : i.bytes = bytes) (hzs : z.cells.size = size) (hsz : 0 < size)
    (v : Value) (n : Nat) (xs : List Value) (hown : w.ownsRow 0 e size v n xs)
    (x : Value) (m : Nat) (hm : 0 < m) (news : List Value) (hs : Src P size tx x m news w)
    (h63 : n + m ≤ maxLen) (hbytes : (n + m) * bytes ≤ 140737488355328) :
    ∃ v' w', (Builtin.append_ #[t, tx] ty #[v, x]).run P w = .ok v' w' ∧ w'.ownsRow 0 e size v' (n + m) (xs ++ news) ∧ w.grownBy w' v.ownBlock ∧
      (∀ g, v'.ownBlock = some g → (w.heap.size ≤ g ∧ g < w'.heap.size) ∨ v.ownBlock = some g) := by
  subst hsize
  subst hby
  have hl := hs.newsLen
  have hsmall : n + m ≤ 9223372036854775807 := by simp only [maxLen] at h63; omega
  have hlen : (xs ++ news).length = (n + m) * i.size := by rw [List.length_append, hown.1, hl, Nat.add_mul]
  have grown : ∀ (old : Nat), old < n + m → ∀ (row : Option Nat),
      (w.drew.alloc (.cells ((xs ++ news).toArray ++ Builtin.zeroCells z.cells (grownCap w (n + m) old e - (n + m))) e)).ownsRow 0 e i.size
        (.slice (some ⟨w.heap.size, 0, none⟩) (n + m) (grownCap w (n + m) old e)) (n + m) (xs ++ news) ∧
      w.grownBy (w.drew.alloc (.cells ((xs ++ news).toArray ++ Builtin.zeroCells z.cells (grownCap w (n + m) old e - (n + m))) e)) row := by
    intro old ho row
    have hge := grownCap_ge w (n + m) old e
    have hcm : grownCap w (n + m) old e ≤ maxLen := grownCap_le_maxLen w (n + m) old e h63
    refine ⟨⟨hlen, .inr ⟨w.heap.size, _, _, rfl, Nat.zero_le _, heap_alloc_new w.drew _, hge, hcm, ?_, ?_⟩⟩, ⟨rfl, rfl, rfl, by simp, fun k hk _ => heap_alloc_old w.drew _ hk⟩⟩
    · simp only [Array.size_append, List.size_toArray, size_zeroCells, hzs, hlen, ← Nat.add_mul]
      congr 1
      omega
    · rw [Array.toList_append, ← hlen]
      exact List.take_left
  rcases hown.2 with ⟨rfl, rfl⟩ | ⟨g, cap, cur, rfl, hbg, hg, hnc, hcm, hcs, htake⟩
  · have hx : xs = [] := List.eq_nil_of_length_eq_zero (by simpa using hown.1)
    subst hx
    have hr := run_append_grow_src (P := P) w t tx ty e i z ht hi hz none 0 0 [] (run_firstCells_none w.drew i.size 0 0 0) x m news hs (by omega) (by omega) (growslice_fits (by omega) hbytes)
    have hgr := grown 0 (by omega) (Value.ownBlock (.slice none 0 0))
    exact ⟨_, _, hr, hgr.1, hgr.2, fun g hg => .inl (by simp [Value.ownBlock] at hg; subst hg; simp)⟩
  · by_cases hroom : n + m ≤ cap
    · have hfit : n * i.size + news.length ≤ cur.size := by rw [hl, hcs, ← Nat.add_mul]; exact Nat.mul_le_mul_right _ hroom
      have hst := run_storeCells_at P g (n * i.size) e news 0 cur w hg (by simpa using hfit) hs.one
      simp only [Nat.add_zero] at hst
      have hr : (Builtin.append_ #[t, tx] ty #[.slice (some ⟨g, 0, none⟩) n cap, x]).run P w = .ok (.slice (some ⟨g, 0, none⟩) (n + m) cap) (w.setRow g (cur.toList.take (n * i.size) ++ news ++ cur.toList.drop (n * i.size + news.length)).toArray) := by
        rcases hs.kind with ⟨e', hk⟩ | hk <;> simp [Builtin.append_, run_underlying ht, run_underlying hk, sizeOf, typeInfo, hi, hs.len, hroom, hs.cells, Addr.add_lit, hst]
      refine ⟨_, _, hr, ⟨hlen, .inr ⟨g, cap, _, rfl, hbg, setRow_heap w g cur _ e _ hg, hroom, hcm, ?_, ?_⟩⟩, ⟨rfl, rfl, rfl, by simp, fun k _ hk => setRow_other w g k _ (fun e => hk (by simp [Value.ownBlock, e]))⟩, fun g' hg' => .inr hg'⟩
      · simp only [List.size_toArray, List.length_append, List.length_take, List.length_drop, Array.length_toList]
        omega
      · rw [htake, ← hlen]
        exact List.take_left
    · have holds : ∀ j u, xs[j]? = some u → w.cell? ((⟨g, 0, none⟩ : Addr).add j) = some u := hown.cells (g := g) rfl
      have hr := run_append_grow_src (P := P) w t tx ty e i z ht hi hz (some ⟨g, 0, none⟩) n cap xs (run_firstCells_some w.drew i.size n ⟨g, 0, none⟩ n cap xs hown.1 (by simpa using holds)) x m news hs (by omega) (by omega) (growslice_fits (by omega) hbytes)
      have hgr := grown cap (by omega) (Value.ownBlock (.slice (some ⟨g, 0, none⟩) n cap))
      exact ⟨_, _, hr, hgr.1, hgr.2, fun g' hg' => .inl (by simp [Value.ownBlock] at hg'; subst hg'; simp)⟩
theorem wpList_append_src {w : World} {ops : Array Oper} {rest : List Oper} {o : Oper} {a : Act} {Q : Exit → Act → World → Prop} (hgd : o.guard = none) (s x : Operand) (t tx : TypeId)
    (ho : o.op = .call { callee := .builtin .append, args := #[s, x], argTypes := #[t, tx] })
    (e : TypeId) (i : TypeInfo) (z : Value) (size bytes : Nat) (ht : P.underlying t = some (.slice e)) (hi : P.info? e = some i) (hz : i.zero = some z)
    (hsize : i.size = size) (hby : i.bytes = bytes) (hzs : z.cells.size = size) (hsz : 0 < size)
    (v : Value) (n : Nat) (xs : List Value) (hs : a.eval s = v) (hown : w.ownsRow 0 e size v n xs)
    (xv : Value) (m : Nat) (hm : 0 < m) (news : List Value) (hx : a.eval x = xv) (hsrc : Src P size tx xv m news w)
    (h63 : n + m ≤ maxLen) (hbytes : (n + m) * bytes ≤ 140737488355328)
    (h : ∀ v' w', w'.ownsRow 0 e size v' (n + m) (xs ++ news) → w.grownBy w' v.ownBlock → (∀ g, v'.ownBlock = some g → (w.heap.size ≤ g ∧ g < w'.heap.size) ∨ v.ownBlock = some g) → wpList P ops Q rest (a.put o.dst v') w') : wpList P ops Q (o :: rest) a w :=
  wpList_plain hgd fun _ hK => by
    obtain ⟨v', w', hr, h2, h3, h4⟩ := run_append_src (P := P) w t tx o.type e i z size bytes ht hi hz hsize hby hzs hsz v n xs hown xv m hm news hsrc h63 hbytes
    unfold Oper.wp execOp
    simp only [ho, resolve, invoke, builtin, Sem.run_bind, Sem.run_pure, Result.andThen_ok, List.map_toArray, List.map_cons, List.map_nil, hs, hx, hr]
    exact hK _ _ (h v' w' h2 h3 h4)
end
section
variable {A : Nat → Prop} {r : Nat} {s : St} {K : Nat → Value} {w w' : World}
/-- The cells of a new disk. -/
def K0 (i : Nat) : Value := if i = 16 ∨ i = 20 then .slice none 0 0 else if i = 17 then .bool false else if i = 18 ∨ i = 19 then .int .i64 0 else if i % 2 = 0 then .slice none 0 0 else .int .i64 0
theorem lay_new {cs : Array Value} (hb : Blk w r 75 cs) (hc : cs = ((List.range 21).map K0).toArray) (hA : A r) (hn : ∀ b, w.heap.size ≤ b → A b) : Lay A r Km.new K0 w := by
  have hnone : ∀ i, (K0 i).ownBlock = none := by
    intro i
    unfold K0
    (repeat' split) <;> rfl
  refine ⟨⟨cs, hb, by rw [hc]; simp, fun i hi => ?_⟩, ⟨fun i _ b e => (by rw [hnone] at e; cases e), fun i j _ _ _ b e => (by rw [hnone] at e; cases e), ⟨hA, hb.lt⟩, hn⟩, ?_⟩
  · rw [hc]
    simp [hi]
  · refine ⟨fun f hf => ?_, fun f hf => ?_, World.ownsRow_nil _ _ _ _, rfl, rfl, rfl, World.ownsRow_nil _ _ _ _⟩
    · have e : K0 (f * 2) = .slice none 0 0 := by
        unfold K0
        rw [if_neg (by omega), if_neg (by omega), if_neg (by omega), if_pos (by omega)]
      rw [e]
      exact World.ownsRow_nil _ _ _ _
    · unfold K0
      rw [if_neg (by omega), if_neg (by omega), if_neg (by omega), if_neg (by omega)]
      rfl
theorem new_any (hA : ∀ b, w.heap.size ≤ b → A b) : Calls Try.prog 10 #[] w fun e w' => e = .returned (.pointer (some ⟨w.heap.size, 0, none⟩)) ∧ Dsk A w.heap.size Km.new w' ∧ Below w.heap.size w w' := by
  go_enter Try.func10, Try.ntmps10
  go_wp2
  go_ret
  --GG
  exact ⟨rfl, ⟨wf_new, _, lay_new (Blk.new w _ _) rfl (hA _ (Nat.le_refl _)) (fun b hb => hA b (by simp at hb; omega))⟩, below_alloc _ _⟩
/-- The bytes of an own row become a text. -/
theorem conv_owns {w : World} {a : Option Addr} {c : Nat} {l : Bs} (h : w.ownsRow 0 5 1 (.slice a l.length c) l.length (bc l)) : (convert 69 9 (.slice a l.length c)).run Try.prog w = .ok (.string (sv l)) w := by
  cases a with
  | none =>
    have hn : l.length = 0 := by
      rcases h.2 with ⟨_, h2⟩ | ⟨_, _, _, h1, _⟩
      · exact h2
      · cases h1
    have hl : l = [] := List.eq_nil_of_length_eq_zero hn
    subst hl
    rw [run_convert_bytes_string w 69 9 5 none ([] : Bs).length c Try.underlying69 Try.underlying5 Try.underlying9]
    rfl
  | some ad =>
    have had : ∃ g, ad = ⟨g, 0, none⟩ := by
      rcases h.2 with ⟨h1, _⟩ | ⟨g, cap, cur, h1, _⟩
      · cases h1
      · injection h1 with e1 e2 e3
        injection e1 with e1
        exact ⟨g, e1⟩
    obtain ⟨g, rfl⟩ := had
    refine run_convert_bytes_back (P := Try.prog) w 69 9 5 ⟨g, 0, none⟩ c l Try.underlying69 Try.underlying5 Try.underlying9 (fun j hj => ?_)
    refine h.cells (g := g) rfl j _ ?_
    simp [bc, List.getElem?_map, List.getElem?_eq_getElem hj]
theorem read_dsk (h : Dsk A r s w) (f : Int) : Calls Try.prog 36 #[.pointer (some ⟨r, 0, none⟩), .int .i64 f] w fun e w' => e = .returned (.tuple #[.string (sv (readB s f)), .int .i64 (readE s f)]) ∧ Below w.heap.size w w' := by
  obtain ⟨hwf, K, hl⟩ := h
  have hck := check_any (hl.alloc (.cells #[.int .i64 f] 3)) (v := .slice (some ⟨w.heap.size, 0, none⟩) 1 1) (l := [f]) (by simp) ⟨_, _, rfl, fun _ => ⟨_, _, rfl, by simp, fun j z hz => by
    rw [(Blk.new w 3 #[.int .i64 f]).cell]
    match j, hz with
    | 0, hz => simp at hz; subst hz; simp⟩⟩
  have hall : [f].all okF = okF f := by simp
  rw [hall] at hck
  by_cases hz : chk s (okF f) = 0
  · have hok := okF_lt (chk_zero hz).2
    obtain ⟨h0, h8, hfn⟩ := hok
    have e1 : readB s f = s.F f.toNat := by unfold readB; rw [if_pos hz]
    have e2 : readE s f = 0 := hz
    rw [e1, e2]
    rw [hz] at hck
    generalize f.toNat = k at *
    subst hfn
    have hc := (hl.alloc (.cells #[.int .i64 (k : Nat)] 3)).cell (i := k * 2) (by omega)
    have ho := hl.cont.fil k h8
    obtain ⟨fa, fc, hv⟩ := owns_slice ho
    rw [hv] at hc ho
    have hcv : ∀ W : World, W = w.alloc (.cells #[.int .i64 (k : Nat)] 3) → (convert 69 9 (.slice fa (s.F k).length fc)).run Try.prog W = .ok (.string (sv (s.F k))) W := by
      intro W hW
      have howW : W.ownsRow 0 5 1 (.slice fa (s.F k).length fc) (s.F k).length (bc (s.F k)) := by rw [hW]; exact ho.alloc _
      exact conv_owns howW
    have hcv' := hcv _ rfl
    have HCK := Lib.hid hck
    have h8i : ((k : Nat) : Int) < 8 := by omega
    clear hl hwf hz e1 e2 h0 ho hv hcv hck hall
    generalize (s.F k).length = n at *
    generalize sv (s.F k) = S at *
    go_enter Try.func36, Try.ntmps36
    go_wp2_with fail
    refine HCK.out.mono ?_
    rintro e w1 ⟨rfl, rfl⟩
    go_wp2_with fail
    go_ret2
    exact ⟨rfl, below_alloc _ _⟩
  · have e1 : readB s f = [] := by unfold readB; rw [if_neg hz]
    have e2 : readE s f = chk s (okF f) := rfl
    rw [e1, e2]
    have hne : (chk s (okF f) != 0) = true := by simp [hz]
    have HCK := Lib.hid hck
    clear hl hwf hz e1 e2 hck hall
    generalize chk s (okF f) = E at *
    go_enter Try.func36, Try.ntmps36
    go_wp2_with fail
    refine HCK.out.mono ?_
    rintro e w1 ⟨rfl, rfl⟩
    go_wp2_with fail
    go_ret2
    exact ⟨rfl, below_alloc _ _⟩
end
end Go.Proofs.Ytdjchpejhfkknaa.Dk
