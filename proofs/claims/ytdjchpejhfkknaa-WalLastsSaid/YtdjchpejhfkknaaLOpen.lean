/- wal.Open: what it makes of a disk and a file number. Conditions: the disk lies in memory of its own. -/
import Derived.Test.YtdjchpejhfkknaaLIter
import Derived.Test.YtdjchpejhfkknaaGTwoB
namespace Go.Proofs.Ytdjchpejhfkknaa.Lw
open Go.RowKit Go.Shelf Km Dk
open Lm hiding Bs
set_option linter.unusedVariables false
set_option maxRecDepth 100000
attribute [local go_sem] Oper.semAt_some

def opn3 (s : St) (f : Int) (n : Nat) : Int × St :=
  if shE s f (n : Nat) ≠ 0 then (shE s f (n : Nat), shS s f (n : Nat)) else
  if shE (shS s f (n : Nat)) (f + 1) 0 ≠ 0 then (shE (shS s f (n : Nat)) (f + 1) 0, shS (shS s f (n : Nat)) (f + 1) 0) else
  (fluE (shS (shS s f (n : Nat)) (f + 1) 0) f, fluS (shS (shS s f (n : Nat)) (f + 1) 0) f)
/-- What Open gives: the error, the state of the disk. -/
def opn (s : St) (f : Int) : Int × St :=
  if f < 0 ∨ 6 < f then (1, s) else
  if readE s f ≠ 0 then (readE s f, s) else opn3 s f (vlen (readB s f))
section
variable {A : Nat → Prop} {r : Nat} {s : St} {w w' : World}
theorem open_nil (f : Int) : Calls Try.prog 26 #[.pointer none, .int .i64 f] w fun e w' => e = .returned (.tuple #[.pointer none, .int .i64 1]) ∧ w = w' := by
  go_enter Try.func26, Try.ntmps26
  go_wp2_with fail
  go_ret2
  exact ⟨rfl, rfl⟩
theorem open_arg (f : Int) (hf : f < 0 ∨ 6 < f) : Calls Try.prog 26 #[.pointer (some ⟨r, 0, none⟩), .int .i64 f] w fun e w' => e = .returned (.tuple #[.pointer none, .int .i64 1]) ∧ w = w' := by
  by_cases h0 : f < 0
  · have d0 : decide (f < 0) = true := decide_eq_true h0
    clear hf
    go_enter Try.func26, Try.ntmps26
    go_wp2_with fail
    go_ret2
    exact ⟨rfl, rfl⟩
  · have d0 : decide (f < 0) = false := decide_eq_false h0
    have d6 : decide (6 < f) = true := decide_eq_true (hf.resolve_left h0)
    clear hf
    go_enter Try.func26, Try.ntmps26
    go_wp2_with fail
    go_ret2
    exact ⟨rfl, rfl⟩
theorem open_read (h : Dsk A r s w) {f : Int} (hf : ¬ (f < 0 ∨ 6 < f)) (he : readE s f ≠ 0) : Calls Try.prog 26 #[.pointer (some ⟨r, 0, none⟩), .int .i64 f] w fun e w' => e = .returned (.tuple #[.pointer none, .int .i64 (readE s f)]) ∧ Below w.heap.size w w' := by
  have d0 : decide (f < 0) = false := decide_eq_false (by omega)
  have d6 : decide (6 < f) = false := decide_eq_false (by omega)
  have HR := Lib.hid (read_dsk h f)
  have dE : (readE s f != 0) = true := by simpa using he
  clear h hf he
  generalize readE s f = E at *
  generalize readB s f = X at *
  go_enter Try.func26, Try.ntmps26
  go_wp2_with fail
  refine HR.out.mono ?_
  rintro e w1 ⟨rfl, hb⟩
  go_wp2_with fail
  go_ret2
  exact ⟨rfl, hb⟩
theorem val_len (x : Bs) : (val x).length ≤ x.length := by
  have h1 := vlen_le x
  have h2 : ∀ l : List Bs, l.length ≤ (recs l).length := fun l => by
    induction l with
    | nil => exact Nat.le_refl _
    | cons b t ih => rw [recs_cons, List.length_append, recB_length, List.length_cons]; omega
  exact Nat.le_trans (h2 _) h1
theorem wrap_valid (N m : Nat) (hN : N ≤ 1048583000000000) (hm : m ≤ 1048576) : wrap64 (((N : Nat) : Int) + (7 + ((m : Nat) : Int))) = ((N + (7 + m) : Nat) : Int) := by unfold wrap64; omega
theorem wrap_seven (m : Nat) (hm : m ≤ 1048576) : wrap64 (7 + ((m : Nat) : Int)) = 7 + ((m : Nat) : Int) := by unfold wrap64; omega
theorem recs_le (l : List Bs) (h : Small l) : (recs l).length ≤ l.length * 1048583 := by
  induction l with
  | nil => simp [recs_nil]
  | cons b t ih =>
    have hb := h b (by simp)
    have := ih fun c hc => h c (by simp [hc])
    rw [recs_cons, List.length_append, recB_length, List.length_cons, Nat.add_mul]
    omega
theorem Lay.drop {A P : Nat → Prop} {K : Nat → Value} (h : Lay A r s K w) (hs : w.heap.size ≤ w'.heap.size) (h' : Lay A r s K w') (hP : ∀ g, P g → w.heap.size ≤ g ∧ g < w'.heap.size) : Lay (fun b => A b ∧ ¬ P b) r s K w' := by
  refine ⟨h'.row, ⟨fun i hi b hbb => ?_, h'.sep.dif, ⟨⟨h'.sep.rA.1, fun e => ?_⟩, h'.sep.rA.2⟩, fun b hbb => ⟨h'.sep.new b hbb, fun e => ?_⟩⟩, h'.cont⟩
  · obtain ⟨x, y, z⟩ := h.sep.own i hi b hbb
    exact ⟨⟨x, fun e => by have := hP b e; omega⟩, y, by omega⟩
  · have := hP r e
    have := h.sep.rA
    omega
  · have := hP b e
    omega
theorem Dsk.drop {A P : Nat → Prop} (h : Dsk A r s w) (hb : Below w.heap.size w w') (hP : ∀ g, P g → w.heap.size ≤ g ∧ g < w'.heap.size) : Dsk (fun b => A b ∧ ¬ P b) r s w' :=
  ⟨h.1, h.2.choose, Lay.drop h.2.choose_spec hb.size (h.2.choose_spec.below hb) hP⟩
/-- What holds between two rounds of Open's loop: the log's rows, and the two variables that the loop writes. -/
def Rnd (p r f : Nat) (w1 : World) (pre : List Rw) (W : World) : Prop :=
  (∃ v, Blk W p 87 #[.pointer (some ⟨r, 0, none⟩), .int .i64 ((f : Nat) : Int), v] ∧ W.ownsRow (p + 4) 9 1 v (pre.map (·.1)).length (sc (pre.map (·.1)))) ∧
    Blk W (p + 1) 29 #[.pointer (some ⟨p, 0, none⟩)] ∧ Blk W (p + 2) 3 #[.int .i64 ((recs (pre.map (·.1))).length : Nat)] ∧ Below p w1 W ∧ p + 4 ≤ W.heap.size
theorem owns_rebase {w : World} {B : Nat} {e : TypeId} {z n : Nat} {v : Value} {xs : List Value} (h : w.ownsRow 0 e z v n xs) (hb : ∀ b, v.ownBlock = some b → B ≤ b) : w.ownsRow B e z v n xs := by
  refine ⟨h.1, ?_⟩
  rcases h.2 with hn | ⟨g, cap, cur, h1, h2, rest⟩
  · exact .inl hn
  · exact .inr ⟨g, cap, cur, h1, hb g (by rw [h1]; rfl), rest⟩
theorem own_cells {w : World} {B : Nat} {e : TypeId} {z n g : Nat} {v : Value} {xs : List Value} (h : w.ownsRow B e z v n xs) (hg : v.ownBlock = some g) {o : Obj} (ho : w.heap[g]? = some o) : o.isCells = true := by
  rcases h.2 with ⟨hv, _⟩ | ⟨g', cap, cur, hv, _, hgc, _⟩
  · rw [hv] at hg; cases hg
  · rw [hv] at hg
    injection hg with hg
    subst hg
    rw [hgc] at ho
    injection ho with ho
    subst ho
    rfl
/-- One round of the loop: a row more, and what has turned. -/
theorem rnd_step {p r f : Nat} {w1 W W3 W4 W5 : World} {pre : List Rw} {x : Rw} {va v2a : Option Addr} {vc v2c N1 : Nat} (hp : p + 4 ≤ W.heap.size) (hbel : Below p w1 W)
    (hb0 : Blk W p 87 #[.pointer (some ⟨r, 0, none⟩), .int .i64 ((f : Nat) : Int), .slice va pre.length vc]) (ho : W.ownsRow (p + 4) 9 1 (.slice va pre.length vc) pre.length (sc (pre.map (·.1))))
    (hbq : Blk W (p + 1) 29 #[.pointer (some ⟨p, 0, none⟩)]) (hgrow : (W.alloc (.cells #[.string (sv x.1)] 9)).drew.grownBy W3 (Value.slice va pre.length vc).ownBlock)
    (hown : W3.ownsRow 0 9 1 (.slice v2a (pre.length + 1) v2c) (pre.length + 1) (sc (pre.map (·.1)) ++ [.string (sv x.1)]))
    (hwh : ∀ g, (Value.slice v2a (pre.length + 1) v2c).ownBlock = some g → ((W.alloc (.cells #[.string (sv x.1)] 9)).drew.heap.size ≤ g ∧ g < W3.heap.size) ∨ (Value.slice va pre.length vc).ownBlock = some g)
    (hp3 : Blk W3 p 87 #[.pointer (some ⟨r, 0, none⟩), .int .i64 ((f : Nat) : Int), .slice va pre.length vc]) (hq3 : Blk W3 (p + 1) 29 #[.pointer (some ⟨p, 0, none⟩)])
    (hW4 : W3.setCell ⟨p, 2, none⟩ (.slice v2a (pre.length + 1) v2c) = W4) (hv4 : Blk W4 (p + 2) 3 #[.int .i64 ((N1 : Nat) : Int)])
    (hsum : (recs ((pre ++ [x]).map (·.1))).length = N1 + (7 + x.1.length)) (hW5 : W4.setCell ⟨p + 1 + 1, 0, none⟩ (.int .i64 (((N1 : Nat) : Int) + (7 + ((x.1.length : Nat) : Int)))) = W5) :
    KeepsFrom (p + 4) W W5 ∧ Below p W W5 ∧ Rnd p r f w1 (pre ++ [x]) W5 := by
  have hs1 : (W.alloc (.cells #[.string (sv x.1)] 9)).drew.heap.size = W.heap.size + 1 := by show (W.alloc _).heap.size = _; simp
  have hs3 := hgrow.size
  rw [hs1] at hs3
  have hs5 : W5.heap.size = W3.heap.size := by rw [← hW5, ← hW4]; simp [World.setCell]
  have keep : ∀ k, k < W.heap.size → k ≠ p → k ≠ p + 2 → (Value.slice va pre.length vc).ownBlock ≠ some k → W5.heap[k]? = W.heap[k]? := fun k hk h1 h2 h3 => by
    rw [← hW5, heap_setCell_other _ _ k _ (show k ≠ p + 1 + 1 by omega), ← hW4, heap_setCell_other _ _ k _ h1]
    exact (hgrow.block k (by omega) (fun e => h3 e.symm)).trans (heap_alloc_old W _ hk)
  have hbl : Below p W W5 := by
    rw [← hW5, ← hW4]
    refine ((Below.grown (Below.alloc (Below.refl p W) (by omega) (.cells #[.string (sv x.1)] 9)) (show (W.alloc (.cells #[.string (sv x.1)] 9)).grownBy W3 _ from ⟨hgrow.os, hgrow.tape, hgrow.output, hgrow.size, hgrow.block⟩) (by simp; omega) (fun k e => ?_)).setCell (p := ⟨p, 2, none⟩) (Nat.le_refl _) _).setCell (p := ⟨p + 1 + 1, 0, none⟩) (by show p ≤ p + 1 + 1; omega) _
    have := ho.lt k e
    omega
  refine ⟨⟨by omega, fun k o hB hk hc => ?_⟩, hbl, ⟨.slice v2a (pre.length + 1) v2c, ?_, ?_⟩, ?_, ?_, hbel.trans hbl, by omega⟩
  · have hkl := (Array.getElem?_eq_some_iff.1 hk).1
    rw [keep k hkl (by omega) (by omega) (fun e => by rw [own_cells ho e hk] at hc; cases hc)]
    exact hk
  · rw [← hW5]
    refine Blk.far (p := ⟨p + 1 + 1, 0, none⟩) ?_ (by show p ≠ p + 1 + 1; omega) _
    rw [← hW4]
    exact hp3.set_ 2 _
  · have e1 : ((pre ++ [x]).map (·.1)).length = pre.length + 1 := by simp
    have e2 : sc ((pre ++ [x]).map (·.1)) = sc (pre.map (·.1)) ++ [.string (sv x.1)] := by rw [List.map_append, sc_append]; rfl
    rw [e1, e2]
    have hg4 : ∀ b, (Value.slice v2a (pre.length + 1) v2c).ownBlock = some b → p + 4 ≤ b := fun b hb => by
      rcases hwh b hb with h | h
      · omega
      · exact (ho.lt b h).1
    refine owns_rebase (owns_block hown fun b hb => ?_) hg4
    have := hg4 b hb
    rw [← hW5, heap_setCell_other _ _ b _ (show b ≠ p + 1 + 1 by omega), ← hW4, heap_setCell_other _ _ b _ (show b ≠ p by omega)]
  · rw [← hW5]
    refine Blk.far (p := ⟨p + 1 + 1, 0, none⟩) ?_ (by show p + 1 ≠ p + 1 + 1; omega) _
    rw [← hW4]
    exact hq3.far (p := ⟨p, 2, none⟩) (by show p + 1 ≠ p; omega) _
  · have h5 := hv4.set_ 0 (.int .i64 (((N1 : Nat) : Int) + (7 + ((x.1.length : Nat) : Int))))
    have e : (((N1 : Nat) : Int) + (7 + ((x.1.length : Nat) : Int))) = ((recs ((pre ++ [x]).map (·.1))).length : Nat) := by rw [hsum]; omega
    rw [← hW5, ← e]
    exact h5
theorem rnd_own (p r f : Nat) (w1 : World) (hp : w1.heap.size = p) : OwnFrom (p + 4) (Rnd p r f w1) := by
  rintro pre W W' row ⟨⟨v, h1, h2⟩, h3, h4, h5, h6⟩ hg hr
  have keep : ∀ g, g < p + 4 → W'.heap[g]? = W.heap[g]? := fun g hgl => hg.block g (by omega) (fun e => by have := (hr g e.symm).1; omega)
  refine ⟨⟨v, (keep p (by omega)).trans h1, owns_block h2 fun b hb => hg.block b (h2.lt b hb).2 (fun e => ?_)⟩, (keep _ (by omega)).trans h3, (keep _ (by omega)).trans h4, ?_, by have := hg.size; omega⟩
  · obtain ⟨_, o, ho, hc⟩ := hr b e.symm
    rcases h2.2 with ⟨hv, _⟩ | ⟨g, cap, cur, hv, _, hgc, _⟩
    · rw [hv] at hb; cases hb
    · rw [hv] at hb
      injection hb with hb
      subst hb
      rw [hgc] at ho
      injection ho with ho
      subst ho
      cases hc
  · exact h5.grown hg (by have := h5.size; omega) (fun k e => by have := (hr k e).1; omega)
theorem oper_append {P : Program} {o : Oper} {a : Act} {Q : Exit → Act → World → Prop} {K : Act → World → Prop} {w w' : World} {sl x : Operand} {t tx : TypeId} {v xv v' : Value}
    (ho : o.op = .call { callee := .builtin .append, args := #[sl, x], argTypes := #[t, tx] }) (hs : a.eval sl = v) (hx : a.eval x = xv) (hr : (Builtin.append_ #[t, tx] o.type #[v, xv]).run P w = .ok v' w') (h : K (a.put o.dst v') w') : o.wp P a w K Q := by
  unfold Oper.wp execOp
  simp only [ho, resolve, invoke, builtin, Sem.run_bind, Sem.run_pure, Result.andThen_ok, List.map_toArray, List.map_cons, List.map_nil, hs, hx, hr]
  exact h
/-- What Open leaves where the file could be read. -/
def OpenPost (A : Nat → Prop) (r f : Nat) (R : Int × St) (rows : List Bs) (w : World) (e : Ending) (w' : World) : Prop :=
  ∃ D, (∀ b, D b → A b) ∧ Dsk D r R.2 w' ∧ Fr A w w' ∧
    (R.1 = 0 → ∃ p M, e = .returned (.tuple #[.pointer (some ⟨p, 0, none⟩), .int .i64 0]) ∧ LD D M r p f R.2 rows w' ∧ ∀ b, M b → w.heap.size ≤ b) ∧
    (R.1 ≠ 0 → e = .returned (.tuple #[.pointer none, .int .i64 R.1]))
theorem Fr.putObj {A : Nat → Prop} {a w : World} (h : Fr A a w) {g : Nat} (hg : A g) (o : Obj) : Fr A a (w.putObj g o) :=
  h.grown (grownBy_putObj' w g o) (fun k e => by cases e; exact hg)
theorem LD.put {D M : Nat → Prop} {p f : Nat} {rows : List Bs} (h : LD D M r p f s rows w) {g : Nat} (hD : ¬ D g) (hM : ¬ M g) (o : Obj) : LD D M r p f s rows (w.putObj g o) := by
  have hg := grownBy_putObj' w g o
  exact ⟨⟨h.dsk.1, h.dsk.2.choose, h.dsk.2.choose_spec.stay hg.size fun b _ hb => hg.block b ‹_› (fun e => by cases e; exact hD hb)⟩, h.log.stay hg.size fun b _ hb => hg.block b ‹_› (fun e => by cases e; exact hM hb), h.sep⟩
set_option maxHeartbeats 4000000 in
theorem open_main (h : Dsk A r s w) {f : Nat} (hf : f ≤ 6) (he : readE s (f : Nat) = 0) :
    Calls Try.prog 26 #[.pointer (some ⟨r, 0, none⟩), .int .i64 ((f : Nat) : Int)] w fun e w' => OpenPost A r f (opn3 s ((f : Nat) : Int) (vlen (readB s ((f : Nat) : Int)))) (val (readB s ((f : Nat) : Int))) w e w' := by
  have d0 : decide (((f : Nat) : Int) < 0) = false := decide_eq_false (by omega)
  have d6 : decide (6 < ((f : Nat) : Int)) = false := decide_eq_false (by omega)
  have HR := Lib.hid (read_dsk h (f : Nat))
  have HD := Lib.hid h
  rw [he] at HR
  obtain ⟨X, hX⟩ : ∃ X, readB s ((f : Nat) : Int) = X := ⟨_, rfl⟩
  rw [hX] at HR ⊢
  have hXl : X.length ≤ 1000000000 := by
    have hw := h.1.len f (by omega)
    obtain ⟨hd, _⟩ := chk_zero he
    rw [← hX, (read_up hd (show f < 8 by omega)).2]
    omega
  clear h he
  refine (callsIn_wide (n := 9)).1 ?_
  refine callsIn_of_wp_marks Try.func26 rfl trivial ?_ rfl
  simp only [Try.ntmps26, List.size_toArray, List.length_cons, List.length_nil, Nat.reduceAdd, Nat.reduceSub, Array.replicate_succ, Array.replicate_zero, List.push_toArray, List.append_toArray, List.nil_append, List.cons_append]
  gi_wp2
  refine ⟨trivial, (callsIn_wide.2 HR.out).mono ?_⟩
  rintro e w1 ⟨rfl, hb1⟩
  gi_wp2
  refine ⟨trivial, (callsIn_wide.2 (rowsOf_any X _)).mono ?_⟩
  rintro e w2 ⟨rfl, rfl⟩
  gi_wp2
  obtain ⟨p, hp⟩ : ∃ p, w1.heap.size = p := ⟨_, rfl⟩
  rw [hp]
  obtain ⟨W0, hW0⟩ : ∃ W0, ((((w1.alloc (.cells #[.pointer (some ⟨r, 0, none⟩), .int .i64 ((f : Nat) : Int), .slice none 0 0] 87)).alloc (.cells #[.pointer (some ⟨p, 0, none⟩)] 29)).alloc (.cells #[.int .i64 0] 3)).alloc (.cells #[.string (sv X)] 9)) = W0 := ⟨_, rfl⟩
  rw [hW0]
  have hs0 : W0.heap.size = p + 4 := by rw [← hW0]; simp [hp]
  have hR0 : Rnd p r f w1 [] W0 := by
    have b1 := Blk.new w1 87 #[.pointer (some ⟨r, 0, none⟩), .int .i64 ((f : Nat) : Int), .slice none 0 0]
    have b2 := Blk.new (w1.alloc (.cells #[.pointer (some ⟨r, 0, none⟩), .int .i64 ((f : Nat) : Int), .slice none 0 0] 87)) 29 #[.pointer (some ⟨p, 0, none⟩)]
    have b3 := Blk.new ((w1.alloc (.cells #[.pointer (some ⟨r, 0, none⟩), .int .i64 ((f : Nat) : Int), .slice none 0 0] 87)).alloc (.cells #[.pointer (some ⟨p, 0, none⟩)] 29)) 3 #[.int .i64 0]
    rw [hp] at b1
    rw [World.size_alloc, hp] at b2
    rw [World.size_alloc, World.size_alloc, hp] at b3
    rw [← hW0]
    refine ⟨⟨_, ((b1.alloc _).alloc _).alloc _, World.ownsRow_nil _ _ _ _⟩, (b2.alloc _).alloc _, b3.alloc _, ?_, by simp [hp]⟩
    rw [← hp]
    exact ((((Below.refl _ w1).alloc (Nat.le_refl _) _).alloc (by simp) _).alloc (by simp; omega) _).alloc (by simp; omega) _
  have hfb : W0.cell? ⟨p + 1 + 1 + 1, 0, none⟩ = some (.string (sv X)) := by
    have b4 := Blk.new (((w1.alloc (.cells #[.pointer (some ⟨r, 0, none⟩), .int .i64 ((f : Nat) : Int), .slice none 0 0] 87)).alloc (.cells #[.pointer (some ⟨p, 0, none⟩)] 29)).alloc (.cells #[.int .i64 0] 3)) 9 #[.string (sv X)]
    rw [World.size_alloc, World.size_alloc, World.size_alloc, hp, hW0] at b4
    exact b4.cell 0
  have HP := Lib.hid hp
  have HB1 := Lib.hid hb1
  have HS0 := Lib.hid hs0
  clear hW0 hp hb1
  refine wpIn_rangeFunc_ownG rfl (by omega) (gf := 76) (lb := #[.pointer (some ⟨p + 1 + 1 + 1, 0, none⟩)]) rfl trivial (enters_of Try.func76 (by kernel_rfl) rfl)
    (iter_stops (9 - 1) (by omega) (p + 1 + 1 + 1) p X hXl W0 (by omega) hfb) belowK_t (belowK_b (by omega)) (Below.refl _ _) (fun _ => rfl)
    (Rnd p r f w1) (fun _ _ _ => False) (by rw [hs0]; exact rnd_own p r f w1 HP.out) (fun _ _ _ _ _ hs _ _ => hs) hR0
    (fun x => { tmps := #[.pointer (some ⟨r, 0, none⟩), .int .i64 ((f : Nat) : Int), undef, undef, .pointer none, .int .i64 0, .string (sv X), .int .i64 0, .pointer (some ⟨p + 1, 0, none⟩), .pointer (some ⟨p + 1 + 1, 0, none⟩), .string (sv x.1), undef, undef, undef, .pointer (some ⟨r, 0, none⟩), .bool false, .bool false, .int .i64 ((f : Nat) : Int), .bool false, .bool false, .bool false, .int .i64 ((f : Nat) : Int), .bool false, .bool false, .tuple #[.string (sv X), .int .i64 0], .pointer (some ⟨r, 0, none⟩), .int .i64 ((f : Nat) : Int), .tuple #[.string (sv X), .int .i64 0], .string (sv X), .int .i64 0, .int .i64 0, .bool false, undef, .pointer (some ⟨r, 0, none⟩), .int .i64 ((f : Nat) : Int), .agg #[.pointer (some ⟨r, 0, none⟩), .int .i64 ((f : Nat) : Int), .slice none 0 0], .pointer (some ⟨p, 0, none⟩), .string (sv X), .func (.func 76) #[] #[.pointer (some ⟨p + 1 + 1 + 1, 0, none⟩)], .string (sv x.1), undef, undef, undef, undef, undef, undef, undef, undef, undef, undef, undef, undef, undef, undef, undef, undef, undef, undef, undef, undef, undef, undef, undef, undef, undef, undef, undef, undef, undef, undef, undef, undef, undef, undef, undef, undef], defers := [] }) ?assign ?body ?done ?stop
  case assign =>
    intro l x W K hK
    simp only [encR]
    gi_wp2
    exact hK
  case body =>
    intro l pre x W hI hlen
    obtain ⟨⟨v, hb0, ho⟩, hbq, hbv, hbel, hsz⟩ := hI
    obtain ⟨va, vc, rfl⟩ := owns_slice ho
    rw [List.length_map] at ho hb0
    have hpl : pre.length ≤ 1000000000 := by
      have h1 := val_len X
      omega
    have c1 : W.cell? ⟨p + 1, 0, none⟩ = some (.pointer (some ⟨p, 0, none⟩)) := hbq.cell 0
    have c2 : W.cell? ⟨p, 2, none⟩ = some (.slice va pre.length vc) := hb0.cell 2
    gi_wp2
    refine region_round (by kernel_rfl) ?hd ?hQ ?_
    case hd =>
      intro i o hio c hc
      have hmem := Array.mem_of_getElem? hio
      simp only [List.mem_toArray, List.mem_cons, List.not_mem_nil, or_false] at hmem
      rcases hmem with rfl | rfl | rfl | rfl | rfl | rfl | rfl | rfl | rfl | rfl | rfl <;> cases hc
    case hQ =>
      rintro ⟨a2, w2, h2⟩
      exact h2
    have hSS : W.drew.cell? ⟨p + 1, 0, none⟩ = some (.pointer (some ⟨p, 0, none⟩)) ∧ W.drew.cell? ⟨p, 2, none⟩ = some (.slice va pre.length vc) := ⟨c1, c2⟩
    refine Dg.wpAny_of_T (n := 10) (S := fun W2 => W2.cell? ⟨p + 1, 0, none⟩ = some (.pointer (some ⟨p, 0, none⟩)) ∧ W2.cell? ⟨p, 2, none⟩ = some (.slice va pre.length vc)) _ _ _ _ ?_
    refine Dg.wpAnyT_take (i := 0) (v := .pointer (some ⟨p, 0, none⟩)) rfl (by kernel_rfl) (fun _ _ _ h => h) (Or.inl ⟨by kernel_rfl, fun W2 hW2 => by obtain ⟨q1, q2⟩ := hW2; go_simp⟩) hSS ?_
    simp only [Act.put, List.getElem_toArray, List.getElem_cons_zero, List.setIfInBounds_toArray, List.set_cons_zero, List.set_cons_succ]
    refine Dg.wpAnyT_take (i := 1) (v := .pointer (some ⟨p, 0, none⟩)) rfl (by kernel_rfl) (fun _ _ _ h => h) (Or.inl ⟨by kernel_rfl, fun W2 hW2 => by obtain ⟨q1, q2⟩ := hW2; go_simp⟩) hSS ?_
    simp only [Act.put, List.getElem_toArray, List.getElem_cons_succ, List.getElem_cons_zero, List.setIfInBounds_toArray, List.set_cons_zero, List.set_cons_succ]
    refine Dg.wpAnyT_take (i := 2) (v := .pointer (some ⟨p, 0, none⟩)) rfl (by kernel_rfl) (fun _ _ _ h => h) (Or.inl ⟨by kernel_rfl, fun W2 hW2 => by obtain ⟨q1, q2⟩ := hW2; go_simp⟩) hSS ?_
    simp only [Act.put, List.getElem_toArray, List.getElem_cons_succ, List.getElem_cons_zero, List.setIfInBounds_toArray, List.set_cons_zero, List.set_cons_succ]
    refine Dg.wpAnyT_take (i := 3) (v := .pointer (some ⟨p, 2, none⟩)) rfl (by kernel_rfl) (fun _ _ _ h => h) (Or.inl ⟨by kernel_rfl, fun W2 hW2 => by obtain ⟨q1, q2⟩ := hW2; go_simp⟩) hSS ?_
    simp only [Act.put, List.getElem_toArray, List.getElem_cons_succ, List.getElem_cons_zero, List.setIfInBounds_toArray, List.set_cons_zero, List.set_cons_succ]
    refine Dg.wpAnyT_take (i := 4) (v := .slice va pre.length vc) rfl (by kernel_rfl) (fun _ _ _ h => h) (Or.inl ⟨by kernel_rfl, fun W2 hW2 => by obtain ⟨q1, q2⟩ := hW2; go_simp⟩) hSS ?_
    simp only [Act.put, List.getElem_toArray, List.getElem_cons_succ, List.getElem_cons_zero, List.setIfInBounds_toArray, List.set_cons_zero, List.set_cons_succ]
    refine Dg.wpAnyT_take (i := 5) (v := .string (sv x.1)) rfl (by kernel_rfl) (fun _ _ _ h => h) (Or.inl ⟨by kernel_rfl, fun W2 hW2 => by obtain ⟨q1, q2⟩ := hW2; go_simp⟩) hSS ?_
    simp only [Act.put, List.getElem_toArray, List.getElem_cons_succ, List.getElem_cons_zero, List.setIfInBounds_toArray, List.set_cons_zero, List.set_cons_succ]
    refine Dg.wpAnyT_one (i := 6) rfl (by kernel_rfl) fun K' hK => ?_
    rw [if_pos (by kernel_rfl)]
    unfold Oper.wp
    go_simp
    refine hK.out _ _ ⟨(hbq.alloc _).cell 0, (hb0.alloc _).cell 2⟩ ?_
    clear hK
    have hal := below_alloc W (.cells #[.string (sv x.1)] 9)
    have hoA : (W.alloc (.cells #[.string (sv x.1)] 9)).drew.ownsRow 0 9 1 (.slice va pre.length vc) pre.length (sc (pre.map (·.1))) := (owns_base ho).alloc _
    obtain ⟨i0, hi, hz0, hz1, hz2⟩ := info_parts infoStr
    obtain ⟨v', W3, hrun, hown, hgrow, hwh⟩ := run_append_src (P := Try.prog) (W.alloc (.cells #[.string (sv x.1)] 9)).drew 38 38 38 9 i0 (.string ⟨#[]⟩) 1 16 Try.underlying38 hi hz0 hz1 hz2 rfl (by decide) _ _ _ hoA
      (.slice (some ⟨W.heap.size, 0, none⟩) 1 1) 1 (by decide) [.string (sv x.1)] (by
        refine Src.ofSlice _ Try.underlying38 ⟨W.heap.size, 0, none⟩ 1 1 _ rfl ?_ ?_
        · intro j u hj
          rw [add_zero_addr]
          refine ((Blk.new W 9 #[.string (sv x.1)]).cell j).trans ?_
          match j, hj with
          | 0, hj => simpa using hj
        · intro u hu
          rw [List.mem_singleton] at hu
          subst hu
          rfl) (by unfold maxLen; omega) (by omega)
    have hp3 : Blk W3 p 87 #[.pointer (some ⟨r, 0, none⟩), .int .i64 ((f : Nat) : Int), .slice va pre.length vc] := (hgrow.block p (by show p < (W.alloc _).heap.size; simp; omega) (fun e => by have := ho.lt p e.symm; omega)).trans (hb0.alloc _)
    have hq3 : Blk W3 (p + 1) 29 #[.pointer (some ⟨p, 0, none⟩)] := (hgrow.block (p + 1) (by show p + 1 < (W.alloc _).heap.size; simp; omega) (fun e => by have := ho.lt (p + 1) e.symm; omega)).trans (hbq.alloc _)
    refine Dg.wpAnyT_one (i := 7) rfl (by kernel_rfl) fun K' hK => ?_
    rw [if_pos (by kernel_rfl)]
    refine oper_append (t := 38) (tx := 38) rfl rfl rfl hrun ?_
    have hS3 : W3.cell? ⟨p + 1, 0, none⟩ = some (.pointer (some ⟨p, 0, none⟩)) ∧ W3.cell? ⟨p, 2, none⟩ = some (.slice va pre.length vc) := ⟨hq3.cell 0, hp3.cell 2⟩
    refine hK.out _ _ hS3 ?_
    clear hK
    simp only [Act.put, List.getElem_toArray, List.getElem_cons_succ, List.getElem_cons_zero, List.setIfInBounds_toArray, List.set_cons_zero, List.set_cons_succ]
    refine Dg.wpAnyT_take (i := 8) (v := .pointer (some ⟨p, 0, none⟩)) rfl (by kernel_rfl) (fun _ _ _ h => h) (Or.inl ⟨by kernel_rfl, fun W2 hW2 => by obtain ⟨q1, q2⟩ := hW2; go_simp⟩) hS3 ?_
    simp only [Act.put, List.getElem_toArray, List.getElem_cons_succ, List.getElem_cons_zero, List.setIfInBounds_toArray, List.set_cons_zero, List.set_cons_succ]
    refine Dg.wpAnyT_take (i := 9) (v := .pointer (some ⟨p, 2, none⟩)) rfl (by kernel_rfl) (fun _ _ _ h => h) (Or.inl ⟨by kernel_rfl, fun W2 hW2 => by obtain ⟨q1, q2⟩ := hW2; go_simp⟩) hS3 ?_
    simp only [Act.put, List.getElem_toArray, List.getElem_cons_succ, List.getElem_cons_zero, List.setIfInBounds_toArray, List.set_cons_zero, List.set_cons_succ]
    refine Dg.wpAnyT_gate rfl (by kernel_rfl) fun K' hK => ?_
    rw [if_pos (by kernel_rfl)]
    have z2 : W3.cell? ⟨p, 2, none⟩ = some (.slice va pre.length vc) := hS3.2
    have zf : W3.frozen? ⟨p, 2, none⟩ = false := hp3.frozen 2
    obtain ⟨v2a, v2c, hvv⟩ := owns_slice hown
    subst hvv
    unfold Oper.wp
    go_simp
    refine hK.out _ _ ⟨by kernel_rfl, ?_⟩
    clear hK
    have hv3 : Blk W3 (p + 2) 3 #[.int .i64 ((recs (pre.map (·.1))).length : Nat)] := (hgrow.block (p + 2) (by show p + 2 < (W.alloc _).heap.size; simp; omega) (fun e => by have := ho.lt (p + 2) e.symm; omega)).trans (hbv.alloc _)
    obtain ⟨W4, hW4⟩ : ∃ W4, W3.setCell ⟨p, 2, none⟩ (.slice v2a (pre.length + 1) v2c) = W4 := ⟨_, rfl⟩
    have hv4 : Blk W4 (p + 2) 3 #[.int .i64 ((recs (pre.map (·.1))).length : Nat)] := by rw [← hW4]; exact hv3.far (p := ⟨p, 2, none⟩) (by show p + 2 ≠ p; omega) _
    have z4 : W4.cell? ⟨p + 1 + 1, 0, none⟩ = some (.int .i64 ((recs (pre.map (·.1))).length : Nat)) := hv4.cell 0
    have zf4 : W4.frozen? ⟨p + 1 + 1, 0, none⟩ = false := hv4.frozen 0
    have hsm : Small (pre.map (·.1)) := fun b hb => by obtain ⟨y, _, rfl⟩ := List.mem_map.1 hb; exact y.2
    have hrl := recs_le _ hsm
    rw [List.length_map] at hrl
    have hxl2 := x.2
    have hszx : (sv x.1).size = x.1.length := rfl
    have hsum : (recs ((pre ++ [x]).map (·.1))).length = (recs (pre.map (·.1))).length + (7 + x.1.length) := by
      rw [List.map_append, recs_append, List.length_append]
      show _ + (recs [x.1]).length = _
      rw [recs_one, recB_length]
      omega
    obtain ⟨N1, hN1⟩ : ∃ N1, (recs (pre.map (·.1))).length = N1 := ⟨_, rfl⟩
    rw [hN1] at hsum z4 hv4 hrl
    have hww : wrap64 (((N1 : Nat) : Int) + (7 + ((x.1.length : Nat) : Int))) = (((N1 + (7 + x.1.length)) : Nat) : Int) := wrap_valid N1 x.1.length (by have := Nat.mul_le_mul_right 1048583 hpl; clear hsum; omega) hxl2
    have h7 : wrap64 (7 + ((x.1.length : Nat) : Int)) = 7 + ((x.1.length : Nat) : Int) := wrap_seven x.1.length hxl2
    rw [hW4]
    have HSUM := Lib.hid hsum
    have HV4 := Lib.hid hv4
    clear hsum hrl hN1 hv3 hv4 hsm hxl2
    gi_wp2
    have hfin := rnd_step hsz hbel hb0 ho hbq hgrow hown hwh hp3 hq3 hW4 HV4.out HSUM.out rfl
    rw [HS0.out]
    exact hfin
  case done =>
    intro DD xs W hD hS hI hK
    obtain ⟨⟨v, hb0, ho⟩, hbq, hbv, hbel, hsz⟩ := hI
    rw [hS] at ho hbv
    obtain ⟨e1, he1⟩ : ∃ x, shE s (f : Int) (vlen X : Nat) = x := ⟨_, rfl⟩
    obtain ⟨s1, hs1⟩ : ∃ x, shS s (f : Int) (vlen X : Nat) = x := ⟨_, rfl⟩
    obtain ⟨e2, he2⟩ : ∃ x, shE s1 ((f : Int) + 1) 0 = x := ⟨_, rfl⟩
    obtain ⟨s2, hs2⟩ : ∃ x, shS s1 ((f : Int) + 1) 0 = x := ⟨_, rfl⟩
    obtain ⟨e3, he3⟩ : ∃ x, fluE s2 (f : Int) = x := ⟨_, rfl⟩
    obtain ⟨s3, hs3⟩ : ∃ x, fluS s2 (f : Int) = x := ⟨_, rfl⟩
    have hop : opn3 s ((f : Nat) : Int) (vlen X) = if e1 ≠ 0 then (e1, s1) else if e2 ≠ 0 then (e2, s2) else (e3, s3) := by
      unfold opn3
      rw [he1, hs1, he2, hs2, he3, hs3]
    have hDl : DD < W.heap.size := (Array.getElem?_eq_some_iff.1 hK).1
    have hpg : ∀ g, (g = p ∨ g = p + 1 ∨ g = p + 2 ∨ g = DD ∨ v.ownBlock = some g) → w1.heap.size ≤ g ∧ g < W.heap.size := by
      rw [HP.out]
      rintro g (rfl | rfl | rfl | rfl | hg)
      · omega
      · omega
      · omega
      · omega
      · have := ho.lt g hg; omega
    have hdk := Dsk.drop (P := fun g => g = p ∨ g = p + 1 ∨ g = p + 2 ∨ g = DD ∨ v.ownBlock = some g) (HD.out.below HB1.out) (by rw [HP.out]; exact hbel) hpg
    have hvp : v.ownBlock ≠ some p := fun e => by have := ho.lt p e; omega
    have hvD : v.ownBlock ≠ some DD := fun e => by
      rcases ho.2 with ⟨hv, _⟩ | ⟨g, cap, cur, hv, _, hgc, _⟩
      · rw [hv] at e; cases e
      · rw [hv] at e
        injection e with e
        subst e
        rw [hgc] at hK
        cases hK
    have hLD : LD (fun b => A b ∧ ¬ (b = p ∨ b = p + 1 ∨ b = p + 2 ∨ b = DD ∨ v.ownBlock = some b)) (fun b => b = p ∨ v.ownBlock = some b) r p f s (val X) W :=
      ⟨hdk, ⟨⟨v, hb0, owns_base ho, fun b hb => ⟨.inr hb, fun e => hvp (by rw [hb, e]), (ho.lt b hb).2⟩⟩, .inl rfl⟩, fun b hb hD => hD.2 (by rcases hb with hb | hb; exact .inl hb; exact .inr (.inr (.inr (.inr hb))))⟩
    have hMn : ∀ b, (b = p ∨ v.ownBlock = some b) → w.heap.size ≤ b := by
      have := HB1.out.size
      have := HP.out
      rintro b (rfl | hb)
      · omega
      · have := ho.lt b hb; omega
    have hFr : Fr A w W := ((Fr.refl A w).below HB1.out).below (by rw [HP.out]; exact hbel)
    have hAD : A DD := by
      have := HD.out.2.choose_spec.sep.new DD (by have := HB1.out.size; have := HP.out; omega)
      exact this
    obtain ⟨Dd, hDd⟩ : ∃ Dd : Nat → Prop, (fun b => A b ∧ ¬ (b = p ∨ b = p + 1 ∨ b = p + 2 ∨ b = DD ∨ v.ownBlock = some b)) = Dd := ⟨_, rfl⟩
    have hDA : ∀ b, Dd b → A b := fun b hb => by rw [← hDd] at hb; exact hb.1
    have hDn : ¬ Dd (p + 1) ∧ ¬ Dd (p + 2) ∧ ¬ Dd DD := by rw [← hDd]; exact ⟨fun h => h.2 (.inr (.inl rfl)), fun h => h.2 (.inr (.inr (.inl rfl))), fun h => h.2 (.inr (.inr (.inr (.inl rfl))))⟩
    have hMD : ¬ (DD = p ∨ v.ownBlock = some DD) := by
      rintro (h | h)
      · omega
      · exact hvD h
    rw [hDd] at hLD
    have c1 : W.cell? ⟨p + 1, 0, none⟩ = some (.pointer (some ⟨p, 0, none⟩)) := hbq.cell 0
    have c2 : W.cell? ⟨p + 1 + 1, 0, none⟩ = some (.int .i64 ((vlen X : Nat) : Int)) := hbv.cell 0
    have HOP := Lib.hid hop
    have HC1 := Lib.hid (shorten_at hLD.dsk (f : Int) ((vlen X : Nat) : Int) e1 he1 hs1)
    have HC2 := Lib.hid (fun W (hW : Dsk Dd r s1 W) => shorten_at hW ((f : Int) + 1) 0 e2 he2 hs2)
    have HC3 := Lib.hid (fun W (hW : Dsk Dd r s2 W) => flush_at hW (f : Int) e3 he3 hs3)
    have HLD := Lib.hid hLD
    have HMN := Lib.hid hMn
    have HFR := Lib.hid hFr
    have HDA := Lib.hid hDA
    have HDN := Lib.hid hDn
    have HMD := Lib.hid hMD
    have HAD := Lib.hid hAD
    have HK := Lib.hid hK
    have HBQ := Lib.hid hbq
    have wg : wrap64 (((f : Nat) : Int) + 1) = ((f : Nat) : Int) + 1 := by unfold wrap64; omega
    have keepK : Hid (∀ w2, Fr Dd W w2 → w2.heap[DD]? = some (.deferred (some []))) := Lib.hid fun w2 hf2 => (hf2.block DD hDl hDn.2.2).trans hK
    have keepQ : Hid (∀ w2, Fr Dd W w2 → w2.cell? ⟨p + 1, 0, none⟩ = some (.pointer (some ⟨p, 0, none⟩))) := Lib.hid fun w2 hf2 => (hf2.blk hbq hDn.1).cell 0
    clear hb0 ho hbq hbv hbel hsz he1 he2 he3 hs1 hs2 hs3 hop hDl hpg hdk hvp hvD hLD hMn hFr hAD hDd hDA hDn hMD hK hD hS hfb hR0 hs0 hXl hX
    by_cases h1 : ¬ e1 = 0
    · have hop := HOP.out
      rw [if_pos h1] at hop
      have HO := Lib.hid hop
      have d1 : (e1 != 0) = true := by simpa using h1
      have H1 := Lib.hid h1
      clear hop HOP h1
      gi_wp2
      refine ⟨trivial, (callsIn_wide.2 HC1.out).mono ?_⟩
      rintro e w2 ⟨rfl, k1, k2⟩
      have hK2 := keepK.out w2 k2
      have HL2 := Lib.hid ((HLD.out.disk k1 k2).put HDN.out.2.2 HMD.out (.deferred none))
      have HF2 := Lib.hid (Fr.putObj (HFR.out.trans (k2.mono HDA.out)) HAD.out (.deferred none))
      clear k1 k2
      gi_wp2
      refine ⟨by simp, .inl ⟨_, _, rfl, run_takeDeferred hK2, ?_⟩⟩
      refine ⟨_, results_tmp2 rfl _ _ _, ?_⟩
      unfold OpenPost
      rw [HO.out]
      exact ⟨Dd, HDA.out, HL2.out.dsk, HF2.out, fun h => absurd h H1.out, fun _ => rfl⟩
    have h1 : e1 = 0 := Decidable.not_not.1 h1
    have hop := HOP.out
    rw [if_neg (fun h => h h1)] at hop
    clear HOP
    have HOP := Lib.hid hop
    clear hop
    subst h1
    by_cases h2 : ¬ e2 = 0
    · have hop := HOP.out
      rw [if_pos h2] at hop
      have HO := Lib.hid hop
      have d2 : (e2 != 0) = true := by simpa using h2
      have H2 := Lib.hid h2
      clear hop HOP h2
      gi_wp2
      refine ⟨trivial, (callsIn_wide.2 HC1.out).mono ?_⟩
      rintro e w2 ⟨rfl, k1, k2⟩
      have K1 := Lib.hid k1
      have K2 := Lib.hid k2
      clear k1 k2
      gi_wp2
      refine ⟨trivial, (callsIn_wide.2 (HC2.out _ K1.out)).mono ?_⟩
      rintro e w3 ⟨rfl, k1, k2⟩
      have hK2 := keepK.out w3 (K2.out.trans k2)
      have HL2 := Lib.hid ((HLD.out.disk k1 (K2.out.trans k2)).put HDN.out.2.2 HMD.out (.deferred none))
      have HF2 := Lib.hid (Fr.putObj (HFR.out.trans ((K2.out.trans k2).mono HDA.out)) HAD.out (.deferred none))
      clear k1 k2
      gi_wp2
      refine ⟨by simp, .inl ⟨_, _, rfl, run_takeDeferred hK2, ?_⟩⟩
      refine ⟨_, results_tmp2 rfl _ _ _, ?_⟩
      unfold OpenPost
      rw [HO.out]
      exact ⟨Dd, HDA.out, HL2.out.dsk, HF2.out, fun h => absurd h H2.out, fun _ => rfl⟩
    have h2 : e2 = 0 := Decidable.not_not.1 h2
    have hop := HOP.out
    rw [if_neg (fun h => h h2)] at hop
    clear HOP
    have HOP := Lib.hid hop
    clear hop
    subst h2
    by_cases h3 : ¬ e3 = 0
    · have d3 : (e3 != 0) = true := by simpa using h3
      have H3 := Lib.hid h3
      clear h3
      gi_wp2
      refine ⟨trivial, (callsIn_wide.2 HC1.out).mono ?_⟩
      rintro e w2 ⟨rfl, k1, k2⟩
      have K1 := Lib.hid k1
      have K2 := Lib.hid k2
      clear k1 k2
      gi_wp2
      refine ⟨trivial, (callsIn_wide.2 (HC2.out _ K1.out)).mono ?_⟩
      rintro e w3 ⟨rfl, k1, k2⟩
      have J1 := Lib.hid k1
      have J2 := Lib.hid (K2.out.trans k2)
      clear k1 k2
      gi_wp2
      refine ⟨trivial, (callsIn_wide.2 (HC3.out _ J1.out)).mono ?_⟩
      rintro e w4 ⟨rfl, k1, k2⟩
      have hK2 := keepK.out w4 (J2.out.trans k2)
      have HL2 := Lib.hid ((HLD.out.disk k1 (J2.out.trans k2)).put HDN.out.2.2 HMD.out (.deferred none))
      have HF2 := Lib.hid (Fr.putObj (HFR.out.trans ((J2.out.trans k2).mono HDA.out)) HAD.out (.deferred none))
      clear k1 k2
      gi_wp2
      refine ⟨by simp, .inl ⟨_, _, rfl, run_takeDeferred hK2, ?_⟩⟩
      refine ⟨_, results_tmp2 rfl _ _ _, ?_⟩
      unfold OpenPost
      rw [HOP.out]
      exact ⟨Dd, HDA.out, HL2.out.dsk, HF2.out, fun h => absurd h H3.out, fun _ => rfl⟩
    have h3 : e3 = 0 := Decidable.not_not.1 h3
    subst h3
    gi_wp2
    refine ⟨trivial, (callsIn_wide.2 HC1.out).mono ?_⟩
    rintro e w2 ⟨rfl, k1, k2⟩
    have K1 := Lib.hid k1
    have K2 := Lib.hid k2
    clear k1 k2
    gi_wp2
    refine ⟨trivial, (callsIn_wide.2 (HC2.out _ K1.out)).mono ?_⟩
    rintro e w3 ⟨rfl, k1, k2⟩
    have J1 := Lib.hid k1
    have J2 := Lib.hid (K2.out.trans k2)
    clear k1 k2
    gi_wp2
    refine ⟨trivial, (callsIn_wide.2 (HC3.out _ J1.out)).mono ?_⟩
    rintro e w4 ⟨rfl, k1, k2⟩
    have hK2 := keepK.out w4 (J2.out.trans k2)
    have hq2 := keepQ.out w4 (J2.out.trans k2)
    have HL2 := Lib.hid ((HLD.out.disk k1 (J2.out.trans k2)).put HDN.out.2.2 HMD.out (.deferred none))
    have HF2 := Lib.hid (Fr.putObj (HFR.out.trans ((J2.out.trans k2).mono HDA.out)) HAD.out (.deferred none))
    clear k1 k2
    gi_wp2
    refine ⟨by simp, .inl ⟨_, _, rfl, run_takeDeferred hK2, ?_⟩⟩
    refine ⟨_, results_tmp2 rfl _ _ _, ?_⟩
    unfold OpenPost
    rw [HOP.out]
    exact ⟨Dd, HDA.out, HL2.out.dsk, HF2.out, fun _ => ⟨p, _, rfl, HL2.out, HMN.out⟩, fun h => absurd rfl h⟩
  case stop =>
    rintro D c pre W _ _ h _
    exact h.elim
end
end Go.Proofs.Ytdjchpejhfkknaa.Lw
