/- sign.hash, exponent, residue, nonce and challenge: what they return is that of the plain mathematics. Conditions: the texts have at most 2000 bytes together; the listed variables hold what they are laid with, and the library's own variable holds some int. -/
import Derived.Test.YtfmjankmfddefaaDoorSMath
import Derived.Lib.Join
namespace Go.Proofs.YtfmjankmfddefaaDoor.Sg
set_option linter.unusedVariables false
open Go.RowKit Gp Gp.Grp Wr.Wm

open Dg (sv)
theorem sv_eq (l : Bs) : Wr.sv l = sv l := rfl
/-- What the calls ask of the world. -/
def Wd (w : World) : Prop := Dg.Tb w ∧ Wr.Mx w
theorem Wd.below {w w' : World} (h : Wd w) (hb : Below w.heap.size w w') : Wd w' := ⟨h.1.below hb (Nat.le_refl _), h.2.self hb⟩
theorem below_trans {w w' w'' : World} (h : Below w.heap.size w w') (h' : Below w'.heap.size w' w'') : Below w.heap.size w w'' := h.trans (h'.mono h.size)
theorem below_drewN (w : World) (k : Nat) : Below w.heap.size w (w.drewN k) := ⟨rfl, rfl, rfl, Nat.le_refl _, fun _ _ => rfl⟩
theorem below_alloc (w : World) (o : Obj) : Below w.heap.size w (w.alloc o) := (Below.refl _ _).alloc (Nat.le_refl _) _
/-- What a call that only makes new blocks leaves. -/
def Ret (v : Value) (w : World) (e : Ending) (w' : World) : Prop := e = .returned v ∧ Below w.heap.size w w'
theorem ret_drew {v : Value} {w : World} {e : Ending} {w' : World} (h : e = .returned v ∧ ∃ n, w' = w.drewN n) : Ret v w e w' := by
  obtain ⟨h1, n, rfl⟩ := h
  exact ⟨h1, below_drewN w n⟩
theorem ret_same {v : Value} {w : World} {e : Ending} {w' : World} (h : e = .returned v ∧ w' = w) : Ret v w e w' := by
  obtain ⟨h1, rfl⟩ := h
  exact ⟨h1, Below.refl _ _⟩
theorem join_flat (L : List Bs) : Lib.join L [] = L.flatten := by
  cases L with
  | nil => rfl
  | cons x r =>
    rw [Lib.join_cons]
    congr 1
    induction r with
    | nil => rfl
    | cons y r ih => simp [Lib.joinTail] at ih ⊢

set_option maxHeartbeats 2000000 in
set_option maxRecDepth 100000 in
theorem hash_any (L : List Bs) (n bk c : Nat) (hn : L.length = n) (hl : L.flatten.length ≤ 1000000) (hcap : n ≤ c) (hn2 : n ≤ 1000) (w : World) (hw : Wd w)
    (hcells : ∀ (j : Nat) x, L[j]? = some x → w.cell? ⟨bk, 0 + j, none⟩ = some (.string (sv x))) (hbk : bk < w.heap.size) :
    Calls Tryd.prog 27 #[.slice (some ⟨bk, 0, none⟩) n c] w (Ret (.int .i64 (hs L.flatten)) w) := by
  have e1 : (L.map sv).map (·.data.toList) = L := by rw [List.map_map]; exact List.map_id'' (fun x => Dg.sv_list x) L
  have J := Tryd.strings_Join bk 0 c (L.map sv) ⟨#[]⟩ w (by
    intro j x hx
    rw [List.getElem?_map] at hx
    obtain ⟨y, hy, rfl⟩ := Option.map_eq_some_iff.1 hx
    exact hcells j y hy) hbk (by rw [List.length_map]; omega) (by rw [List.length_map]; omega) (by rw [e1]; show (Lib.join L []).length ≤ _; rw [join_flat]; omega)
  rw [e1, List.length_map, hn] at J
  have J2 : Calls Tryd.prog 46 #[.slice (some ⟨bk, 0, none⟩) n c, .string ⟨#[]⟩] w fun e w' => e = .returned (.string (sv L.flatten)) ∧ Below w.heap.size w w' := by
    refine J.mono ?_
    rintro e w' ⟨rfl, hb⟩
    refine ⟨?_, hb⟩
    show Ending.returned (.string ⟨(Lib.join L []).toArray⟩) = _
    rw [join_flat]; rfl
  have S := Lib.hid (fun W (h : Dg.Tb W) => Dg.short_any L.flatten (by omega) W h)
  have HW := Lib.hid hw
  have JJ := Lib.hid J2
  clear J J2 e1 hcells hw hn hl
  show Calls Tryd.prog 27 #[.slice (some ⟨bk, 0, none⟩) n c] w (Ret (.int .i64 (Dg.shortN L.flatten : Nat)) w)
  generalize Dg.shortN L.flatten = N at *
  generalize sv L.flatten = F at *
  go_enter Tryd.func27, Tryd.ntmps27
  go_wp2_with fail
  refine JJ.out.mono ?_
  rintro e w1 ⟨rfl, hb1⟩
  go_wp2_with fail
  refine (S.out _ (HW.out.below hb1).1).mono ?_
  rintro e w2 ⟨rfl, hb2⟩
  have HB := Lib.hid (below_trans hb1 hb2)
  clear hb1 hb2
  go_wp2_with fail
  go_ret
  exact ⟨rfl, HB.out⟩
theorem cells_new (L : List Bs) (t : TypeId) (w : World) (j : Nat) (x : Bs) (h : L[j]? = some x) :
    (w.alloc (.cells (L.map fun x => Value.string (sv x)).toArray t)).cell? ⟨w.heap.size, 0 + j, none⟩ = some (.string (sv x)) := by
  rw [Nat.zero_add, (Dg.Blk.new w t _).cell j, List.getElem?_toArray, List.getElem?_map, h]; rfl
theorem hash_new (L : List Bs) (n : Nat) (hn : L.length = n) (hl : L.flatten.length ≤ 1000000) (hn2 : n ≤ 1000) (t : TypeId) (w : World) (hw : Wd w) :
    Calls Tryd.prog 27 #[.slice (some ⟨w.heap.size, 0, none⟩) n n] (w.alloc (.cells (L.map fun x => Value.string (sv x)).toArray t)) (Ret (.int .i64 (hs L.flatten)) w) := by
  have hb := below_alloc w (.cells (L.map fun x => Value.string (sv x)).toArray t)
  refine (hash_any L n w.heap.size n hn hl (Nat.le_refl _) hn2 _ (hw.below hb) (fun j x h => cells_new L t w j x h) (by simp)).mono ?_
  rintro e w' ⟨rfl, h⟩
  exact ⟨rfl, below_trans hb h⟩
theorem hash4 (A B C D T : Bs) (hT : A ++ B ++ C ++ D = T) (hl : T.length ≤ 1000000) (t : TypeId) (w : World) (hw : Wd w) :
    Calls Tryd.prog 27 #[.slice (some ⟨w.heap.size, 0, none⟩) 4 4] (w.alloc (.cells #[.string (sv A), .string (sv B), .string (sv C), .string (sv D)] t)) (Ret (.int .i64 (hs T)) w) := by
  have e : [A, B, C, D].flatten = T := by rw [← hT]; simp
  rw [← e] at hl ⊢
  exact hash_new [A, B, C, D] 4 rfl hl (by decide) t w hw
theorem hash5 (A B C D E T : Bs) (hT : A ++ B ++ C ++ D ++ E = T) (hl : T.length ≤ 1000000) (t : TypeId) (w : World) (hw : Wd w) :
    Calls Tryd.prog 27 #[.slice (some ⟨w.heap.size, 0, none⟩) 5 5] (w.alloc (.cells #[.string (sv A), .string (sv B), .string (sv C), .string (sv D), .string (sv E)] t)) (Ret (.int .i64 (hs T)) w) := by
  have e : [A, B, C, D, E].flatten = T := by rw [← hT]; simp
  rw [← e] at hl ⊢
  exact hash_new [A, B, C, D, E] 5 rfl hl (by decide) t w hw
theorem hash2 (A B T : Bs) (hT : A ++ B = T) (hl : T.length ≤ 1000000) (t : TypeId) (w : World) (hw : Wd w) :
    Calls Tryd.prog 27 #[.slice (some ⟨w.heap.size, 0, none⟩) 2 2] (w.alloc (.cells #[.string (sv A), .string (sv B)] t)) (Ret (.int .i64 (hs T)) w) := by
  have e : [A, B].flatten = T := by rw [← hT]; simp
  rw [← e] at hl ⊢
  exact hash_new [A, B] 2 rfl hl (by decide) t w hw
theorem exponent_any (h : Int) (h0 : 0 ≤ h) (w : World) : Calls Tryd.prog 26 #[.int .i64 h] w (Ret (.int .i64 (exn h)) w) := by
  have m1 : Int.tmod h 1152921504606845788 = h % 1152921504606845788 := Int.tmod_eq_emod_of_nonneg h0
  have m2 : wrap64 (1 + h % 1152921504606845788) = exn h := by have := exn_bd h; unfold exn at *; unfold wrap64; omega
  have M2 := Lib.hid m2
  clear m2
  go_enter Tryd.func26, Tryd.ntmps26
  go_wp2_with fail
  go_ret
  exact ⟨rfl, Below.refl _ _⟩
theorem residue_t {n : Int} (h : inR n = true) (w : World) : Calls Tryd.prog 31 #[.int .i64 n] w (Ret (.bool true) w) := by
  rw [inR_iff] at h
  have d1 : decide ((0 : Int) ≤ n) = true := decide_eq_true h.1
  have d2 : decide (n < (1152921504606845789 : Int)) = true := decide_eq_true h.2
  clear h
  go_enter Tryd.func31, Tryd.ntmps31
  go_wp2_with fail
  go_ret
  exact ⟨rfl, Below.refl _ _⟩
theorem residue_f {n : Int} (h : inR n = false) (w : World) : Calls Tryd.prog 31 #[.int .i64 n] w (Ret (.bool false) w) := by
  by_cases h0 : 0 ≤ n
  · have d1 : decide ((0 : Int) ≤ n) = true := decide_eq_true h0
    have d2 : decide (n < (1152921504606845789 : Int)) = false := decide_eq_false fun h1 => by rw [(inR_iff n).2 ⟨h0, h1⟩] at h; cases h
    clear h h0
    go_enter Tryd.func31, Tryd.ntmps31
    go_wp2_with fail
    go_ret
    exact ⟨rfl, Below.refl _ _⟩
  · have d1 : decide ((0 : Int) ≤ n) = false := decide_eq_false h0
    clear h h0
    go_enter Tryd.func31, Tryd.ntmps31
    go_wp2_with fail
    go_ret
    exact ⟨rfl, Below.refl _ _⟩
theorem residue_any (n : Int) (w : World) : Calls Tryd.prog 31 #[.int .i64 n] w (Ret (.bool (inR n)) w) := by
  by_cases h : inR n = true
  · rw [h]; exact residue_t h w
  · rw [Bool.eq_false_iff.2 h]; exact residue_f (Bool.eq_false_iff.2 h) w

theorem text_c (s : Bs) (hs : s.length ≤ 2000) (w : World) (hw : Wd w) : Calls Tryd.prog 28 #[.string (sv s)] w (Ret (.string (sv (encT s))) w) := Wr.text_any s (by omega) hw.2
theorem num_c (n : Int) (h0 : 0 ≤ n) (h1 : n < 2305843009213691579) (w : World) (hw : Wd w) : Calls Tryd.prog 51 #[.int .i64 n] w (Ret (.string (sv (encI n))) w) := Wr.num_pos n h0 (by unfold J64; omega) w

set_option maxHeartbeats 2000000 in
set_option maxRecDepth 100000 in
theorem nonce_any (x : Int) (c m : Bs) (h0 : 0 ≤ x) (h1 : x < 2305843009213691579) (hl : c.length + m.length ≤ 2000) (w : World) (hw : Wd w) :
    Calls Tryd.prog 33 #[.int .i64 x, .string (sv c), .string (sv m)] w (Ret (.int .i64 (nonS x c m)) w) := by
  have T1 := Lib.hid (text_c [110, 111, 110, 99, 101] (by decide))
  have T2 := Lib.hid (num_c x h0 h1)
  have T3 := Lib.hid (text_c c (by omega))
  have T4 := Lib.hid (text_c m (by omega))
  have H := Lib.hid (hash4 (encT [110, 111, 110, 99, 101]) (encI x) (encT c) (encT m) (nonT x c m) rfl (by have := nonT_le x c m hl; omega))
  have X := Lib.hid (exponent_any (hs (nonT x c m)) (hs_bd _).1)
  have HW := Lib.hid hw
  show Calls Tryd.prog 33 #[.int .i64 x, .string (sv c), .string (sv m)] w (Ret (.int .i64 (exn (hs (nonT x c m)))) w)
  generalize hs (nonT x c m) = h at *
  generalize exn h = N at *
  generalize encT [110, 111, 110, 99, 101] = A at *
  generalize encI x = B at *
  generalize encT c = C at *
  generalize encT m = D at *
  clear hw hl h0 h1
  go_enter Tryd.func33, Tryd.ntmps33
  go_wp2_with fail
  refine (T1.out _ HW.out).mono ?_
  rintro e w1 ⟨rfl, hb1⟩
  have B1 := Lib.hid hb1
  clear hb1 T1
  go_wp2_with fail
  refine (T2.out _ (HW.out.below B1.out)).mono ?_
  rintro e w2 ⟨rfl, hb⟩
  have B2 := Lib.hid (below_trans B1.out hb)
  clear hb B1 T2
  go_wp2_with fail
  refine (T3.out _ (HW.out.below B2.out)).mono ?_
  rintro e w3 ⟨rfl, hb⟩
  have B3 := Lib.hid (below_trans B2.out hb)
  clear hb B2 T3
  go_wp2_with fail
  refine (T4.out _ (HW.out.below B3.out)).mono ?_
  rintro e w4 ⟨rfl, hb⟩
  have B4 := Lib.hid (below_trans B3.out hb)
  clear hb B3 T4
  go_wp2_with fail
  refine (H.out _ _ (HW.out.below B4.out)).mono ?_
  rintro e w5 ⟨rfl, hb⟩
  have B5 := Lib.hid (below_trans B4.out hb)
  clear hb B4 H
  go_wp2_with fail
  refine (X.out _).mono ?_
  rintro e w6 ⟨rfl, hb⟩
  have B6 := Lib.hid (below_trans B5.out hb)
  clear hb B5 X
  go_wp2_with fail
  go_ret
  exact ⟨rfl, B6.out⟩
set_option maxHeartbeats 2000000 in
set_option maxRecDepth 100000 in
theorem challenge_any (r y : Int) (c m : Bs) (r0 : 0 ≤ r) (r1 : r < 2305843009213691579) (h0 : 0 ≤ y) (h1 : y < 2305843009213691579) (hl : c.length + m.length ≤ 2000) (w : World) (hw : Wd w) :
    Calls Tryd.prog 34 #[.int .i64 r, .int .i64 y, .string (sv c), .string (sv m)] w (Ret (.int .i64 (chS r y c m)) w) := by
  have T1 := Lib.hid (text_c [115, 105, 103, 110] (by decide))
  have T2 := Lib.hid (num_c r r0 r1)
  have T3 := Lib.hid (num_c y h0 h1)
  have T4 := Lib.hid (text_c c (by omega))
  have T5 := Lib.hid (text_c m (by omega))
  have H := Lib.hid (hash5 (encT [115, 105, 103, 110]) (encI r) (encI y) (encT c) (encT m) (chT r y c m) rfl (by have := chT_le r y c m hl; omega))
  have HW := Lib.hid hw
  have h2 := (hs_bd (chT r y c m)).1
  show Calls Tryd.prog 34 #[.int .i64 r, .int .i64 y, .string (sv c), .string (sv m)] w (Ret (.int .i64 (hs (chT r y c m) % 1152921504606845789)) w)
  generalize hs (chT r y c m) = h at *
  have m1 : Int.tmod h 1152921504606845789 = h % 1152921504606845789 := Int.tmod_eq_emod_of_nonneg h2
  obtain ⟨z, hz⟩ : ∃ z, h % 1152921504606845789 = z := ⟨_, rfl⟩
  rw [hz] at m1 ⊢
  clear hw hl h0 h1 r0 r1 h2 hz
  generalize encT [115, 105, 103, 110] = A at *
  generalize encI r = B at *
  generalize encI y = C at *
  generalize encT c = D at *
  generalize encT m = E at *
  go_enter Tryd.func34, Tryd.ntmps34
  go_wp2_with fail
  refine (T1.out _ HW.out).mono ?_
  rintro e w1 ⟨rfl, hb⟩
  have B1 := Lib.hid hb
  clear hb T1
  go_wp2_with fail
  refine (T2.out _ (HW.out.below B1.out)).mono ?_
  rintro e w2 ⟨rfl, hb⟩
  have B2 := Lib.hid (below_trans B1.out hb)
  clear hb B1 T2
  go_wp2_with fail
  refine (T3.out _ (HW.out.below B2.out)).mono ?_
  rintro e w3 ⟨rfl, hb⟩
  have B3 := Lib.hid (below_trans B2.out hb)
  clear hb B2 T3
  go_wp2_with fail
  refine (T4.out _ (HW.out.below B3.out)).mono ?_
  rintro e w4 ⟨rfl, hb⟩
  have B4 := Lib.hid (below_trans B3.out hb)
  clear hb B3 T4
  go_wp2_with fail
  refine (T5.out _ (HW.out.below B4.out)).mono ?_
  rintro e w5 ⟨rfl, hb⟩
  have B5 := Lib.hid (below_trans B4.out hb)
  clear hb B4 T5
  go_wp2_with fail
  refine (H.out _ _ (HW.out.below B5.out)).mono ?_
  rintro e w6 ⟨rfl, hb⟩
  have B6 := Lib.hid (below_trans B5.out hb)
  clear hb B5 H
  go_wp2_with fail
  go_ret
  exact ⟨rfl, B6.out⟩
end Go.Proofs.YtfmjankmfddefaaDoor.Sg
