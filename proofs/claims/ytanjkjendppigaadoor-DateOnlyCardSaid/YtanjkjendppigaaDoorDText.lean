/- Text gives the text of an hour. Conditions: the listed variables hold what the text gives them. -/
import Derived.Test.YtanjkjendppigaaDoorDDig
import Derived.Deep.RegionHeld3
namespace Go.Proofs.YtanjkjendppigaaDoor.Dy
open Go.RowKit Cal
set_option linter.unusedVariables false
set_option maxRecDepth 100000

theorem hide_world {P : Program} {C : Code} {Q : Exit → Act → World → Prop} {a : Act} {W : World} {X : World → Prop} (hX : X W) (h : ∀ W, X W → C.wp P Q a W) : C.wp P Q a W := h W hX
theorem Wd.drew {w : World} (h : Wd w) : Wd w.drew := h.below (below_self w).drew
def textB (h : Int) : Bs := if isH h then text h.toNat else []
theorem text_bad (h : Int) (hh : isH h = false) (w : World) (hW : Wd w) : Calls Tryd.prog 18 #[.int .i64 h] w fun e w' => e = .returned (.string (sv (textB h))) ∧ Below w.heap.size w w' := by
  have HO := Lib.hid (of_any h w hW)
  rw [ofV_bad hh] at HO
  have hr : sv (textB h) = ⟨#[]⟩ := by unfold textB; rw [if_neg (by rw [hh]; decide)]; rfl
  rw [hr]
  clear hr hh hW
  unfold dv at *
  go_enter Tryd.func18, Tryd.ntmps18
  go_wp2_with fail
  refine (HO.out).mono ?_
  rintro e w2 ⟨rfl, hb⟩
  have HB := Lib.hid hb
  clear hb
  go_wp2_with fail
  go_ret
  exact ⟨rfl, below_trans HB.out (below_alloc _ _)⟩
theorem cat7 (Y M D H : Bs) : sv Y ++ ByteArray.mk #[45] ++ sv M ++ ByteArray.mk #[45] ++ sv D ++ ByteArray.mk #[32] ++ sv H ++ ByteArray.mk #[104] = sv (Y ++ (45 :: (M ++ (45 :: (D ++ (32 :: (H ++ [104]))))))) := by
  apply sv_ext
  simp [sv]
set_option maxHeartbeats 2000000 in
theorem text_good (t : Nat) (ht : t ≤ 16777216) (w : World) (hW : Wd w) : Calls Tryd.prog 18 #[.int .i64 (t : Int)] w fun e w' => e = .returned (.string (sv (text t))) ∧ Below w.heap.size w w' := by
  have HO := Lib.hid (of_good t ht w hW)
  obtain ⟨s1, s2, s3, s4⟩ := dateOf_small ht
  have hy1 := (dateOf_ok t).y0
  have hy2 := dateOf_year ht
  have HRES := Lib.hid (show text t = (d2 ((dateOf t).y / 100) ++ d2 ((dateOf t).y % 100)) ++ (45 :: (d2 (dateOf t).m ++ (45 :: (d2 (dateOf t).d ++ (32 :: (d2 (dateOf t).h ++ [104])))))) by unfold text txt; simp)
  unfold dtv dv at HO
  generalize (dateOf t).y = y at *
  generalize (dateOf t).m = m at *
  generalize (dateOf t).d = d at *
  generalize (dateOf t).h = h at *
  have HF := Lib.hid (fun W hW => digits_four y (by omega) (by omega) W hW)
  have HM := Lib.hid (fun W hW => digits_two m s2 W hW)
  have HD := Lib.hid (fun W hW => digits_two d s3 W hW)
  have HH := Lib.hid (fun W hW => digits_two h s4 W hW)
  have z1 : (sv (d2 (y / 100) ++ d2 (y % 100))).size = 4 := rfl
  have z2 : (sv (d2 m)).size = 2 := rfl
  have z3 : (sv (d2 d)).size = 2 := rfl
  have z4 : (sv (d2 h)).size = 2 := rfl
  generalize d2 (y / 100) ++ d2 (y % 100) = Y2 at *
  generalize d2 m = M2 at *
  generalize d2 d = D2 at *
  generalize d2 h = H2 at *
  rw [HRES.out, ← cat7]
  generalize sv Y2 = YS at *
  generalize sv M2 = MS at *
  generalize sv D2 = DS at *
  generalize sv H2 = HS at *
  generalize ((y : Nat) : Int) = yi at *
  generalize ((m : Nat) : Int) = mi at *
  generalize ((d : Nat) : Int) = di at *
  generalize ((h : Nat) : Int) = hi at *
  have HWD := Lib.hid hW
  clear hW s1 s2 s3 s4 hy1 hy2 HRES
  go_enter Tryd.func18, Tryd.ntmps18
  go_wp2_with fail
  refine (HO.out).mono ?_
  rintro e w2 ⟨rfl, hb⟩
  have HB := Lib.hid hb
  clear hb
  go_wp2_with fail
  refine hide_world (X := fun W => W.cell? ⟨w2.heap.size, 0, none⟩ = some (.int .i64 yi) ∧ W.cell? ⟨w2.heap.size, 1, none⟩ = some (.int .i64 mi) ∧ W.cell? ⟨w2.heap.size, 2, none⟩ = some (.int .i64 di) ∧ W.cell? ⟨w2.heap.size, 3, none⟩ = some (.int .i64 hi) ∧ Below w.heap.size w W ∧ Wd W) ?_ ?_
  · have hb := Blk.new w2 23 #[.int .i64 yi, .int .i64 mi, .int .i64 di, .int .i64 hi]
    have hbb := below_trans HB.out (below_alloc w2 (.cells #[.int .i64 yi, .int .i64 mi, .int .i64 di, .int .i64 hi] 23))
    exact ⟨hb.cell 0, hb.cell 1, hb.cell 2, hb.cell 3, hbb, HWD.out.below hbb⟩
  generalize w2.heap.size = g
  rintro W3 ⟨e0, e1, e2, e3, e4, e5⟩
  clear HB HO HWD
  go_region_held3 (fun W => W.cell? ⟨g, 0, none⟩ = some (.int .i64 yi) ∧ W.cell? ⟨g, 1, none⟩ = some (.int .i64 mi) ∧ W.cell? ⟨g, 2, none⟩ = some (.int .i64 di) ∧ W.cell? ⟨g, 3, none⟩ = some (.int .i64 hi) ∧ Below w.heap.size w W ∧ Wd W)
    (((try dsimp only); (try go_split_ands); (repeat' apply And.intro); all_goals (first | assumption | exact cell_below (by assumption) (by assumption) | exact Wd.below (by assumption) (by assumption) | exact below_trans (by assumption) (by assumption) | exact Below.drew (by assumption) | exact Wd.drew (by assumption) | go_keep)))
    ((first
      | (go_at_call 33; with_reducible refine (HF.out _ ?_).mono ?_; (go_split_ands; assumption); rintro e w10 ⟨rfl, hb10⟩)
      | (go_at_call 33; with_reducible refine (HM.out _ ?_).mono ?_; (go_split_ands; assumption); rintro e w10 ⟨rfl, rfl⟩)
      | (go_at_call 33; with_reducible refine (HD.out _ ?_).mono ?_; (go_split_ands; assumption); rintro e w10 ⟨rfl, rfl⟩)
      | (go_at_call 33; with_reducible refine (HH.out _ ?_).mono ?_; (go_split_ands; assumption); rintro e w10 ⟨rfl, rfl⟩)))
  go_wp2_with fail
  go_ret
  go_split_ands
  exact ⟨rfl, by assumption⟩
theorem text_any (h : Int) (w : World) (hW : Wd w) : Calls Tryd.prog 18 #[.int .i64 h] w fun e w' => e = .returned (.string (sv (textB h))) ∧ Below w.heap.size w w' := by
  by_cases hh : isH h = true
  · obtain ⟨h1, h2⟩ := isH_of hh
    have hr : textB h = text h.toNat := by unfold textB; rw [if_pos hh]
    rw [hr]
    obtain ⟨t, rfl⟩ : ∃ t : Nat, h = (t : Int) := ⟨h.toNat, by omega⟩
    exact text_good t (by omega) w hW
  · exact text_bad h (by simpa using hh) w hW
end Go.Proofs.YtanjkjendppigaaDoor.Dy
