/- The examples that each law of date checks first are right. Conditions: the listed variables hold what the text gives them. -/
import Derived.Test.YtanjkjendppigaaDoorDIn
namespace Go.Proofs.YtanjkjendppigaaDoor.Dy
open Go.RowKit Cal
set_option linter.unusedVariables false
set_option maxRecDepth 100000

theorem isParse_of {l : Bs} {v : Value} {t : Nat} (ht : t ≤ 16777216) (h : text t = l) (hp : IsParse l v) : v = .tuple #[.int .i64 ((t : Nat) : Int), .bool true] := by
  rcases hp with ⟨t', h1, h2, rfl⟩ | ⟨h1, _⟩
  · rw [text_inj h1 ht (h2.trans h.symm)]
  · exact absurd h (h1 t ht)
def ex : Bs := [50, 48, 48, 48, 45, 48, 49, 45, 48, 50, 32, 48, 53, 104]
theorem date29 : dateOf 29 = ⟨2000, 1, 2, 5⟩ := by
  have h : hourOf 2000 1 2 5 = 29 := by decide
  rw [← h]
  exact dateOf_hourOf ⟨by decide, by decide, by decide, by decide, by decide, by decide⟩
theorem text29 : text 29 = ex := by
  unfold text
  rw [date29]
  decide
theorem date1421 : dateOf 1421 = ⟨2000, 2, 29, 5⟩ := by
  have h : hourOf 2000 2 29 5 = 1421 := by decide
  rw [← h]
  exact dateOf_hourOf ⟨by decide, by decide, by decide, by decide, by decide, by decide⟩
theorem hour2001 : hourV 2001 1 1 0 = .tuple #[.int .i64 8784, .bool true] := by
  have h1 : okI 2001 1 1 0 := by unfold okI lenI leapI; decide
  have h2 : hourOf 2001 1 1 0 = 8784 := by decide
  rw [hourV_some h1]
  show Value.tuple #[.int .i64 ((hourOf 2001 1 1 0 : Nat) : Int), .bool true] = _
  rw [h2]
  rfl
theorem in229 : inB 2 29 1101 331 = true := by decide
abbrev Ret (v : Value) (w : World) (e : Ending) (w' : World) : Prop := e = .returned v ∧ Below w.heap.size w w'
set_option maxHeartbeats 4000000 in
theorem small_any (w : World) (hW : Wd w) : Calls Tryd.prog 9 #[] w (Ret (.bool true) w) := by
  have HO := Lib.hid (of_any 1421 w hW)
  have hof : ofV 1421 = .tuple #[dv 2000 2 29 5, .bool true] := by rw [ofV_good (by decide)]; show Value.tuple #[dtv (dateOf 1421), _] = _; rw [date1421]; rfl
  rw [hof] at HO
  have HH := Lib.hid (fun W hW => hour_any 2001 1 1 0 W hW)
  rw [hour2001] at HH
  have HP := Lib.hid (fun W hW => parse_any ex (by decide) W hW)
  have HT := Lib.hid (fun W hW => text_any 29 W hW)
  have htb : textB 29 = ex := by unfold textB; rw [if_pos (by decide)]; exact text29
  rw [htb] at HT
  have HI := Lib.hid (fun W hW => in_any 2000 2 29 5 1101 331 ⟨by decide, by decide⟩ ⟨by decide, by decide⟩ W hW)
  rw [in229] at HI
  have HD := Lib.hid (fun W => day_any 25 W)
  have hd1 : dayI 25 = 1 := by decide
  rw [hd1] at HD
  have HWD := Lib.hid hW
  unfold dv at *
  have hsv : sv ex = ⟨#[50, 48, 48, 48, 45, 48, 49, 45, 48, 50, 32, 48, 53, 104]⟩ := rfl
  rw [hsv] at HP HT
  have HPV := Lib.hid (fun v => isParse_of (v := v) (show 29 ≤ 16777216 by decide) text29)
  clear hof htb hd1 hsv hW
  go_enter Tryd.func9, Tryd.ntmps9
  go_wp2_with fail
  refine (HO.out).mono ?_
  rintro e w1 ⟨rfl, hb⟩
  have HB1 := Lib.hid hb
  have HK := Lib.hid (Blk.new w1 23 #[.int .i64 2000, .int .i64 2, .int .i64 29, .int .i64 5])
  have HB2 := Lib.hid (below_trans hb (below_alloc w1 (.cells #[.int .i64 2000, .int .i64 2, .int .i64 29, .int .i64 5] 23)))
  clear hb
  go_wp2_with fail
  --GG
  refine (HH.out _ (HWD.out.below HB2.out)).mono ?_
  rintro e w2 ⟨rfl, hb⟩
  have HK2 := Lib.hid (HK.out.below hb (Nat.le_refl _))
  have HB3 := Lib.hid (below_trans HB2.out hb)
  clear hb
  generalize w1.heap.size = g at *
  go_wp2_with fail
  refine (HP.out _ (HWD.out.below HB3.out)).mono ?_
  rintro e w3 ⟨v, rfl, hv, hb⟩
  obtain rfl := HPV.out v hv
  have HK3 := Lib.hid (HK2.out.below hb (Nat.le_refl _))
  have HB4 := Lib.hid (below_trans HB3.out hb)
  clear hb hv
  have c0 := HK3.out.cell 0
  have c1 := HK3.out.cell 1
  have c2 := HK3.out.cell 2
  have c3 := HK3.out.cell 3
  go_wp2_with fail
  refine (HT.out _ (HWD.out.below HB4.out)).mono ?_
  rintro e w4 ⟨rfl, hb⟩
  have HK4 := Lib.hid (HK3.out.below hb (Nat.le_refl _))
  have HB5 := Lib.hid (below_trans HB4.out hb)
  clear hb c0 c1 c2 c3
  have c0 := HK4.out.cell 0
  have c1 := HK4.out.cell 1
  have c2 := HK4.out.cell 2
  have c3 := HK4.out.cell 3
  go_wp2_with fail
  refine (HI.out _ (HWD.out.below HB5.out)).mono ?_
  rintro e w5 ⟨rfl, hb⟩
  have HB6 := Lib.hid (below_trans HB5.out hb)
  clear hb c0 c1 c2 c3
  go_wp2_with fail
  refine (HD.out _).mono ?_
  rintro e w6 ⟨rfl, rfl⟩
  go_wp2_with fail
  go_ret
  exact ⟨rfl, HB6.out⟩
end Go.Proofs.YtanjkjendppigaaDoor.Dy
