/- Of gives the date of an hour: its code and the reference's. Conditions: the listed variables hold what the text gives them. -/
import Derived.Test.YtanjkjendppigaaDoorDFun
import Derived.Deep.WholeRow
namespace Go.Proofs.YtanjkjendppigaaDoor.Dy
open Go.RowKit Cal
set_option linter.unusedVariables false
set_option maxRecDepth 100000

/-- A date as a value. -/
def dv (y m d h : Int) : Value := .agg #[.int .i64 y, .int .i64 m, .int .i64 d, .int .i64 h]
def dtv (D : Dt) : Value := dv D.y D.m D.d D.h
def ofV (h : Int) : Value := if isH h then .tuple #[dtv (dateOf h.toNat), .bool true] else .tuple #[dv 0 0 0 0, .bool false]
theorem ofV_bad {h : Int} (hh : isH h = false) : ofV h = .tuple #[dv 0 0 0 0, .bool false] := by unfold ofV; rw [hh]; rfl
theorem ofV_good {h : Int} (hh : isH h = true) : ofV h = .tuple #[dtv (dateOf h.toNat), .bool true] := by unfold ofV; rw [if_pos hh]
theorem of_bad (h : Int) (hh : isH h = false) (w : World) : Calls Tryd.prog 10 #[.int .i64 h] w fun e w' => e = .returned (ofV h) ∧ Below w.heap.size w w' := by
  have HI := Lib.hid (fun W => isHour_any h W)
  rw [ofV_bad hh]
  rw [hh] at HI
  clear hh
  go_enter Tryd.func10, Tryd.ntmps10
  go_wp2_with fail
  refine (HI.out _).mono ?_
  rintro e w1 ⟨rfl, hw1⟩
  have HB := Lib.hid (show Below w.heap.size w w1 by rw [← hw1]; exact below_alloc _ _)
  subst hw1
  go_wp2_with fail
  exact ret_date rfl rfl rfl rfl rfl (Blk.new _ _ _) rfl (below_alloc _ _)
/-- The memory that holds the result alone is new. -/
def wz (w : World) : World := w.alloc (.cells #[.int .i64 0, .int .i64 0, .int .i64 0, .int .i64 0] 23)
structure Md (w W : World) : Prop where
  eq : W = wz w
  wd : Wd W
theorem built_date (a b c d : Int) : Tryd.prog.built 23 [(0, .int .i64 a), (1, .int .i64 b), (2, .int .i64 c), (3, .int .i64 d)] = some #[.int .i64 a, .int .i64 b, .int .i64 c, .int .i64 d] := by kernel_rfl
theorem wp_date {o : Oper} {a : Act} {w : World} {K : Act → World → Prop} {Q : Exit → Act → World → Prop} {t1 t2 t3 t4 : Operand} {x y z u : Int} (ho : o.op = .build 23 #[(0, t1), (1, t2), (2, t3), (3, t4)])
    (h1 : a.eval t1 = .int .i64 x) (h2 : a.eval t2 = .int .i64 y) (h3 : a.eval t3 = .int .i64 z) (h4 : a.eval t4 = .int .i64 u) (h : K (a.put o.dst (.agg #[.int .i64 x, .int .i64 y, .int .i64 z, .int .i64 u])) w) : o.wp Tryd.prog a w K Q := by
  have e : (#[(0, t1), (1, t2), (2, t3), (3, t4)] : Array (Nat × Operand)).map (fun (i, x) => (i, a.eval x)) = #[(0, .int .i64 x), (1, .int .i64 y), (2, .int .i64 z), (3, .int .i64 u)] := by
    simp [h1, h2, h3, h4]
  refine wp_build _ _ ho ?_ ?_
  · rw [e, built_date]; rfl
  · rw [e, built_date]; exact h
theorem wp_store_date {o : Oper} {a : Act} {w : World} {K : Act → World → Prop} {Q : Exit → Act → World → Prop} {t1 t2 : Operand} {x y z u : Int} (ho : o.op = .store 23 t1 t2)
    (h1 : a.eval t1 = .pointer (some ⟨w.heap.size, 0, none⟩)) (h2 : a.eval t2 = .agg #[.int .i64 x, .int .i64 y, .int .i64 z, .int .i64 u]) (h : K (a.put o.dst undef) (w.alloc (.cells #[.int .i64 x, .int .i64 y, .int .i64 z, .int .i64 u] 23))) :
    o.wp Tryd.prog a (w.alloc (.cells #[.int .i64 0, .int .i64 0, .int .i64 0, .int .i64 0] 23)) K Q := by
  refine wp_store_row _ _ _ ho w.heap.size _ h1 h2 _ _ (heap_alloc_new w _) infoDate rfl (by simp [Value.oneCell']) ?_
  rw [World.setRow_alloc_new]
  exact h
theorem tq (a n : Nat) : ((a : Int)).tdiv (n : Int) = ((a / n : Nat) : Int) := by rw [Int.tdiv_eq_ediv_of_nonneg (by omega)]; omega
set_option maxHeartbeats 2000000 in
theorem of_good (t : Nat) (ht : t ≤ 16777216) (w : World) (hW : Wd w) : Calls Tryd.prog 10 #[.int .i64 (t : Int)] w fun e w' => e = .returned (.tuple #[dtv (dateOf t), .bool true]) ∧ Below w.heap.size w w' := by
  have HI := Lib.hid (fun W => isHour_any (t : Int) W)
  have hh : isH (t : Int) = true := decide_eq_true (by omega)
  rw [hh] at HI
  clear hh
  obtain ⟨D, hD⟩ : ∃ D, t / 24 = D := ⟨_, rfl⟩
  have HD := Lib.hid hD
  have hDl : D ≤ 699050 := by omega
  have q1 : ((t : Nat) : Int) / 24 = ((D : Nat) : Int) := by omega

  obtain ⟨y0, hy0⟩ : ∃ y0, 2000 + D / 366 = y0 := ⟨_, rfl⟩
  have HQ := Lib.hid (show (2000 : Int) + ((D : Nat) : Int) / 366 = ((y0 : Nat) : Int) by omega)
  have HY5 := Lib.hid (show y0 ≤ 5000 by omega)
  have HYS := Lib.hid (show 2000 ≤ y0 ∧ ys (y0 - 2000) ≤ D by have := ys_le (y0 - 2000); omega)
  obtain ⟨res, hres⟩ : ∃ res, dtv (dateOf t) = res := ⟨_, rfl⟩
  have HR := Lib.hid hres
  rw [hres]
  clear hD hy0 hres
  go_enter Tryd.func10, Tryd.ntmps10
  go_wp2_with fail
  refine (HI.out _).mono ?_
  rintro e w1 ⟨rfl, hw1⟩
  have HM := Lib.hid (show Md w w1 by
    subst hw1
    exact ⟨rfl, hW.below (below_alloc _ _)⟩)
  clear hw1 hW HI
  go_wp2_with fail
  --GG
  obtain ⟨M, hM⟩ : ∃ M : Nat, 6000 ≤ M := ⟨_, Nat.le_refl _⟩
  have HMX := Lib.hid hM
  clear hM
  go_loopw [5] (fun vy W => ∃ y : Nat, vy = .int .i64 (y : Int) ∧ Hid (2000 ≤ y ∧ ys (y - 2000) ≤ D ∧ y ≤ 5000) ∧ Hid (Md w W)) (fun vy _ => M - (intOf vy).toNat)
  case atStart => exact ⟨y0, congrArg (Value.int .i64) HQ.out, Lib.hid ⟨HYS.out.1, HYS.out.2, HY5.out⟩, HM⟩
  case round =>
    obtain ⟨y, rfl, HY, HW⟩ := hrel
    have hw1 : wrap64 ((y : Int) + 1) = ((y + 1 : Nat) : Int) := by have := HY.out; unfold wrap64; omega
    have HW1 := Lib.hid hw1
    have HYR := Lib.hid (fun W => yearStart_any (y + 1) (by have := HY.out; omega) (by have := HY.out; omega) W)
    by_cases hle : ys (y + 1 - 2000) ≤ D
    · have dle : decide (ys (y + 1 - 2000) ≤ D) = true := decide_eq_true hle
      have HLE := Lib.hid hle
      clear hle
      generalize hz : ys (y + 1 - 2000) = z at *
      have HZ := Lib.hid hz
      clear hz
      go_wp2_with fail
      refine (HYR.out _).mono ?_
      rintro e w2 ⟨rfl, hw2⟩
      have HM2 := Lib.hid (hw2 ▸ HW.out)
      clear hw2
      go_wp2_with fail
      go_roundw
      case rel => exact ⟨y + 1, by rw [HW1.out], Lib.hid ⟨by have := HY.out; omega, by rw [HZ.out]; exact HLE.out, by have h1 := HLE.out; rw [← HZ.out] at h1; unfold ys at h1; have := HY.out.1; omega⟩, HM2⟩
      case measure =>
        have h5 := HY.out.2.2
        have h6 := HMX.out
        rw [HW1.out]
        simp [intOf]
        omega
    · have dle : decide (ys (y + 1 - 2000) ≤ D) = false := decide_eq_false hle
      have HLE := Lib.hid hle
      clear hle
      generalize hz : ys (y + 1 - 2000) = z at *
      have HZ := Lib.hid hz
      clear hz
      go_wp2_with fail
      refine (HYR.out _).mono ?_
      rintro e w2 ⟨rfl, hw2⟩
      have HM2 := Lib.hid (hw2 ▸ HW.out)
      clear hw2
      go_wp2_with fail
      have HYB := Lib.hid (fun W => yearStart_any y (by have := HY.out; omega) (by have := HY.out; omega) W)
      obtain ⟨n, hn⟩ : ∃ n, y = 2000 + n := ⟨y - 2000, by have := HY.out; omega⟩
      have HN := Lib.hid hn
      obtain ⟨B, hB⟩ : ∃ B, ys (y - 2000) = B := ⟨_, rfl⟩
      rw [hB] at HYB
      have HB := Lib.hid (show B = S (12 * n) ∧ B ≤ D ∧ D < S (12 * (n + 1)) by
        have h1 := HY.out.2.1
        have h2 := HZ.out
        have h3 := HLE.out
        rw [hB] at h1
        rw [hn, show 2000 + n - 2000 = n by omega] at hB
        rw [hn, show 2000 + n + 1 - 2000 = n + 1 by omega] at h2
        rw [S_year, S_year]
        omega)
      have hBD : ((D : Nat) : Int) - ((B : Nat) : Int) = ((D - B : Nat) : Int) := by have := HB.out; omega
      have hws : wrap64 (((D : Nat) : Int) - ((B : Nat) : Int)) = ((D - B : Nat) : Int) := by have := HB.out; unfold wrap64; omega
      have HWS := Lib.hid hws
      clear hn hB hBD hw1 hws
      refine (HYB.out _).mono ?_
      rintro e w3 ⟨rfl, hw3⟩
      have HM3 := Lib.hid (hw3 ▸ HM2.out)
      clear hw3
      go_wp2_with fail
      go_loopw [4, 6] (fun vd vm W => ∃ m : Nat, vm = .int .i64 (m : Int) ∧ vd = .int .i64 ((D - S (12 * n + (m - 1)) : Nat) : Int) ∧ Hid (1 ≤ m ∧ m ≤ 12 ∧ S (12 * n + (m - 1)) ≤ D) ∧ Hid (Md w W)) (fun _ vm _ => 13 - (intOf vm).toNat)
      case atStart => exact ⟨1, rfl, by rw [HWS.out, HB.out.1]; rfl, Lib.hid ⟨by omega, by omega, by have := HB.out; show S (12 * n) ≤ D; omega⟩, HM3⟩
      case round =>
        obtain ⟨m, rfl, rfl, HC, HV⟩ := hrel
        have HMD := Lib.hid (fun W (hW : Wd W) => monthDays_any y m (by have := HC.out; omega) (by have := HC.out; omega) W hW)
        obtain ⟨l, hl⟩ : ∃ l, len y m = l := ⟨_, rfl⟩
        rw [hl] at HMD
        have HL := Lib.hid (show S (12 * n + m) = S (12 * n + (m - 1)) + l by
          have h := S_in n (m - 1) (by have := HC.out; omega)
          have h2 := HN.out
          have h3 := HC.out.1
          rw [show 12 * n + (m - 1) + 1 = 12 * n + m by omega, ← h2, show m - 1 + 1 = m by omega, hl] at h
          exact h)
        have HE := Lib.hid (show l ≤ 31 ∧ 28 ≤ l by rw [← hl]; exact ⟨len_le _ _, len_ge _ _⟩)
        clear hl
        obtain ⟨E, hE⟩ : ∃ E, D - S (12 * n + (m - 1)) = E := ⟨_, rfl⟩
        have HEE := Lib.hid hE
        rw [hE]
        clear hE
        by_cases hle : l ≤ E
        · have dle : decide (l ≤ E) = true := decide_eq_true hle
          have hsub : wrap64 (((E : Nat) : Int) - ((l : Nat) : Int)) = ((E - l : Nat) : Int) := by have := HEE.out; unfold wrap64; omega
          have hm1 : wrap64 (((m : Nat) : Int) + 1) = ((m + 1 : Nat) : Int) := by have := HC.out; unfold wrap64; omega
          have HSUB := Lib.hid hsub
          have HM1 := Lib.hid hm1
          have HLE2 := Lib.hid hle
          clear hle
          go_wp2_with fail
          refine (HMD.out _ HV.out.wd).mono ?_
          rintro e w4 ⟨rfl, hw4⟩
          have HV4 := Lib.hid (hw4 ▸ HV.out)
          clear hw4
          go_wp2_with fail
          refine (HMD.out _ HV4.out.wd).mono ?_
          rintro e w5 ⟨rfl, hw5⟩
          have HV5 := Lib.hid (hw5 ▸ HV4.out)
          clear hw5
          go_wp2_with fail
          go_roundw
          case rel => exact ⟨m + 1, by rw [HM1.out], by rw [HSUB.out, ← HEE.out]; have := HL.out; show Value.int .i64 (((D - S (12 * n + (m - 1)) - l : Nat)) : Int) = .int .i64 ((D - S (12 * n + m) : Nat) : Int); rw [this, Nat.sub_sub], Lib.hid (by
            have h1 := HC.out
            have h2 := HL.out
            have h3 := HEE.out
            have h4 := HLE2.out
            have h5 := HB.out.2.2
            have h6 : S (12 * n + m) ≤ D := by omega
            refine ⟨by omega, ?_, by show S (12 * n + m) ≤ D; exact h6⟩
            rcases Nat.lt_or_ge m 12 with h7 | h7
            · omega
            · have h8 := S_mono (show 12 * (n + 1) ≤ 12 * n + m by omega)
              omega), HV5⟩
          case measure =>
            have h5 := HC.out
            rw [HM1.out]
            simp [intOf]
            omega
        · have dle : decide (l ≤ E) = false := decide_eq_false hle
          have hE1 : wrap64 (((E : Nat) : Int) + 1) = ((E + 1 : Nat) : Int) := by have := HEE.out; unfold wrap64; omega
          have ht24 : ((t : Nat) : Int) % 24 = ((t % 24 : Nat) : Int) := by omega
          have HRES := Lib.hid (show res = dv y m (E + 1 : Nat) (t % 24 : Nat) by
            have hmon : mon D = 12 * n + (m - 1) := mon_uniq HC.out.2.2 (by
              have h1 := HL.out
              have h2 := HEE.out
              have h3 := HC.out
              rw [show 12 * n + (m - 1) + 1 = 12 * n + m by omega]
              omega)
            have h3 := HC.out
            have h4 := HN.out
            rw [← HR.out]
            unfold dtv dateOf
            rw [HD.out, hmon, HEE.out]
            show dv ((2000 + (12 * n + (m - 1)) / 12 : Nat) : Int) (((12 * n + (m - 1)) % 12 + 1 : Nat) : Int) ((E + 1 : Nat) : Int) ((t % 24 : Nat) : Int) = _
            rw [show 2000 + (12 * n + (m - 1)) / 12 = y by omega, show (12 * n + (m - 1)) % 12 + 1 = m by omega])
          clear hle
          go_wp2_with fail
          refine (HMD.out _ HV.out.wd).mono ?_
          rintro e w4 ⟨rfl, hw4⟩
          have HV4 := Lib.hid (hw4 ▸ HV.out)
          clear hw4
          obtain rfl := HV4.out.eq
          unfold wz
          go_wp2_with fail
          refine wp_date (x := (y : Int)) (y := (m : Int)) (z := wrap64 ((E : Int) + 1)) (u := (t : Int) % 24) rfl rfl rfl rfl rfl ?_
          simp only [Act.put, List.setIfInBounds_toArray, List.set_cons_succ, List.set_cons_zero]
          go_wp2_with fail
          refine wp_store_date (x := (y : Int)) (y := (m : Int)) (z := wrap64 ((E : Int) + 1)) (u := (t : Int) % 24) rfl rfl rfl ?_
          simp only [Act.put]
          rw [hE1, ht24]
          go_wp2_with fail
          rw [HRES.out]
          exact ret_date rfl rfl rfl rfl rfl (Blk.new _ _ _) rfl (below_alloc _ _)
theorem of_any (h : Int) (w : World) (hW : Wd w) : Calls Tryd.prog 10 #[.int .i64 h] w fun e w' => e = .returned (ofV h) ∧ Below w.heap.size w w' := by
  by_cases hh : isH h = true
  · obtain ⟨h1, h2⟩ := isH_of hh
    rw [ofV_good hh]
    obtain ⟨t, rfl⟩ : ∃ t : Nat, h = (t : Int) := ⟨h.toNat, by omega⟩
    exact of_good t (by omega) w hW
  · exact of_bad h (by simpa using hh) w
end Go.Proofs.YtanjkjendppigaaDoor.Dy
