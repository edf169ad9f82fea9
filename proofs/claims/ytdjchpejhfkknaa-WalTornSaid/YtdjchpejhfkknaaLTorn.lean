/- The statement WalTorn: its walk. Conditions: the arguments read as data within the reach. -/
import Derived.Test.YtdjchpejhfkknaaLFile
namespace Go.Proofs.Ytdjchpejhfkknaa.walTorn
open Go.RowKit Km Dk Lw
open Lm hiding Bs
set_option linter.unusedVariables false
set_option maxRecDepth 100000

theorem out_bytes {w : World} {v : Value} {l : List Bs} (cut : Int) (junk : ByteArray) (h : Texts w v l) (hb : 1500 < bytB l) : Calls Try.prog 5 #[v, .int .i64 cut, .string junk] w (IsTrue w) := by
  have SM := Lib.hid (fun W => small_any W)
  have HT := Lib.hid h
  have d : decide ((1500 : Int) < ((bytB l : Nat) : Int)) = true := decide_eq_true (by omega)
  have HBY := Lib.hid (fun W (hb : Below w.heap.size w W) => bytes_any (Texts.below HT.out hb))
  obtain ⟨a, c, rfl⟩ := texts_len h
  clear h hb
  generalize bytB l = n at *
  go_enter Try.func5, Try.ntmps5
  go_wp2_with fail
  refine (SM.out _).mono ?_
  rintro e w1 ⟨rfl, hb1⟩
  have HB1 := Lib.hid hb1
  clear hb1
  go_wp2_with fail
  refine (HBY.out _ HB1.out).mono ?_
  rintro e w2 ⟨rfl, hb2⟩
  have HB2 := Lib.hid (HB1.out.trans (hb2.mono HB1.out.size))
  clear hb2
  go_wp2_with fail
  go_ret
  exact ⟨rfl, HB2.out⟩
theorem out_args {w : World} {v : Value} {l : List Bs} (cut : Int) (junk : ByteArray) (h : Texts w v l) (hb : bytB l ≤ 1500) (hj : 50 < junk.size ∨ (junk.size ≤ 50 ∧ cut < 0)) (hjz : junk.size ≤ 140737488355328) : Calls Try.prog 5 #[v, .int .i64 cut, .string junk] w (IsTrue w) := by
  have SM := Lib.hid (fun W => small_any W)
  have HT := Lib.hid h
  have d : decide ((1500 : Int) < ((bytB l : Nat) : Int)) = false := decide_eq_false (by omega)
  have HBY := Lib.hid (fun W (hb : Below w.heap.size w W) => bytes_any (Texts.below HT.out hb))
  obtain ⟨a, c, rfl⟩ := texts_len h
  clear h hb
  generalize bytB l = n at *
  rcases hj with hj | ⟨hj, hc⟩
  · have dj : decide ((50 : Int) < ((junk.size : Nat) : Int)) = true := decide_eq_true (by omega)
    clear hj hjz
    go_enter Try.func5, Try.ntmps5
    go_wp2_with fail
    refine (SM.out _).mono ?_
    rintro e w1 ⟨rfl, hb1⟩
    have HB1 := Lib.hid hb1
    clear hb1
    go_wp2_with fail
    refine (HBY.out _ HB1.out).mono ?_
    rintro e w2 ⟨rfl, hb2⟩
    have HB2 := Lib.hid (HB1.out.trans (hb2.mono HB1.out.size))
    clear hb2
    go_wp2_with fail
    go_ret
    exact ⟨rfl, HB2.out⟩
  · have dj : decide ((50 : Int) < ((junk.size : Nat) : Int)) = false := decide_eq_false (by omega)
    have dc : decide (cut < 0) = true := decide_eq_true hc
    clear hj hjz hc
    go_enter Try.func5, Try.ntmps5
    go_wp2_with fail
    refine (SM.out _).mono ?_
    rintro e w1 ⟨rfl, hb1⟩
    have HB1 := Lib.hid hb1
    clear hb1
    go_wp2_with fail
    refine (HBY.out _ HB1.out).mono ?_
    rintro e w2 ⟨rfl, hb2⟩
    have HB2 := Lib.hid (HB1.out.trans (hb2.mono HB1.out.size))
    clear hb2
    go_wp2_with fail
    go_ret
    exact ⟨rfl, HB2.out⟩
theorem long {w : World} {v : Value} {l : List Bs} (n : Nat) (junk : ByteArray) (h : Texts w v l) (hb : bytB l ≤ 1500) (hj : junk.size ≤ 50) (hn : (recs l).length < n) : Calls Try.prog 5 #[v, .int .i64 ((n : Nat) : Int), .string junk] w (IsTrue w) := by
  have SM := Lib.hid (fun W => small_any W)
  have HT := Lib.hid h
  have d : decide ((1500 : Int) < ((bytB l : Nat) : Int)) = false := decide_eq_false (by omega)
  have HBY := Lib.hid (fun W (hb : Below w.heap.size w W) => bytes_any (Texts.below HT.out hb))
  obtain ⟨f1, f2, f3⟩ := few_of hb
  have HFI := Lib.hid (fun W (hB : Below w.heap.size w W) => file_any (Texts.below HT.out hB) (few_small hb) (by omega) (by omega))
  have dj : decide ((50 : Int) < ((junk.size : Nat) : Int)) = false := decide_eq_false (by omega)
  have dc : decide (((n : Nat) : Int) < 0) = false := decide_eq_false (by omega)
  have hsz : (sv (recs l)).size = (recs l).length := rfl
  have dn : decide ((recs l).length < n) = true := decide_eq_true hn
  obtain ⟨a, c, rfl⟩ := texts_len h
  clear h hb f1 f2 f3 hj hn
  generalize bytB l = m at *
  generalize sv (recs l) = S at *
  generalize (recs l).length = N at *
  go_enter Try.func5, Try.ntmps5
  go_wp2_with fail
  refine (SM.out _).mono ?_
  rintro e w1 ⟨rfl, hb1⟩
  have HB1 := Lib.hid hb1
  clear hb1
  go_wp2_with fail
  refine (HBY.out _ HB1.out).mono ?_
  rintro e w2 ⟨rfl, hb2⟩
  have HB2 := Lib.hid (HB1.out.trans (hb2.mono HB1.out.size))
  clear hb2
  go_wp2_with fail
  refine (HFI.out _ HB2.out).mono ?_
  rintro e w3 ⟨rfl, hb2⟩
  have HB3 := Lib.hid (HB2.out.trans (hb2.mono HB2.out.size))
  clear hb2
  go_wp2_with fail
  go_ret
  exact ⟨rfl, HB3.out⟩
set_option maxHeartbeats 8000000 in
theorem main {w : World} {v : Value} {l : List Bs} (n : Nat) (jk : Bs) (h : Texts w v l) (hb : bytB l ≤ 1500) (hj : jk.length ≤ 50) (hn : n ≤ (recs l).length) : Calls Try.prog 5 #[v, .int .i64 ((n : Nat) : Int), .string (sv jk)] w (IsTrue w) := by
  have SM := Lib.hid (fun W => small_any W)
  have HT := Lib.hid h
  have d : decide ((1500 : Int) < ((bytB l : Nat) : Int)) = false := decide_eq_false (by omega)
  have HBY := Lib.hid (fun W (hb : Below w.heap.size w W) => bytes_any (Texts.below HT.out hb))
  obtain ⟨f1, f2, f3⟩ := few_of hb
  have hsm := few_small hb
  have HFI := Lib.hid (fun W (hB : Below w.heap.size w W) => file_any (Texts.below HT.out hB) hsm (by omega) (by omega))
  obtain ⟨X, hX⟩ : ∃ X, recs l = X := ⟨_, rfl⟩
  have hvX : val X = l := by rw [← hX]; exact val_whole l hsm
  have hvlX : vlen X = X.length := by rw [← hX]; exact vlen_recs l hsm
  have hXl : X.length ≤ 1710 := by rw [← hX]; omega
  have p1 : val (X.take n) <+: l := by
    obtain ⟨m, _, h2, _⟩ := take_recs l hsm n
    rw [← hX, h2]
    exact prefix_take l m
  have p2 : val (X.take n) <+: val (X.take (min (n + 1) X.length)) := by
    have h1 := take_more l hsm n
    rw [hX] at h1
    have e : X.take (min (n + 1) X.length) = X.take (n + 1) := by
      rcases Nat.le_total (n + 1) X.length with h | h
      · rw [Nat.min_eq_left h]
      · rw [Nat.min_eq_right h, List.take_length, List.take_of_length_le h]
    rw [e]
    exact h1
  rw [hX] at hn HFI
  have lA : (X.take n).length = n := by rw [List.length_take]; omega
  have hz1 : vlen (X.take n) ≤ n := by have := vlen_le (X.take n); omega
  obtain ⟨z, hz⟩ : ∃ z, vlen (X.take n) = z := ⟨_, rfl⟩
  have tz : X.take z = recs (val (X.take n)) := by
    have h1 := take_vlen (X.take n)
    rw [hz, List.take_take, Nat.min_eq_left (by omega)] at h1
    exact h1
  have hvY : val (X.take z ++ jk) = val (X.take n) ++ val jk := by rw [tz, val_recs _ _ (val_small _)]
  have lY : (X.take z ++ jk).length = z + jk.length := by rw [List.length_append, List.length_take]; omega
  have hy1 := vlen_le (X.take z ++ jk)
  obtain ⟨y, hy⟩ : ∃ y, vlen (X.take z ++ jk) = y := ⟨_, rfl⟩
  have ty : (X.take z ++ jk).take y = recs (val (X.take z ++ jk)) := by rw [← hy]; exact take_vlen _
  have p3 : val (X.take n) <+: val (X.take z ++ jk) := by rw [hvY]; exact List.prefix_append _ _
  rw [hy, lY] at hy1
  rw [hz] at hz1
  have q1 : val ((X.take z ++ jk).take y) = val (X.take z ++ jk) := by rw [ty]; exact val_whole _ (val_small _)
  have q2 : vlen ((X.take z ++ jk).take y) = y := by rw [ty, vlen_recs _ (val_small _), ← hy]; rfl
  have R1 := Lib.hid (fun W => rows_any (X.take n) (by omega) W)
  have R2 := Lib.hid (fun W => rows_any (X.take (min (n + 1) X.length)) (by rw [List.length_take]; omega) W)
  have R3 := Lib.hid (fun W => rows_any X (by omega) W)
  have R4 := Lib.hid (fun W => rows_any (X.take z ++ jk) (by omega) W)
  have R5 := Lib.hid (fun W => rows_any ((X.take z ++ jk).take y) (by rw [List.length_take]; omega) W)
  rw [hz] at R1
  rw [hvlX, hvX] at R3
  rw [hy] at R4
  rw [q1, q2] at R5
  have s1 := fun W => slice_head X n hn W
  have s2 := fun W => slice_head X (min (n + 1) X.length) (Nat.min_le_right _ _) W
  have s3 := fun W => slice_head X z (by omega) W
  have s4 := fun W => slice_head (X.take z ++ jk) y (by omega) W
  have ea : sv (X.take z) ++ sv jk = sv (X.take z ++ jk) := sv_append _ _
  have hml : l.length ≤ 1000000 := by omega
  have hl1 : (val (X.take n)).length ≤ 1000000 := Nat.le_trans p1.length_le hml
  have hl2 : (val (X.take (min (n + 1) X.length))).length ≤ 1000000 := by have h1 := val_len (X.take (min (n + 1) X.length)); rw [List.length_take] at h1; omega
  have hl4 : (val (X.take z ++ jk)).length ≤ 1000000 := by have h1 := val_len (X.take z ++ jk); omega
  have P1 := Lib.hid (decide_eq_true p1)
  have P2 := Lib.hid (decide_eq_true p2)
  have P3 := Lib.hid (decide_eq_true p3)
  have HL := Lib.hid (And.intro hml (And.intro hl1 (And.intro hl2 hl4)))
  have hszX : (sv X).size = X.length := rfl
  have hszJ : (sv jk).size = jk.length := rfl
  have hsz1 : (sv (X.take z)).size = z := by show (X.take z).length = z; rw [List.length_take]; omega
  have dj : decide ((50 : Int) < ((jk.length : Nat) : Int)) = false := decide_eq_false (by omega)
  have dc : decide (((n : Nat) : Int) < 0) = false := decide_eq_false (by omega)
  have dn : decide (X.length < n) = false := decide_eq_false (by omega)
  have dz : decide (n < z) = false := decide_eq_false (by omega)
  have hm1 : min (((n : Nat) : Int) + 1) ((X.length : Nat) : Int) = ((min (n + 1) X.length : Nat) : Int) := by omega
  have hm2 : min ((y : Nat) : Int) (((z : Nat) : Int) + ((jk.length : Nat) : Int)) = ((y : Nat) : Int) := by omega
  have dy : ((y : Int) == (y : Int)) = true := by simp
  obtain ⟨a, c, rfl⟩ := texts_len h
  clear h hb f1 f2 f3 hsm hX hvX hvlX p1 p2 p3 hz tz hvY lY hy ty q1 q2 lA hml hl1 hl2 hl4
  generalize val (X.take n) = VA at *
  generalize val (X.take (min (n + 1) X.length)) = VB at *
  generalize val (X.take z ++ jk) = VD at *
  generalize vlen (X.take (min (n + 1) X.length)) = zB at *
  generalize sv ((X.take z ++ jk).take y) = S5 at *
  generalize sv (X.take z ++ jk) = S4 at *
  generalize sv (X.take z) = S3 at *
  generalize sv (X.take (min (n + 1) X.length)) = S2 at *
  generalize sv (X.take n) = S1 at *
  generalize min (n + 1) X.length = n1 at *
  generalize sv jk = SJ at *
  generalize sv X = SX at *
  generalize jk.length = J at *
  generalize X.length = N at *
  generalize bytB l = m at *
  go_enter Try.func5, Try.ntmps5
  go_wp2_with fail
  refine (SM.out _).mono ?_
  rintro e w1 ⟨rfl, hb1⟩
  have HB1 := Lib.hid hb1
  clear hb1
  go_wp2_with fail
  refine (HBY.out _ HB1.out).mono ?_
  rintro e w2 ⟨rfl, hb2⟩
  have HB2 := Lib.hid (HB1.out.trans (hb2.mono HB1.out.size))
  clear hb2 HB1
  go_wp2_with fail
  refine (HFI.out _ HB2.out).mono ?_
  rintro e w3 ⟨rfl, hb2⟩
  have HB3 := Lib.hid (HB2.out.trans (hb2.mono HB2.out.size))
  clear hb2 HB2
  go_wp2_with fail
  refine (R1.out _).mono ?_
  rintro e w4 ⟨v1, rfl, ht, hb2⟩
  have HB4 := Lib.hid (HB3.out.trans (hb2.mono HB3.out.size))
  have T1 := Lib.hid ht
  clear hb2 ht HB3
  go_wp2_with fail
  --GG
  refine (R2.out _).mono ?_
  rintro e w5 ⟨v2, rfl, ht, hb2⟩
  have HB5 := Lib.hid (HB4.out.trans (hb2.mono HB4.out.size))
  have T2 := Lib.hid ht
  have T1b := Lib.hid (Texts.below T1.out hb2)
  clear hb2 ht HB4 T1
  go_wp2_with fail
  refine (R3.out _).mono ?_
  rintro e w6 ⟨v3, rfl, ht, hb2⟩
  have HB6 := Lib.hid (HB5.out.trans (hb2.mono HB5.out.size))
  have T3 := Lib.hid ht
  have T1c := Lib.hid (Texts.below T1b.out hb2)
  have T2c := Lib.hid (Texts.below T2.out hb2)
  clear hb2 ht HB5 T1b T2
  go_wp2_with fail
  have hbg := begins_any (Texts.below HT.out HB6.out) T1c.out HL.out.1 HL.out.2.1
  rw [P1.out] at hbg
  refine hbg.mono ?_
  rintro e w7 ⟨rfl, hb2⟩
  have HB7 := Lib.hid (HB6.out.trans (hb2.mono HB6.out.size))
  have T1d := Lib.hid (Texts.below T1c.out hb2)
  have T2d := Lib.hid (Texts.below T2c.out hb2)
  have T3d := Lib.hid (Texts.below T3.out hb2)
  clear hb2 hbg T1c T2c T3 HB6
  go_wp2_with fail
  have hbg := begins_any T2d.out T1d.out HL.out.2.2.1 HL.out.2.1
  rw [P2.out] at hbg
  refine hbg.mono ?_
  rintro e w8 ⟨rfl, hb2⟩
  have HB8 := Lib.hid (HB7.out.trans (hb2.mono HB7.out.size))
  have T1e := Lib.hid (Texts.below T1d.out hb2)
  have T3e := Lib.hid (Texts.below T3d.out hb2)
  clear hb2 hbg T1d T2d T3d HB7
  go_wp2_with fail
  have hbg := same_any T3e.out (Texts.below HT.out HB8.out) HL.out.1 HL.out.1
  rw [decide_eq_true rfl] at hbg
  refine hbg.mono ?_
  rintro e w9 ⟨rfl, hb2⟩
  have HB9 := Lib.hid (HB8.out.trans (hb2.mono HB8.out.size))
  have T1f := Lib.hid (Texts.below T1e.out hb2)
  clear hb2 hbg T1e T3e HB8
  go_wp2_with fail
  refine (R4.out _).mono ?_
  rintro e w10 ⟨v4, rfl, ht, hb2⟩
  have HB10 := Lib.hid (HB9.out.trans (hb2.mono HB9.out.size))
  have T4 := Lib.hid ht
  have T1g := Lib.hid (Texts.below T1f.out hb2)
  clear hb2 ht T1f HB9
  go_wp2_with fail
  refine (R5.out _).mono ?_
  rintro e w11 ⟨v5, rfl, ht, hb2⟩
  have HB11 := Lib.hid (HB10.out.trans (hb2.mono HB10.out.size))
  have T5 := Lib.hid ht
  have T1h := Lib.hid (Texts.below T1g.out hb2)
  have T4h := Lib.hid (Texts.below T4.out hb2)
  clear hb2 ht T1g T4 HB10
  go_wp2_with fail
  have hbg := begins_any T4h.out T1h.out HL.out.2.2.2 HL.out.2.1
  rw [P3.out] at hbg
  refine hbg.mono ?_
  rintro e w12 ⟨rfl, hb2⟩
  have HB12 := Lib.hid (HB11.out.trans (hb2.mono HB11.out.size))
  have T4i := Lib.hid (Texts.below T4h.out hb2)
  have T5i := Lib.hid (Texts.below T5.out hb2)
  clear hb2 hbg T1h T4h T5 HB11
  go_wp2_with fail
  have hbg := same_any T5i.out T4i.out HL.out.2.2.2 HL.out.2.2.2
  rw [decide_eq_true rfl] at hbg
  refine hbg.mono ?_
  rintro e w13 ⟨rfl, hb2⟩
  have HB13 := Lib.hid (HB12.out.trans (hb2.mono HB12.out.size))
  clear hb2 hbg T4i T5i HB12
  go_wp2_with fail
  go_ret
  exact ⟨rfl, HB13.out⟩
theorem walk {w : World} {v : Value} {l : List Bs} {cut : Int} {junk : ByteArray} (h : Texts w v l) (hc : J64 cut) (hz : junk.size ≤ 140737488355328) : Calls Try.prog 5 #[v, .int .i64 cut, .string junk] w (IsTrue w) := by
  by_cases hb : 1500 < bytB l
  · exact out_bytes cut junk h hb
  · by_cases hj : 50 < junk.size
    · exact out_args cut junk h (by omega) (.inl hj) hz
    · by_cases hc0 : cut < 0
      · exact out_args cut junk h (by omega) (.inr ⟨by omega, hc0⟩) hz
      · obtain ⟨n, rfl⟩ : ∃ n : Nat, cut = (n : Nat) := ⟨cut.toNat, by omega⟩
        by_cases hn : (recs l).length < n
        · exact long n junk h (by omega) (by omega) hn
        · have hjk : junk.data.toList.length ≤ 50 := by rw [Array.length_toList]; exact Nat.le_of_not_lt hj
          have hm := main n junk.data.toList h (by omega) hjk (by omega)
          rw [sv_of] at hm
          exact hm
end Go.Proofs.Ytdjchpejhfkknaa.walTorn
