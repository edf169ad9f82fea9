/- The law's own functions bytes, file and rows. Conditions: texts that read as a list. -/
import Derived.Test.YtdjchpejhfkknaaLFacts
namespace Go.Proofs.Ytdjchpejhfkknaa.Lw
open Go.RowKit Km Dk
open Lm hiding Bs
set_option linter.unusedVariables false
set_option maxRecDepth 100000

def bsum (l : List Bs) : Nat := (l.map fun b => min b.length 9999).sum
def bytB (l : List Bs) : Nat := if 30 < l.length then 9999 else bsum l
theorem bsum_append (a b : List Bs) : bsum (a ++ b) = bsum a + bsum b := by simp [bsum]
theorem bsum_le (l : List Bs) : bsum l ≤ l.length * 9999 := by
  induction l with
  | nil => exact Nat.le_refl _
  | cons b t ih =>
    show min b.length 9999 + bsum t ≤ _
    rw [List.length_cons, Nat.add_mul]
    omega
theorem bsum_mem {l : List Bs} {b : Bs} (h : b ∈ l) : min b.length 9999 ≤ bsum l := by
  induction l with
  | nil => cases h
  | cons c t ih =>
    show _ ≤ min c.length 9999 + bsum t
    rcases List.mem_cons.1 h with rfl | h
    · omega
    · have := ih h; omega
/-- What few bytes mean. -/
theorem few_of {l : List Bs} (h : bytB l ≤ 1500) : l.length ≤ 30 ∧ (∀ b ∈ l, b.length ≤ 1500) ∧ (recs l).length ≤ 1500 + 7 * l.length := by
  unfold bytB at h
  split at h
  · omega
  · have hm : ∀ b ∈ l, b.length ≤ 1500 := fun b hb => by have := bsum_mem hb; omega
    refine ⟨by omega, hm, ?_⟩
    have h2 : (recs l).length = bsum l + 7 * l.length := by
      clear h
      induction l with
      | nil => rfl
      | cons b t ih =>
        have hb := hm b (by simp)
        rw [recs_cons, List.length_append, recB_length, ih (by simp at *; omega) (fun c hc => hm c (by simp [hc]))]
        show _ = min b.length 9999 + bsum t + _
        rw [List.length_cons]
        omega
    omega
theorem few_small {l : List Bs} (h : bytB l ≤ 1500) : Small l := fun b hb => by have := (few_of h).2.1 b hb; omega
theorem wrapB (z s : Nat) (hz : z ≤ 1000000) (hs : s ≤ 9999) : wrap64 (((z : Nat) : Int) + ((s : Nat) : Int)) = ((z + s : Nat) : Int) := by unfold wrap64; omega
set_option maxHeartbeats 2000000 in
theorem bytes_any {w : World} {v : Value} {l : List Bs} (h : Texts w v l) : Calls Try.prog 30 #[v] w fun e w' => e = .returned (.int .i64 ((bytB l : Nat) : Int)) ∧ Below w.heap.size w w' := by
  obtain ⟨a, c, rfl, hm, hbig, hc⟩ := h
  by_cases h30 : 30 < l.length
  · have hb : bytB l = 9999 := by unfold bytB; rw [if_pos h30]
    rw [hb]
    have d : decide ((30 : Int) < ((l.length : Nat) : Int)) = true := decide_eq_true (by omega)
    clear hc hb h30 hm hbig
    generalize l.length = n at *
    go_enter Try.func30, Try.ntmps30
    go_wp2_with fail
    go_ret
    exact ⟨rfl, below_self _⟩
  · have hb : bytB l = bsum l := by unfold bytB; rw [if_neg h30]
    rw [hb]
    obtain ⟨n, hn⟩ : ∃ n, l.length = n := ⟨_, rfl⟩
    have HN := Lib.hid hn
    have HC := Lib.hid hc
    have HBIG := Lib.hid hbig
    have HSL := Lib.hid (bsum_le l)
    rw [hn] at h30 ⊢
    have d : decide ((30 : Int) < ((n : Nat) : Int)) = false := decide_eq_false (by omega)
    have h30' : n ≤ 30 := by omega
    clear hc hb h30 hm hn hbig
    go_enter Try.func30, Try.ntmps30
    go_wp2_with fail
    go_loopw [3, 4] (fun z i wr => ∃ k : Nat, k ≤ n ∧ i = .int .i64 k ∧ z = .int .i64 ((bsum (l.take k) : Nat) : Int) ∧ Hid (Below w.heap.size w wr)) (fun _ i _ => n - (intOf i).toNat)
    case atStart => exact ⟨0, Nat.zero_le _, rfl, rfl, Lib.hid (below_self _)⟩
    case round =>
      obtain ⟨k, hk, rfl, rfl, HB⟩ := hrel
      by_cases hlt : k < n
      · obtain ⟨b, hb⟩ : ∃ b, l[k]? = some b := ⟨l[k]'(by have := HN.out; omega), List.getElem?_eq_getElem _⟩
        obtain ⟨g, o, rfl, hg, hcell⟩ := HC.out (by have := HN.out; omega)
        have c1 : wr.cell? ⟨g, o + k, none⟩ = some (.string (sv b)) := (HB.out.cell (p := ⟨g, o + k, none⟩) hg).trans (hcell k b hb)
        have hs : (sv b).size = b.length := rfl
        have hbig2 := HBIG.out b (List.mem_of_getElem? hb)
        have hsum : bsum (l.take (k + 1)) = bsum (l.take k) + min b.length 9999 := by rw [take_snoc hb, bsum_append]; simp [bsum]
        have hz := bsum_le (l.take k)
        have hzl : bsum (l.take k) ≤ 1000000 := by rw [List.length_take] at hz; have := HN.out; omega
        have hw := wrapB _ (min b.length 9999) hzl (Nat.min_le_right _ _)
        obtain ⟨m, hmm⟩ : ∃ m, min b.length 9999 = m := ⟨_, rfl⟩
        have hmin : min ((b.length : Nat) : Int) 9999 = ((m : Nat) : Int) := by
          rw [← hmm]
          omega
        rw [hmm] at hsum hw
        have HS := Lib.hid hsum
        have HW := Lib.hid hw
        obtain ⟨Z, hZ⟩ : ∃ Z, bsum (l.take k) = Z := ⟨_, rfl⟩
        rw [hZ] at HS HW ⊢
        have hw2 := HW.out
        clear hb hg hcell hsum hz hzl hw hZ hmm hbig2
        generalize b.length = bl at *
        go_wp2_with fail
        --GG
        go_roundw
        case rel => exact ⟨k + 1, hlt, by go_num, by rw [HS.out, HW.out], HB⟩
        case measure => simp [intOf]; omega
      · obtain rfl : k = n := by omega
        have hr : bsum (l.take k) = bsum l := by rw [← HN.out, List.take_length]
        have HR := Lib.hid hr
        clear hr
        go_wp2_with fail
        go_ret
        exact ⟨ret_i (by rw [HR.out]), HB.out⟩
set_option maxHeartbeats 4000000 in
/-- What is written of rows one by one into a new log. -/
theorem file_any {w : World} {v : Value} {l : List Bs} (h : Texts w v l) (hs : Small l) (hl : l.length ≤ 1000) (hz : (recs l).length ≤ 1000000) :
    Calls Try.prog 31 #[v] w fun e w' => e = .returned (.tuple #[.string (sv (recs l)), .bool true]) ∧ Below w.heap.size w w' := by
  have HT := Lib.hid h
  obtain ⟨a, c, hv⟩ := texts_len h
  have HVV := Lib.hid hv
  obtain ⟨n, hn⟩ : ∃ n, l.length = n := ⟨_, rfl⟩
  have HN := Lib.hid hn
  have HS := Lib.hid hs
  have HZ := Lib.hid hz
  rw [hn] at hl hv
  rw [hv]
  clear h hv hn hs hz
  go_enter Try.func31, Try.ntmps31
  go_wp2_with fail
  refine (new_any (A := fun b => w.heap.size ≤ b) (fun b hb => hb)).mono ?_
  rintro e w0 ⟨rfl, hd, hf⟩
  have D0 := Lib.hid hd
  have FF := Lib.hid ((Fr.refl (fun b => w.heap.size ≤ b) w).below hf)
  obtain ⟨r, hr⟩ : ∃ r, w.heap.size = r := ⟨_, rfl⟩
  have HRW := Lib.hid hr
  rw [hr] at D0 FF
  clear hd hf
  rw [hr]
  clear hr
  go_wp2_with fail
  refine (open_good D0.out 0 (by decide +kernel) (s' := (opn Km.new ((0 : Nat) : Int)).2) rfl (show val (readB Km.new ((0 : Nat) : Int)) = [] by decide +kernel)).mono ?_
  rintro e w1 ⟨p, rfl, hd, hf⟩
  have L1 := Lib.hid hd
  replace FF := Lib.hid (FF.out.trans hf)
  clear hd hf D0
  go_wp2_with fail
  go_loopw [7] (fun i W => ∃ (k : Nat) (s : St), k ≤ n ∧ i = .int .i64 k ∧ Hid (Lgd (fun b => r ≤ b) r p 0 s (l.take k) W ∧ Cal s ∧ s.F 0 = recs (l.take k) ∧ Fr (fun b => r ≤ b) w W)) (fun i _ => n - (intOf i).toNat)
  case atStart =>
    obtain ⟨_, q2, q3, _⟩ := opn_cal new_cal (f := 0) (by decide)
    exact ⟨0, _, Nat.zero_le _, rfl, Lib.hid ⟨L1.out, q2, q3.1, FF.out⟩⟩
  case round =>
    obtain ⟨k, s, hk, rfl, HD⟩ := hrel
    by_cases hlt : k < n
    · obtain ⟨b, hb⟩ : ∃ b, l[k]? = some b := ⟨l[k]'(by have := HN.out; omega), List.getElem?_eq_getElem _⟩
      have hT1 := Texts.frs HT.out HD.out.2.2.2 (fun b hb => by have := Texts.lt HT.out hb; have := HRW.out; omega)
      rw [HVV.out, HN.out] at hT1
      obtain ⟨_, _, hsl, _, _, hcc⟩ := hT1
      injection hsl with hsl1 hsl2 hsl3
      subst hsl1
      obtain ⟨g, o, rfl, hg, hcell⟩ := hcc (by have := HN.out; omega)
      have c1 := hcell k b hb
      have hbs := HS.out b (List.mem_of_getElem? hb)
      have hsum : recs (l.take (k + 1)) = recs (l.take k) ++ recB b := by rw [take_snoc hb, recs_append, recs_one]
      have htk : l.take (k + 1) = l.take k ++ [b] := take_snoc hb
      have hle : (recs (l.take (k + 1))).length ≤ 1000000 := by
        have := recs_take_mono l (m := k + 1) (n := l.length) (by have := HN.out; omega)
        rw [List.take_length] at this
        exact Nat.le_trans this HZ.out
      obtain ⟨a1, a2, a3, _⟩ := wapp_cal HD.out.2.1 (show 0 < 8 by decide) hbs (by rw [HD.out.2.2.1]; rw [hsum, List.length_append, recB_length] at hle; omega)
      have HAP := Lib.hid (lgd_append HD.out.1 b (by omega) (by rw [List.length_take]; have := HN.out; omega) a1 (s' := wappS s 0 b) rfl (rows' := l.take (k + 1)) (by rw [wapp_rows a1, htk]))
      have HC2 := Lib.hid a2
      have HF2 : Hid ((wappS s 0 b).F 0 = recs (l.take (k + 1))) := Lib.hid (by rw [a3, HD.out.2.2.1, hsum])
      clear hb hcc hcell hg hbs hsum htk hle a1 a2 a3 hsl2 hsl3
      go_wp2_with fail
      refine HAP.out.mono ?_
      rintro e w2 ⟨rfl, hd, hf⟩
      have L2 := Lib.hid hd
      have F2 := Lib.hid (HD.out.2.2.2.trans hf)
      clear hd hf
      go_wp2_with fail
      go_roundw
      case rel => exact ⟨k + 1, _, hlt, by go_num, Lib.hid ⟨L2.out, HC2.out, HF2.out, F2.out⟩⟩
      case measure => simp [intOf]; omega
    · obtain rfl : k = n := by omega
      have htk : l.take k = l := by rw [← HN.out]; exact List.take_length
      have hfile := HD.out.2.2.1
      rw [htk] at hfile
      obtain ⟨q1, q2⟩ := read_up HD.out.2.1.idl.up (show 0 < 8 by decide)
      rw [hfile] at q2
      have HRD := Lib.hid (read_at (lgd_dsk HD.out.1) ((0 : Nat) : Int) 0 (recs l) q1 q2)
      clear htk hfile q1 q2
      go_wp2_with fail
      refine HRD.out.mono ?_
      rintro e w2 ⟨rfl, _, hf⟩
      have F2 := Lib.hid (HD.out.2.2.2.trans hf)
      clear hf
      go_wp2_with fail
      go_ret2
      refine ⟨rfl, ?_⟩
      rw [HRW.out]
      exact F2.out.to_below (by rw [HRW.out]; exact Nat.le_refl _)
theorem push_new (b : Bs) (hb : b.length ≤ 16777216) : appE Km.new ((0 : Nat) : Int) b = 0 ∧ Cal (appS Km.new ((0 : Nat) : Int) b) ∧ (appS Km.new ((0 : Nat) : Int) b).F 0 = b := by
  obtain ⟨p1, p2, p3, _⟩ := push_cal new_cal (g := 0) (by decide) (b := b) (by show 0 + b.length ≤ _; omega)
  exact ⟨p1, p2, by rw [p3]; rfl⟩
set_option maxHeartbeats 4000000 in
/-- What a log finds in a file of these bytes. -/
theorem rows_any (x : Bs) (hx : x.length ≤ 1000000) (w : World) :
    Calls Try.prog 32 #[.string (sv x)] w fun e w' => ∃ v, e = .returned (.tuple #[v, .int .i64 ((vlen x : Nat) : Int), .bool true]) ∧ Texts w' v (val x) ∧ Below w.heap.size w w' := by
  obtain ⟨p1, p2, p3⟩ := push_new x (by omega)
  obtain ⟨q1, q2, q3, _, _, q6⟩ := opn_cal p2 (f := 0) (by decide)
  rw [p3] at q3 q6
  have hvl : (val x).length ≤ 1000000 := Nat.le_trans (val_len x) hx
  have hvs : ∀ t ∈ val x, t.length ≤ 1000000000 := fun t ht => by have := val_small x t ht; omega
  have HQ6 := Lib.hid q6
  have HVL := Lib.hid hvl
  have HVS := Lib.hid hvs
  have HQ1 := Lib.hid q1
  have HSZ : Hid (sizeN (opn (appS Km.new ((0 : Nat) : Int) x) ((0 : Nat) : Int)).2 ((0 : Nat) : Int) = vlen x) := Lib.hid (by rw [size_nat _ (by decide), q3.1]; rfl)
  have HAP := Lib.hid (fun W r (hW : Dsk (fun b => w.heap.size ≤ b) r Km.new W) => append_at hW ((0 : Nat) : Int) x 0 p1 (s' := appS Km.new ((0 : Nat) : Int) x) rfl (by omega))
  clear p1 p2 p3 q1 q2 q3 q6 hx hvl hvs
  generalize appS Km.new ((0 : Nat) : Int) x = s1 at *
  go_enter Try.func32, Try.ntmps32
  go_wp2_with fail
  refine (new_any (A := fun b => w.heap.size ≤ b) (fun b hb => hb)).mono ?_
  rintro e w0 ⟨rfl, hd, hf⟩
  have D0 := Lib.hid hd
  have FF := Lib.hid ((Fr.refl (fun b => w.heap.size ≤ b) w).below hf)
  obtain ⟨r, hr⟩ : ∃ r, w.heap.size = r := ⟨_, rfl⟩
  have HRW := Lib.hid hr
  rw [hr] at D0 FF HAP
  clear hd hf
  rw [hr]
  clear hr
  go_wp2_with fail
  refine (HAP.out _ _ D0.out).mono ?_
  rintro e w1 ⟨rfl, hd, hf⟩
  have D1 := Lib.hid hd
  replace FF := Lib.hid (FF.out.trans hf)
  clear hd hf D0 HAP
  go_wp2_with fail
  refine (open_good D1.out 0 HQ1.out (s' := (opn s1 ((0 : Nat) : Int)).2) rfl (rows := val x) (by rw [HQ6.out])).mono ?_
  rintro e w2 ⟨p, rfl, hd, hf⟩
  have L1 := Lib.hid hd
  replace FF := Lib.hid (FF.out.trans hf)
  clear hd hf D1
  go_wp2_with fail
  refine (lgd_all L1.out (by have := HVL.out; omega) HVS.out).mono ?_
  rintro e w3 ⟨va, A2, rfl, _, hd, ht, _, hb⟩
  have L2 := Lib.hid hd
  have T1 := Lib.hid ht
  replace FF := Lib.hid (FF.out.below hb)
  clear hd ht hb L1
  go_wp2_with fail
  refine (size_at (lgd_dsk L2.out) ((0 : Nat) : Int) (vlen x) HSZ.out).mono ?_
  rintro e w4 ⟨rfl, rfl⟩
  go_wp2_with fail
  go_ret3
  refine ⟨_, rfl, T1.out, ?_⟩
  rw [HRW.out]
  exact FF.out.to_below (by rw [HRW.out]; exact Nat.le_refl _)
def IsTrue (w : World) (e : Ending) (w' : World) : Prop := e = .returned (.bool true) ∧ Below w.heap.size w w'
theorem slice_head (s : Bs) (d : Nat) (h : d ≤ s.length) (W : World) : (Instr.slice 9 (.string (sv s)) none (some (.int .i64 ((d : Nat) : Int))) none).run Try.prog W = .ok (.string (sv (s.take d))) W := by
  rw [run_slice_string_to_if W 9 (sv s) .i64 _ Try.underlying9, if_pos ⟨by omega, by rw [sv_size]; omega⟩, Int.toNat_natCast, sv_extract, List.drop_zero, Nat.sub_zero]
theorem prefix_take (l : List Bs) (m : Nat) : l.take m <+: l := List.take_prefix m l
/-- The law's first lines: small, and the bound on bytes. -/
theorem gt_bool (n : Nat) : decide ((1500 : Int) < ((n : Nat) : Int)) = decide (1500 < n) := by congr 1; apply propext; omega
end Go.Proofs.Ytdjchpejhfkknaa.Lw
