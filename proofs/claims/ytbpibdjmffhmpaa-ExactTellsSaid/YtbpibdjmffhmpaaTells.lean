/- The statement ExactTells: for all ints and lists of at most 200 ints, every function of exact returns what the reference returns. Conditions: none. -/
import Derived.Test.YtbpibdjmffhmpaaRShare
import Derived.Test.YtbpibdjmffhmpaaShares
namespace Go.Proofs.Ytbpibdjmffhmpaa.exactTells
open Go.ChangeShapes Go.WideShapes Go.ChangeAt Go.RowKit Mth
open Go.Proofs.Ytbpibdjmffhmpaa
set_option linter.unusedVariables false

theorem rsum_any {w : World} {v : Value} {zs : List Int} (h : Reads w v zs) (hl : zs.length ≤ 200) : Calls Try.prog 15 #[v] w fun e w' => e = .returned (.tuple #[.int .i64 (sumN zs), .bool (sumB zs)]) ∧ w = w' := by
  obtain ⟨h1, h2, h3⟩ := h
  rcases h3 with ⟨rfl, a, c, rfl⟩ | ⟨b, off, c, rfl, _, hc⟩
  · exact rsum_none a c w
  · exact rsum_some b off c zs w hl h2 hc
theorem part_bd {t : Int} {zs : List Int} (hb : shareB t zs = true) (i : Nat) : I64 (shareF t zs i) := by
  have h := exactShares.one hb i
  unfold shareF I64
  cases hu : upB t (tot zs) (zf zs) zs.length i with
  | true => rw [part_up hu]; omega
  | false => rw [part_down hu]; omega

set_option maxHeartbeats 3200000 in
set_option maxRecDepth 100000 in
theorem walk_yes (a : Int) (ha : I64 a) (b : Int) (hb : I64 b) (c : Int) (hc : I64 c) {ad : Option Addr} {n cp : Nat} {zs : List Int} {w : World} (hr : Reads w (.slice ad n cp) zs) (hn : n ≤ 200) (hs : shareB a zs = true) :
    Calls Try.prog 3 #[.int .i64 a, .int .i64 b, .int .i64 c, .slice ad n cp] w (IsTrue w) := by
  have hlen : zs.length = n := by
    obtain ⟨x, y, e⟩ := hr.len
    cases e
    rfl
  have d200 : decide (200 < n) = false := decide_eq_false (by omega)
  have hz64 : zs.length ≤ 64 := (of_wholeB (of_decide_eq_true hs).1).1
  have HR := Lib.hid hr
  have HS := Lib.hid hs
  have HL := Lib.hid hlen
  clear hr hs hlen
  go_enter Try.func3, Try.ntmps3
  go_wp2_with fail
  refine (small_any _).mono ?_
  rintro e w1 ⟨rfl, hbel⟩
  have R1 := Lib.hid (HR.out.below hbel)
  have HBEL := Lib.hid hbel
  clear hbel
  go_wp2_with fail
  refine (scale_any a b c _).mono ?_
  rintro e w2 ⟨rfl, k, rfl⟩
  go_wp2_with fail
  refine (rscale_any a b c _).mono ?_
  rintro e w2 ⟨rfl, rfl⟩
  have R2 := Lib.hid (R1.out.below (self_drewN w1 k))
  go_wp2_with fail
  refine (share_yes R2.out HS.out).mono ?_
  rintro e w2 ⟨rfl, own, hb2⟩
  have O2 := Lib.hid own
  have R3 := Lib.hid (R2.out.below hb2)
  have HB2 := Lib.hid hb2
  clear own hb2
  go_wp2_with fail
  refine (rshare_yes R3.out HS.out).mono ?_
  rintro e w3 ⟨rfl, own, hb3⟩
  have O3 := Lib.hid own
  have R4 := Lib.hid (R3.out.below hb3)
  have HB3 := Lib.hid hb3
  clear own hb3
  go_wp2_with fail
  refine (sum_any R4.out).mono ?_
  rintro e w4 ⟨rfl, rfl⟩
  go_wp2_with fail
  refine (rsum_any R4.out (by have := HL.out; omega)).mono ?_
  rintro e w4 ⟨rfl, rfl⟩
  have hsm : Reads w3 (.slice (some ⟨(w1.drewN k).heap.size, 0, none⟩) zs.length zs.length) ((List.range zs.length).map (shareF a zs)) := Reads.own (Own.below O2.out HB3.out) (by omega) (fun i _ => part_bd HS.out i) _
  have hsm2 : Reads w3 (.slice (some ⟨w2.heap.size, 0, none⟩) zs.length zs.length) ((List.range zs.length).map (shareF a zs)) := Reads.own O3.out (by omega) (fun i _ => part_bd HS.out i) _
  have HM1 := Lib.hid hsm
  have HM2 := Lib.hid hsm2
  have e1 : (scQ a b c != scQ a b c) = false := by simp
  have e2 : (scR a b c != scR a b c) = false := by simp
  have e3 : (sumN zs != sumN zs) = false := by simp
  clear hsm hsm2
  go_wp2_with fail
  refine (same_true HM1.out HM2.out).mono ?_
  rintro e w4 ⟨rfl, m, rfl⟩
  have ca := fun W => add_any a b ha hb W
  have cb := fun W => radd_any a b ha hb W
  have cc := fun W => sub_any a b ha hb W
  have cd := fun W => rsub_any a b ha hb W
  have ce := fun W => clamp_any a b c W
  have cf' := fun W => rclamp_any a b c W
  generalize lim (a + b) = s1 at *
  generalize lim (a - b) = s2 at *
  generalize clampV a b c = s3 at *
  have CA := Lib.hid ca
  have CB := Lib.hid cb
  have CC := Lib.hid cc
  have CD := Lib.hid cd
  have CE := Lib.hid ce
  have CF := Lib.hid cf'
  have e4 : (s1 == s1) = true := by simp
  have e5 : (s2 == s2) = true := by simp
  have e6 : (s3 == s3) = true := by simp
  clear ca cb cc cd ce cf'
  go_wp2_with fail
  refine (CE.out _).mono ?_
  rintro e w4 ⟨rfl, rfl⟩
  go_wp2_with fail
  refine (CF.out _).mono ?_
  rintro e w4 ⟨rfl, rfl⟩
  go_wp2_with fail
  refine (CA.out _).mono ?_
  rintro e w4 ⟨rfl, rfl⟩
  go_wp2_with fail
  refine (CB.out _).mono ?_
  rintro e w4 ⟨rfl, rfl⟩
  go_wp2_with fail
  refine (CC.out _).mono ?_
  rintro e w4 ⟨rfl, rfl⟩
  go_wp2_with fail
  refine (CD.out _).mono ?_
  rintro e w4 ⟨rfl, rfl⟩
  go_wp2_with fail
  go_ret
  exact ⟨rfl, bon HBEL.out (bon (self_drewN _ _) (bon HB2.out (bon HB3.out (self_drewN _ _))))⟩
set_option maxHeartbeats 3200000 in
set_option maxRecDepth 100000 in
theorem walk_no (a : Int) (ha : I64 a) (b : Int) (hb : I64 b) (c : Int) (hc : I64 c) {ad : Option Addr} {n cp : Nat} {zs : List Int} {w : World} (hr : Reads w (.slice ad n cp) zs) (hn : n ≤ 200) (hs : shareB a zs = false) :
    Calls Try.prog 3 #[.int .i64 a, .int .i64 b, .int .i64 c, .slice ad n cp] w (IsTrue w) := by
  have hlen : zs.length = n := by
    obtain ⟨x, y, e⟩ := hr.len
    cases e
    rfl
  have d200 : decide (200 < n) = false := decide_eq_false (by omega)
  have HR := Lib.hid hr
  have HS := Lib.hid hs
  have HL := Lib.hid hlen
  clear hr hs hlen
  go_enter Try.func3, Try.ntmps3
  go_wp2_with fail
  refine (small_any _).mono ?_
  rintro e w1 ⟨rfl, hbel⟩
  have R1 := Lib.hid (HR.out.below hbel)
  have HBEL := Lib.hid hbel
  clear hbel
  go_wp2_with fail
  refine (scale_any a b c _).mono ?_
  rintro e w2 ⟨rfl, k, rfl⟩
  go_wp2_with fail
  refine (rscale_any a b c _).mono ?_
  rintro e w2 ⟨rfl, rfl⟩
  have R2 := Lib.hid (R1.out.below (self_drewN w1 k))
  go_wp2_with fail
  refine (share_no R2.out HS.out).mono ?_
  rintro e w2 ⟨rfl, rfl⟩
  go_wp2_with fail
  refine (rshare_no R2.out HS.out).mono ?_
  rintro e w2 ⟨rfl, rfl⟩
  go_wp2_with fail
  refine (sum_any R2.out).mono ?_
  rintro e w4 ⟨rfl, rfl⟩
  go_wp2_with fail
  refine (rsum_any R2.out (by have := HL.out; omega)).mono ?_
  rintro e w4 ⟨rfl, rfl⟩
  have e1 : (scQ a b c != scQ a b c) = false := by simp
  have e2 : (scR a b c != scR a b c) = false := by simp
  have e3 : (sumN zs != sumN zs) = false := by simp
  go_wp2_with fail
  refine (same_none none none 0 0 _).mono ?_
  rintro e w4 ⟨rfl, rfl⟩
  have ca := fun W => add_any a b ha hb W
  have cb := fun W => radd_any a b ha hb W
  have cc := fun W => sub_any a b ha hb W
  have cd := fun W => rsub_any a b ha hb W
  have ce := fun W => clamp_any a b c W
  have cf' := fun W => rclamp_any a b c W
  generalize lim (a + b) = s1 at *
  generalize lim (a - b) = s2 at *
  generalize clampV a b c = s3 at *
  have CA := Lib.hid ca
  have CB := Lib.hid cb
  have CC := Lib.hid cc
  have CD := Lib.hid cd
  have CE := Lib.hid ce
  have CF := Lib.hid cf'
  have e4 : (s1 == s1) = true := by simp
  have e5 : (s2 == s2) = true := by simp
  have e6 : (s3 == s3) = true := by simp
  clear ca cb cc cd ce cf'
  go_wp2_with fail
  refine (CE.out _).mono ?_
  rintro e w4 ⟨rfl, rfl⟩
  go_wp2_with fail
  refine (CF.out _).mono ?_
  rintro e w4 ⟨rfl, rfl⟩
  go_wp2_with fail
  refine (CA.out _).mono ?_
  rintro e w4 ⟨rfl, rfl⟩
  go_wp2_with fail
  refine (CB.out _).mono ?_
  rintro e w4 ⟨rfl, rfl⟩
  go_wp2_with fail
  refine (CC.out _).mono ?_
  rintro e w4 ⟨rfl, rfl⟩
  go_wp2_with fail
  refine (CD.out _).mono ?_
  rintro e w4 ⟨rfl, rfl⟩
  go_wp2_with fail
  go_ret
  exact ⟨rfl, bon HBEL.out (self_drewN _ _)⟩

set_option maxHeartbeats 1600000 in
set_option maxRecDepth 100000 in
theorem walk_long (a b c : Int) (n cp : Nat) (ad : Option Addr) (w : World) (hn : 200 < n) : Calls Try.prog 3 #[.int .i64 a, .int .i64 b, .int .i64 c, .slice ad n cp] w (IsTrue w) := by
  have d200 : decide (200 < n) = true := decide_eq_true hn
  go_enter Try.func3, Try.ntmps3
  go_wp2_with fail
  refine (small_any _).mono ?_
  rintro e w1 ⟨rfl, hbel⟩
  have HBEL := Lib.hid hbel
  clear hbel
  go_wp2_with fail
  go_ret
  exact ⟨rfl, HBEL.out⟩

theorem walk (a : Int) (ha : I64 a) (b : Int) (hb : I64 b) (c : Int) (hc : I64 c) {ad : Option Addr} {n cp : Nat} {zs : List Int} {w : World} (hr : Reads w (.slice ad n cp) zs) :
    Calls Try.prog 3 #[.int .i64 a, .int .i64 b, .int .i64 c, .slice ad n cp] w (IsTrue w) := by
  by_cases hn : 200 < n
  · exact walk_long a b c n cp ad w hn
  · cases hs : shareB a zs with
    | true => exact walk_yes a ha b hb c hc hr (by omega) hs
    | false => exact walk_no a ha b hb c hc hr (by omega) hs

theorem own : ownKnob Try.prog.godebug = none := by kernel_rfl
theorem laidOut : laidOutB Try.prog = true := by kernel_rfl
theorem cellsInt : Try.prog.cellsOf 3 = 1 := by kernel_rfl
theorem bytesInt : Try.prog.bytesOf 3 = 8 := by kernel_rfl

set_option maxRecDepth 100000 in
theorem lifted (os : Os) (started : os.Started) (H : Type) (enc : TypeId × Value → H) :
    ReturnsInHanded {} Try.checked os 3 .any (Rows.exactTellsSpec.pre6 enc Try.prog Try.f3 Rows.exactTellsRow.domain false) (Rows.exactTellsSpec.post enc Try.prog Try.f3 false true false false) := by
  refine returnsInHanded_of_change_sized (C := Try.checked) own started (by kernel_rfl) Try.func3
    (ChangeSpec.witness6 (enc := enc) (C := Try.checked) false ⟨#[], #[.int .i64 0, .int .i64 0, .int .i64 0, .slice none 0 0], []⟩ 8 (by kernel_rfl) (by kernel_rfl) (by kernel_rfl) (by kernel_rfl)) ?_
  intro W base args ds gs before hval0 hW hcnd hsz0 _
  have hsz : (DataW.weightsEach Try.prog (Try.f3.params.toList ++ Rows.exactTellsSpec.plain.varTypes Try.prog) (ds ++ gs)).all (· ≤ reachBytes) = true := hsz0
  clear hsz0
  have hval : ∀ (j : Nat) t v, Try.f3.params[j]? = some t → args[j]? = some v → Value.okWide Try.prog W .any base t v := hval0
  have hW' := hW
  obtain ⟨p, q, hA0, hV, rfl, hfz, hnd⟩ := hW
  have hA : DataW.TrodAll enc Try.prog W 0 (fun _ => true) true Try.f3.params.toList args.toList ds p := hA0
  rw [Try.params3] at hA hval hsz
  obtain ⟨v0, vs0, d0, ds0, p0, q0, hargs, rfl, rfl, h0, r0⟩ := trodAll_cons hA
  obtain ⟨v1, vs1, d1, ds1, p1, q1, rfl, rfl, rfl, h1, r1⟩ := trodAll_cons r0
  obtain ⟨v2, vs2, d2, ds2, p2, q2, rfl, rfl, rfl, h2, r2⟩ := trodAll_cons r1
  obtain ⟨v3, vs3, d3, ds3, p3, q3, rfl, rfl, rfl, h3, r3⟩ := trodAll_cons r2
  obtain ⟨rfl, rfl, rfl⟩ := trodAll_nil r3
  obtain rfl : args = #[v0, v1, v2, v3] := by cases args; simp_all
  obtain ⟨rfl, rfl⟩ := trodVars_none hV
  obtain ⟨a0, rfl, rfl, rfl, w0⟩ := open_int Try.underlying3 (hval 0 3 v0 rfl rfl) h0
  obtain ⟨a1, rfl, rfl, rfl, w1⟩ := open_int Try.underlying3 (hval 1 3 v1 rfl rfl) h1
  obtain ⟨a2, rfl, rfl, rfl, w2⟩ := open_int Try.underlying3 (hval 2 3 v2 rfl rfl) h2
  clear hA0 hval0
  simp only [List.append_nil] at hW'
  have hlt : ∀ x ∈ p3, x.block < W.heap.size := fun x hx => by simpa using hW'.lt x (by simpa using hx)
  obtain ⟨b3, len3, cap3, rfl⟩ := okWide_slice Try.underlying22 (hval 3 22 v3 rfl rfl)
  have hk3 := h3
  have hlt3 : ∀ x ∈ p3, x.block < W.heap.size := fun x hx => hlt x (by simp [hx])
  have trod3 : ∀ (W' : World), Below W.heap.size W W' → DataW.Trod enc Try.prog W' 0 (fun b => decide (b < W.heap.size)) true 22 (.slice b3 len3 cap3) d3 p3 :=
    fun W' hn => Below.trod laidOut (by kernel_rfl) (of_decide_eq_true (by kernel_rfl)) hk3 hn hlt3
  have reads3 : ∃ z3, Reads W (.slice b3 len3 cap3) z3 ∧ len3 ≤ cap3 := by
    obtain ⟨fuel, hf⟩ := h3
    rcases open_ints Try.underlying22 Try.underlying3 cellsInt hf with ⟨hcs, hx⟩ | ⟨a, len, cap, zs, hcs, _, hl, hm, hz, hx, hcell, hwz⟩
    · simp [Value.cells] at hcs
      obtain ⟨rfl, rfl, rfl⟩ := hcs
      exact ⟨[], ⟨by decide, fun x hx => absurd hx List.not_mem_nil, .inl ⟨rfl, _, _, rfl⟩⟩, Nat.le_refl _⟩
    · simp [Value.cells] at hcs
      obtain ⟨rfl, rfl, rfl⟩ := hcs
      simp only [Prod.mk.injEq] at hx
      obtain ⟨rfl, rfl⟩ := hx
      simp only [if_true] at hz
      have hreach : len3 * 8 ≤ 140737488351232 := by
        have := sized_slice hsz (j := 3) (t := 22) (e := 3) rfl rfl Try.underlying22
        rw [bytesInt] at this
        simp only [lits, List.length_map, List.length_take, List.length_drop, reachBytes] at this
        omega
      exact ⟨zs.take len3, reads_mk hreach hl hz hcell hwz (fun b off ha h0 => hlt3 (.cell b off) (by rw [ha]; exact MemPlace.mem_row.2 ⟨0, by omega, by simp⟩)), hl⟩
  obtain ⟨z3, k3⟩ := reads3
  refine (walk (w := W) a0 (i64_of_wf w0) a1 (i64_of_wf w1) a2 (i64_of_wf w2) k3.1).mono fun e W' ⟨he, hb⟩ => ?_
  subst he
  exact ⟨_, rfl, _, _, _, [], _, [], hW', (trodAll_cons_mk (shut_bool Try.underlying4 _) trodAll_mk0), (trodAll_cons_mk (shut_int Try.underlying3 w0) (trodAll_cons_mk (shut_int Try.underlying3 w1) (trodAll_cons_mk (shut_int Try.underlying3 w2) (trodAll_cons_mk (trod3 _ hb) trodAll_mk0)))), rfl, hb.frame _, fun h => by cases h⟩

theorem over : Rows.exactTellsRow.holds Try.pinned (OpenSpec.ofChange Rows.exactTellsSpec) :=
  OpenClaim.holds_of_wide 3 Try.f3 rfl rfl rfl rfl rfl rfl rfl ⟨rfl, rfl, rfl, rfl, rfl⟩ rfl rfl rfl rfl rfl (by kernel_rfl) Try.func3 (by kernel_rfl)
    (of_decide_eq_true (by kernel_rfl)) (by unfold Func.isWrapper; first | (rw [if_pos (by decide +kernel)]; kernel_rfl) | (rw [if_neg (by decide +kernel)]; exact ⟨rfl, rfl⟩))
    (fun os started H enc _ => lifted os started H enc)

theorem proved : Rows.ExactTellsSaid := over
end Go.Proofs.Ytbpibdjmffhmpaa.exactTells
