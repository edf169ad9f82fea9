/- The statement DiskTurns: the walk. Conditions: the texts have at most 2^47 bytes. -/
import Derived.Test.YtjgedopbcopnkaaKSmall
import Derived.Test.YtjgedopbcopnkaaKFacts
namespace Go.Proofs.Ytjgedopbcopnkaa.diskTurns
open Go.RowKit Km Dk
set_option linter.unusedVariables false

def IsTrue (w : World) (e : Ending) (w' : World) : Prop := e = .returned (.bool true) ∧ Below w.heap.size w w'
theorem long {S T : ByteArray} {st : Int} {a : Option Addr} {n c : Nat} {w : World} (h : 50000 < S.size ∨ 50000 < T.size) : Calls Try.prog 4 #[.string S, .string T, .int .i64 st, .slice a n c] w (IsTrue w) := by
  have SM := Lib.hid (fun W => small_any W)
  by_cases h1 : 50000 < S.size
  · have d1 : decide ((50000 : Int) < (S.size : Int)) = true := decide_eq_true (by omega)
    clear h h1
    go_enter Try.func4, Try.ntmps4
    go_wp2_with fail
    refine (SM.out _).mono ?_
    rintro e w1 ⟨rfl, hb1⟩
    go_wp2_with fail
    refine (new_any (A := fun b => w1.heap.size ≤ b) (fun b hb => hb)).mono ?_
    rintro e w2 ⟨rfl, _, hb2⟩
    have HB := Lib.hid (below_trans hb1 hb2)
    clear hb1 hb2
    go_wp2_with fail
    go_ret
    exact ⟨rfl, HB.out⟩
  · have d1 : decide ((50000 : Int) < (S.size : Int)) = false := decide_eq_false (by omega)
    have d2 : decide ((50000 : Int) < (T.size : Int)) = true := decide_eq_true (by omega)
    clear h h1
    go_enter Try.func4, Try.ntmps4
    go_wp2_with fail
    refine (SM.out _).mono ?_
    rintro e w1 ⟨rfl, hb1⟩
    go_wp2_with fail
    refine (new_any (A := fun b => w1.heap.size ≤ b) (fun b hb => hb)).mono ?_
    rintro e w2 ⟨rfl, _, hb2⟩
    have HB := Lib.hid (below_trans hb1 hb2)
    clear hb1 hb2
    go_wp2_with fail
    go_ret
    exact ⟨rfl, HB.out⟩
section
variable {w : World} {a b : Bs} {ks : List Int} {v : Value}
def s1 (a : Bs) : St := pushS Km.new 3 a
def s2 (a : Bs) : St := fitS 3 (durS 3 (s1 a))
def s3 (a b : Bs) : St := pushS (s2 a) 4 b
def s4 (a b : Bs) : St := fitS 4 (durS 4 (s3 a b))
def mv (s : St) : St := fitS 3 (movS 3 4 s)
theorem c1 (a : Bs) : Idl (s1 a) := pushS_calm new_calm _ _
theorem c2 (a : Bs) : Idl (s2 a) := fitS_calm (durS_calm (c1 a) _) _
theorem c3 (a b : Bs) : Idl (s3 a b) := pushS_calm (c2 a) _ _
theorem c4 (a b : Bs) : Idl (s4 a b) := fitS_calm (durS_calm (c3 a b) _) _
theorem cm {s : St} (h : Idl s) : Idl (mv s) := fitS_calm (movS_calm h _ _) _
theorem l1 (a : Bs) : (s1 a).lose = 0 := pushS_lose _ _ _
theorem l3 (a b : Bs) : (s3 a b).lose = 0 := (pushS_lose _ _ _).trans (l1 a)
theorem f1 (a : Bs) : (s1 a).F 3 = a := (pushS_F _ _ _).trans (List.nil_append _)
theorem f2 (a : Bs) : (s2 a).F 3 = a := f1 a
theorem u2 (a : Bs) : (s2 a).U 3 = a.length := by
  show upd (s1 a).U 3 ((s1 a).F 3).length 3 = _
  rw [upd_same, f1]
theorem f24 (a : Bs) : (s2 a).F 4 = [] := pushS_other _ _ _ _ (by decide)
theorem u24 (a : Bs) : (s2 a).U 4 = 0 := by
  show upd (s1 a).U 3 ((s1 a).F 3).length 4 = 0
  rw [upd_other _ _ _ _ (by decide), s1, pushS_U]
  rfl
theorem f3 (a b : Bs) : (s3 a b).F 3 = a := (pushS_other _ _ _ _ (by decide)).trans (f2 a)
theorem u3 (a b : Bs) : (s3 a b).U 3 = a.length := by rw [s3, pushS_U]; exact u2 a
theorem f34 (a b : Bs) : (s3 a b).F 4 = b := by rw [s3, pushS_F, f24]; rfl
theorem u34 (a b : Bs) : (s3 a b).U 4 = 0 := by rw [s3, pushS_U]; exact u24 a
theorem f44 (a b : Bs) : (s4 a b).F 4 = b := f34 a b
theorem u44 (a b : Bs) : (s4 a b).U 4 = b.length := by
  show upd (s3 a b).U 4 ((s3 a b).F 4).length 4 = _
  rw [upd_same, f34]
theorem fm (s : St) : (mv s).F 3 = s.F 4 := by
  show upd (upd s.F 3 (s.F 4)) 4 [] 3 = _
  rw [upd_other _ _ _ _ (by decide), upd_same]
theorem um (s : St) : (mv s).U 3 = s.U 4 := by
  show upd (upd s.U 3 (s.U 4)) 4 0 3 = _
  rw [upd_other _ _ _ _ (by decide), upd_same]
theorem fm4 (s : St) : (mv s).F 4 = [] := by
  show upd (upd s.F 3 (s.F 4)) 4 [] 4 = _
  rw [upd_same]
theorem um4 (s : St) : (mv s).U 4 = 0 := by
  show upd (upd s.U 3 (s.U 4)) 4 0 4 = _
  rw [upd_same]
/-- What is read behind a crash of a durable file. -/
theorem rd {s : St} (h : Wf s) (hu : s.U 3 = (s.F 3).length) (ks : List Int) : readE (startS (crashS ks s)) ((3 : Nat) : Int) = 0 ∧ readB (startS (crashS ks s)) ((3 : Nat) : Int) = s.F 3 := by
  obtain ⟨h1, h2⟩ := read_up (s := startS (crashS ks s)) rfl (f := 3) (by decide)
  exact ⟨h1, h2.trans (crash_full h ks (by decide) hu)⟩

set_option maxHeartbeats 4000000 in
theorem none_ (ha : a.length ≤ 50000) (hb : b.length ≤ 50000) (hv : Ints w v ks) (hj : ∀ z ∈ ks, J64 z) (hvb : ∀ b, vblock v = some b → b < w.heap.size) : Calls Try.prog 4 #[.string (sv a), .string (sv b), .int .i64 0, v] w (IsTrue w) := by
  have SM := Lib.hid (fun W => small_any W)
  have ha' : a.length ≤ 16777216 := by omega
  have d1 : decide ((50000 : Int) < ((sv a).size : Int)) = false := decide_eq_false (by rw [sv_size]; omega)
  have d2 : decide ((50000 : Int) < ((sv b).size : Int)) = false := decide_eq_false (by rw [sv_size]; omega)
  have t0 : (sv []).toList = [] := sv_toList _
  obtain ⟨va, vc, rfl, hvc⟩ := hv
  have HV : Hid (Ints w (.slice va ks.length vc) ks) := Lib.hid ⟨va, vc, rfl, hvc⟩
  have HVB := Lib.hid hvb
  have HJ := Lib.hid hj
  clear hvc hvb hj
  go_enter Try.func4, Try.ntmps4
  go_wp2_with fail
  refine (SM.out _).mono ?_
  rintro e w1 ⟨rfl, hb1⟩
  have HB1 := Lib.hid hb1
  clear hb1
  go_wp2_with fail
  refine (new_any (A := fun b => w.heap.size ≤ b) (fun b hb => by have := HB1.out.size; omega)).mono ?_
  rintro e w2 ⟨rfl, hd, hf⟩
  have D := Lib.hid hd
  have FF := Lib.hid (((Fr.refl (fun b => w.heap.size ≤ b) w).below HB1.out).below hf)
  clear hd hf
  go_wp2_with fail
  refine (append_at D.out ((3 : Nat) : Int) a 0 (app_calm new_calm (by decide) (by show 0 + a.length ≤ _; omega)).1 (s' := s1 a) (app_calm new_calm (by decide) (by show 0 + a.length ≤ _; omega)).2 (by omega)).mono ?_
  rintro e w9 ⟨rfl, hd, hf⟩
  replace D := Lib.hid hd
  replace FF := Lib.hid (FF.out.trans hf)
  clear hd hf
  go_wp2_with fail
  refine (flush_at D.out ((3 : Nat) : Int) 0 (flu_calm (c1 a) (l1 a) (by decide)).1 (s' := s2 a) (flu_calm (c1 a) (l1 a) (by decide)).2).mono ?_
  rintro e w9 ⟨rfl, hd, hf⟩
  replace D := Lib.hid hd
  replace FF := Lib.hid (FF.out.trans hf)
  clear hd hf
  go_wp2_with fail
  refine (turn_at D.out ((3 : Nat) : Int) ((4 : Nat) : Int) 0 ((tur_calm (c2 a) (by decide) (by decide) (by decide)).1.trans (if_neg (by rw [u24, f24]; decide))) (s' := mv (s2 a)) ((tur_calm (c2 a) (by decide) (by decide) (by decide)).2.trans (if_neg (by rw [u24, f24]; decide)))).mono ?_
  rintro e w9 ⟨rfl, hd, hf⟩
  replace D := Lib.hid hd
  replace FF := Lib.hid (FF.out.trans hf)
  clear hd hf
  go_wp2_with fail
  have RR := Lib.hid (rd D.out.1 (by rw [um, fm, u24, f24]; rfl) ks)
  rw [fm, f24] at RR
  refine (crash_at D.out (HV.out.fr FF.out (fun b hb hn => by have := HVB.out b hb; omega)) HJ.out (fun b hb hn => by have := HVB.out b hb; omega) (s' := crashS ks (mv (s2 a))) rfl).mono ?_
  rintro e w9 ⟨rfl, hd, hf⟩
  replace D := Lib.hid hd
  replace FF := Lib.hid (FF.out.trans hf)
  clear hd hf
  go_wp2_with fail
  refine (start_at D.out (s' := startS (crashS ks (mv (s2 a)))) rfl).mono ?_
  rintro e w9 ⟨rfl, hd, hf⟩
  replace D := Lib.hid hd
  replace FF := Lib.hid (FF.out.trans hf)
  clear hd hf
  go_wp2_with fail
  refine (read_at (s := startS (crashS ks (mv (s2 a)))) D.out ((3 : Nat) : Int) 0 [] RR.out.1 RR.out.2).mono ?_
  rintro e w9 ⟨rfl, hd, hf⟩
  replace D := Lib.hid hd
  replace FF := Lib.hid (FF.out.trans hf)
  clear hd hf
  go_wp2_with fail
  go_ret
  exact ⟨rfl, FF.out.to_below (Nat.le_refl _)⟩

set_option maxHeartbeats 4000000 in
theorem half (ha : a.length ≤ 50000) (hb : b.length ≤ 50000) (hv : Ints w v ks) (hj : ∀ z ∈ ks, J64 z) (hvb : ∀ b, vblock v = some b → b < w.heap.size) (hne : b ≠ []) : Calls Try.prog 4 #[.string (sv a), .string (sv b), .int .i64 1, v] w (IsTrue w) := by
  have tb : ((sv b).toList == []) = false := by rw [sv_toList]; cases b <;> simp_all
  have hpos : 0 < b.length := by cases b <;> simp_all
  have SM := Lib.hid (fun W => small_any W)
  have ha' : a.length ≤ 16777216 := by omega
  have d1 : decide ((50000 : Int) < ((sv a).size : Int)) = false := decide_eq_false (by rw [sv_size]; omega)
  have d2 : decide ((50000 : Int) < ((sv b).size : Int)) = false := decide_eq_false (by rw [sv_size]; omega)
  have t0 : (sv []).toList = [] := sv_toList _
  obtain ⟨va, vc, rfl, hvc⟩ := hv
  have HV : Hid (Ints w (.slice va ks.length vc) ks) := Lib.hid ⟨va, vc, rfl, hvc⟩
  have HVB := Lib.hid hvb
  have HJ := Lib.hid hj
  clear hvc hvb hj
  go_enter Try.func4, Try.ntmps4
  go_wp2_with fail
  refine (SM.out _).mono ?_
  rintro e w1 ⟨rfl, hb1⟩
  have HB1 := Lib.hid hb1
  clear hb1
  go_wp2_with fail
  refine (new_any (A := fun b => w.heap.size ≤ b) (fun b hb => by have := HB1.out.size; omega)).mono ?_
  rintro e w2 ⟨rfl, hd, hf⟩
  have D := Lib.hid hd
  have FF := Lib.hid (((Fr.refl (fun b => w.heap.size ≤ b) w).below HB1.out).below hf)
  clear hd hf
  go_wp2_with fail
  refine (append_at D.out ((3 : Nat) : Int) a 0 (app_calm new_calm (by decide) (by show 0 + a.length ≤ _; omega)).1 (s' := s1 a) (app_calm new_calm (by decide) (by show 0 + a.length ≤ _; omega)).2 (by omega)).mono ?_
  rintro e w9 ⟨rfl, hd, hf⟩
  replace D := Lib.hid hd
  replace FF := Lib.hid (FF.out.trans hf)
  clear hd hf
  go_wp2_with fail
  refine (flush_at D.out ((3 : Nat) : Int) 0 (flu_calm (c1 a) (l1 a) (by decide)).1 (s' := s2 a) (flu_calm (c1 a) (l1 a) (by decide)).2).mono ?_
  rintro e w9 ⟨rfl, hd, hf⟩
  replace D := Lib.hid hd
  replace FF := Lib.hid (FF.out.trans hf)
  clear hd hf
  go_wp2_with fail
  refine (append_at D.out ((4 : Nat) : Int) b 0 (app_calm (c2 a) (by decide) (by rw [f24]; show 0 + b.length ≤ _; omega)).1 (s' := s3 a b) (app_calm (c2 a) (by decide) (by rw [f24]; show 0 + b.length ≤ _; omega)).2 (by omega)).mono ?_
  rintro e w9 ⟨rfl, hd, hf⟩
  replace D := Lib.hid hd
  replace FF := Lib.hid (FF.out.trans hf)
  clear hd hf
  go_wp2_with fail
  refine (turn_at D.out ((3 : Nat) : Int) ((4 : Nat) : Int) 10 ((tur_calm (c3 a b) (by decide) (by decide) (by decide)).1.trans (if_pos (by rw [u34, f34]; exact hpos))) (s' := s3 a b) ((tur_calm (c3 a b) (by decide) (by decide) (by decide)).2.trans (if_pos (by rw [u34, f34]; exact hpos)))).mono ?_
  rintro e w9 ⟨rfl, hd, hf⟩
  replace D := Lib.hid hd
  replace FF := Lib.hid (FF.out.trans hf)
  clear hd hf
  go_wp2_with fail
  have RR := Lib.hid (rd D.out.1 (by rw [u3, f3]) ks)
  rw [f3] at RR
  have ZZ := Lib.hid (crash_file D.out.1 ks (f := 4) (by decide)).1
  rw [f34] at ZZ
  refine (crash_at D.out (HV.out.fr FF.out (fun b hb hn => by have := HVB.out b hb; omega)) HJ.out (fun b hb hn => by have := HVB.out b hb; omega) (s' := crashS ks (s3 a b)) rfl).mono ?_
  rintro e w9 ⟨rfl, hd, hf⟩
  replace D := Lib.hid hd
  replace FF := Lib.hid (FF.out.trans hf)
  clear hd hf
  go_wp2_with fail
  refine (start_at D.out (s' := startS (crashS ks (s3 a b))) rfl).mono ?_
  rintro e w9 ⟨rfl, hd, hf⟩
  replace D := Lib.hid hd
  replace FF := Lib.hid (FF.out.trans hf)
  clear hd hf
  go_wp2_with fail
  refine (read_at (s := startS (crashS ks (s3 a b))) D.out ((3 : Nat) : Int) 0 a RR.out.1 RR.out.2).mono ?_
  rintro e w9 ⟨rfl, hd, hf⟩
  replace D := Lib.hid hd
  replace FF := Lib.hid (FF.out.trans hf)
  clear hd hf
  go_wp2_with fail
  obtain ⟨z, hz⟩ : ∃ z, sizeN (startS (crashS ks (s3 a b))) ((4 : Nat) : Int) = z := ⟨_, rfl⟩
  have hzb : z ≤ b.length := by rw [← hz, size_nat _ (by decide)]; exact ZZ.out
  have hzs : ((z : Nat) : Int) ≤ (((sv b).size : Nat) : Int) := by rw [sv_size]; omega
  refine (size_at D.out ((4 : Nat) : Int) z hz).mono ?_
  rintro e w9 ⟨rfl, rfl⟩
  go_wp2_with fail
  go_ret
  exact ⟨rfl, FF.out.to_below (Nat.le_refl _)⟩

set_option maxHeartbeats 4000000 in
theorem empty (ha : a.length ≤ 50000) (hv : Ints w v ks) (hj : ∀ z ∈ ks, J64 z) (hvb : ∀ b, vblock v = some b → b < w.heap.size)  : Calls Try.prog 4 #[.string (sv a), .string (sv []), .int .i64 1, v] w (IsTrue w) := by
  have SM := Lib.hid (fun W => small_any W)
  have ha' : a.length ≤ 16777216 := by omega
  have d1 : decide ((50000 : Int) < ((sv a).size : Int)) = false := decide_eq_false (by rw [sv_size]; omega)
  have d2 : decide ((50000 : Int) < ((sv []).size : Int)) = false := decide_eq_false (by decide)
  have t0 : (sv []).toList = [] := sv_toList _
  obtain ⟨va, vc, rfl, hvc⟩ := hv
  have HV : Hid (Ints w (.slice va ks.length vc) ks) := Lib.hid ⟨va, vc, rfl, hvc⟩
  have HVB := Lib.hid hvb
  have HJ := Lib.hid hj
  clear hvc hvb hj
  go_enter Try.func4, Try.ntmps4
  go_wp2_with fail
  refine (SM.out _).mono ?_
  rintro e w1 ⟨rfl, hb1⟩
  have HB1 := Lib.hid hb1
  clear hb1
  go_wp2_with fail
  refine (new_any (A := fun b => w.heap.size ≤ b) (fun b hb => by have := HB1.out.size; omega)).mono ?_
  rintro e w2 ⟨rfl, hd, hf⟩
  have D := Lib.hid hd
  have FF := Lib.hid (((Fr.refl (fun b => w.heap.size ≤ b) w).below HB1.out).below hf)
  clear hd hf
  go_wp2_with fail
  refine (append_at D.out ((3 : Nat) : Int) a 0 (app_calm new_calm (by decide) (by show 0 + a.length ≤ _; omega)).1 (s' := s1 a) (app_calm new_calm (by decide) (by show 0 + a.length ≤ _; omega)).2 (by omega)).mono ?_
  rintro e w9 ⟨rfl, hd, hf⟩
  replace D := Lib.hid hd
  replace FF := Lib.hid (FF.out.trans hf)
  clear hd hf
  go_wp2_with fail
  refine (flush_at D.out ((3 : Nat) : Int) 0 (flu_calm (c1 a) (l1 a) (by decide)).1 (s' := s2 a) (flu_calm (c1 a) (l1 a) (by decide)).2).mono ?_
  rintro e w9 ⟨rfl, hd, hf⟩
  replace D := Lib.hid hd
  replace FF := Lib.hid (FF.out.trans hf)
  clear hd hf
  go_wp2_with fail
  refine (append_at D.out ((4 : Nat) : Int) [] 0 (app_calm (c2 a) (by decide) (by rw [f24]; decide)).1 (s' := s3 a []) (app_calm (c2 a) (by decide) (by rw [f24]; decide)).2 (by decide)).mono ?_
  rintro e w9 ⟨rfl, hd, hf⟩
  replace D := Lib.hid hd
  replace FF := Lib.hid (FF.out.trans hf)
  clear hd hf
  go_wp2_with fail
  refine (turn_at D.out ((3 : Nat) : Int) ((4 : Nat) : Int) 0 ((tur_calm (c3 a []) (by decide) (by decide) (by decide)).1.trans (if_neg (by rw [u34, f34]; decide))) (s' := mv (s3 a [])) ((tur_calm (c3 a []) (by decide) (by decide) (by decide)).2.trans (if_neg (by rw [u34, f34]; decide)))).mono ?_
  rintro e w9 ⟨rfl, hd, hf⟩
  replace D := Lib.hid hd
  replace FF := Lib.hid (FF.out.trans hf)
  clear hd hf
  go_wp2_with fail
  have RR := Lib.hid (rd D.out.1 (by rw [um, fm, u34, f34]; rfl) ks)
  rw [fm, f34] at RR
  have ZZ := Lib.hid (crash_file D.out.1 ks (f := 4) (by decide)).1
  rw [fm4] at ZZ
  refine (crash_at D.out (HV.out.fr FF.out (fun b hb hn => by have := HVB.out b hb; omega)) HJ.out (fun b hb hn => by have := HVB.out b hb; omega) (s' := crashS ks (mv (s3 a []))) rfl).mono ?_
  rintro e w9 ⟨rfl, hd, hf⟩
  replace D := Lib.hid hd
  replace FF := Lib.hid (FF.out.trans hf)
  clear hd hf
  go_wp2_with fail
  refine (start_at D.out (s' := startS (crashS ks (mv (s3 a [])))) rfl).mono ?_
  rintro e w9 ⟨rfl, hd, hf⟩
  replace D := Lib.hid hd
  replace FF := Lib.hid (FF.out.trans hf)
  clear hd hf
  go_wp2_with fail
  refine (read_at (s := startS (crashS ks (mv (s3 a [])))) D.out ((3 : Nat) : Int) 0 [] RR.out.1 RR.out.2).mono ?_
  rintro e w9 ⟨rfl, hd, hf⟩
  replace D := Lib.hid hd
  replace FF := Lib.hid (FF.out.trans hf)
  clear hd hf
  go_wp2_with fail
  have hz : sizeN (startS (crashS ks (mv (s3 a [])))) ((4 : Nat) : Int) = 0 := by rw [size_nat _ (by decide)]; exact Nat.le_zero.1 ZZ.out
  refine (size_at D.out ((4 : Nat) : Int) 0 hz).mono ?_
  rintro e w9 ⟨rfl, rfl⟩
  go_wp2_with fail
  go_ret
  exact ⟨rfl, FF.out.to_below (Nat.le_refl _)⟩

set_option maxHeartbeats 4000000 in
theorem whole (ha : a.length ≤ 50000) (hb : b.length ≤ 50000) (hv : Ints w v ks) (hj : ∀ z ∈ ks, J64 z) (hvb : ∀ b, vblock v = some b → b < w.heap.size) {st : Int} (h0 : (st != 0) = true) (h0' : (st == 0) = false) (h1 : (st != 1) = true) (h1' : (st == 1) = false) : Calls Try.prog 4 #[.string (sv a), .string (sv b), .int .i64 st, v] w (IsTrue w) := by
  have SM := Lib.hid (fun W => small_any W)
  have ha' : a.length ≤ 16777216 := by omega
  have d1 : decide ((50000 : Int) < ((sv a).size : Int)) = false := decide_eq_false (by rw [sv_size]; omega)
  have d2 : decide ((50000 : Int) < ((sv b).size : Int)) = false := decide_eq_false (by rw [sv_size]; omega)
  have t0 : (sv []).toList = [] := sv_toList _
  obtain ⟨va, vc, rfl, hvc⟩ := hv
  have HV : Hid (Ints w (.slice va ks.length vc) ks) := Lib.hid ⟨va, vc, rfl, hvc⟩
  have HVB := Lib.hid hvb
  have HJ := Lib.hid hj
  clear hvc hvb hj
  go_enter Try.func4, Try.ntmps4
  go_wp2_with fail
  refine (SM.out _).mono ?_
  rintro e w1 ⟨rfl, hb1⟩
  have HB1 := Lib.hid hb1
  clear hb1
  go_wp2_with fail
  refine (new_any (A := fun b => w.heap.size ≤ b) (fun b hb => by have := HB1.out.size; omega)).mono ?_
  rintro e w2 ⟨rfl, hd, hf⟩
  have D := Lib.hid hd
  have FF := Lib.hid (((Fr.refl (fun b => w.heap.size ≤ b) w).below HB1.out).below hf)
  clear hd hf
  go_wp2_with fail
  refine (append_at D.out ((3 : Nat) : Int) a 0 (app_calm new_calm (by decide) (by show 0 + a.length ≤ _; omega)).1 (s' := s1 a) (app_calm new_calm (by decide) (by show 0 + a.length ≤ _; omega)).2 (by omega)).mono ?_
  rintro e w9 ⟨rfl, hd, hf⟩
  replace D := Lib.hid hd
  replace FF := Lib.hid (FF.out.trans hf)
  clear hd hf
  go_wp2_with fail
  refine (flush_at D.out ((3 : Nat) : Int) 0 (flu_calm (c1 a) (l1 a) (by decide)).1 (s' := s2 a) (flu_calm (c1 a) (l1 a) (by decide)).2).mono ?_
  rintro e w9 ⟨rfl, hd, hf⟩
  replace D := Lib.hid hd
  replace FF := Lib.hid (FF.out.trans hf)
  clear hd hf
  go_wp2_with fail
  refine (append_at D.out ((4 : Nat) : Int) b 0 (app_calm (c2 a) (by decide) (by rw [f24]; show 0 + b.length ≤ _; omega)).1 (s' := s3 a b) (app_calm (c2 a) (by decide) (by rw [f24]; show 0 + b.length ≤ _; omega)).2 (by omega)).mono ?_
  rintro e w9 ⟨rfl, hd, hf⟩
  replace D := Lib.hid hd
  replace FF := Lib.hid (FF.out.trans hf)
  clear hd hf
  go_wp2_with fail
  refine (flush_at D.out ((4 : Nat) : Int) 0 (flu_calm (c3 a b) (l3 a b) (by decide)).1 (s' := s4 a b) (flu_calm (c3 a b) (l3 a b) (by decide)).2).mono ?_
  rintro e w9 ⟨rfl, hd, hf⟩
  replace D := Lib.hid hd
  replace FF := Lib.hid (FF.out.trans hf)
  clear hd hf
  go_wp2_with fail
  refine (turn_at D.out ((3 : Nat) : Int) ((4 : Nat) : Int) 0 ((tur_calm (c4 a b) (by decide) (by decide) (by decide)).1.trans (if_neg (by rw [u44, f44]; omega))) (s' := mv (s4 a b)) ((tur_calm (c4 a b) (by decide) (by decide) (by decide)).2.trans (if_neg (by rw [u44, f44]; omega)))).mono ?_
  rintro e w9 ⟨rfl, hd, hf⟩
  replace D := Lib.hid hd
  replace FF := Lib.hid (FF.out.trans hf)
  clear hd hf
  go_wp2_with fail
  have RR := Lib.hid (rd D.out.1 (by rw [um, fm, u44, f44]) ks)
  rw [fm, f44] at RR
  have ZZ := Lib.hid (crash_file D.out.1 ks (f := 4) (by decide)).1
  rw [fm4] at ZZ
  refine (crash_at D.out (HV.out.fr FF.out (fun b hb hn => by have := HVB.out b hb; omega)) HJ.out (fun b hb hn => by have := HVB.out b hb; omega) (s' := crashS ks (mv (s4 a b))) rfl).mono ?_
  rintro e w9 ⟨rfl, hd, hf⟩
  replace D := Lib.hid hd
  replace FF := Lib.hid (FF.out.trans hf)
  clear hd hf
  go_wp2_with fail
  refine (start_at D.out (s' := startS (crashS ks (mv (s4 a b)))) rfl).mono ?_
  rintro e w9 ⟨rfl, hd, hf⟩
  replace D := Lib.hid hd
  replace FF := Lib.hid (FF.out.trans hf)
  clear hd hf
  go_wp2_with fail
  refine (read_at (s := startS (crashS ks (mv (s4 a b)))) D.out ((3 : Nat) : Int) 0 b RR.out.1 RR.out.2).mono ?_
  rintro e w9 ⟨rfl, hd, hf⟩
  replace D := Lib.hid hd
  replace FF := Lib.hid (FF.out.trans hf)
  clear hd hf
  go_wp2_with fail
  have hz : sizeN (startS (crashS ks (mv (s4 a b)))) ((4 : Nat) : Int) = 0 := by rw [size_nat _ (by decide)]; exact Nat.le_zero.1 ZZ.out
  refine (size_at D.out ((4 : Nat) : Int) 0 hz).mono ?_
  rintro e w9 ⟨rfl, rfl⟩
  go_wp2_with fail
  go_ret
  exact ⟨rfl, FF.out.to_below (Nat.le_refl _)⟩

end
theorem walk {S T : ByteArray} {st : Int} {v : Value} {ks : List Int} {w : World} (_ : S.size ≤ 140737488355328) (_ : T.size ≤ 140737488355328) (_ : J64 st) (hv : Ints w v ks) (hj : ∀ z ∈ ks, J64 z) (hvb : ∀ b, vblock v = some b → b < w.heap.size) :
    Calls Try.prog 4 #[.string S, .string T, .int .i64 st, v] w (IsTrue w) := by
  by_cases h : 50000 < S.size ∨ 50000 < T.size
  · obtain ⟨a, c, rfl, _⟩ := hv
    exact long h
  · obtain ⟨a, rfl⟩ : ∃ a, S = sv a := ⟨_, (sv_of S).symm⟩
    obtain ⟨b, rfl⟩ : ∃ b, T = sv b := ⟨_, (sv_of T).symm⟩
    rw [sv_size, sv_size] at h
    have ha : a.length ≤ 50000 := by omega
    have hb : b.length ≤ 50000 := by omega
    by_cases h0 : st = 0
    · subst h0
      exact none_ ha hb hv hj hvb
    · by_cases h1 : st = 1
      · subst h1
        by_cases hbe : b = []
        · subst hbe
          exact empty ha hv hj hvb
        · exact half ha hb hv hj hvb hbe
      · exact whole ha hb hv hj hvb (by simp [h0]) (by simp [h0]) (by simp [h1]) (by simp [h1])
end Go.Proofs.Ytjgedopbcopnkaa.diskTurns
