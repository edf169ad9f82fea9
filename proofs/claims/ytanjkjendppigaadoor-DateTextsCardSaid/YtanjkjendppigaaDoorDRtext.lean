/- The reference's two and Text. Conditions: none beyond those of each lemma. -/
import Derived.Test.YtanjkjendppigaaDoorDText
namespace Go.Proofs.YtanjkjendppigaaDoor.Dy
open Go.RowKit Cal
set_option linter.unusedVariables false
set_option maxRecDepth 100000

theorem infoByte : (Tryd.prog.info? 5).map (fun i => (i.zero, i.size, i.bytes)) = some (some (.int .u8 0), 1, 1) := by kernel_rfl
theorem add_zero_addr (g i : Nat) : (⟨g, 0, none⟩ : Addr).add i = ⟨g, i, none⟩ := by unfold Addr.add; split <;> simp_all
def bc (l : Bs) : List Value := l.map fun c => Value.int .u8 (c.toNat : Int)
theorem conv_lit (W : World) (l : Bs) (cs : Array Value) (n : Nat) (hcs : cs = (bc l).toArray) (hn : n = l.length) :
    (convert 49 9 (.slice (some ⟨W.heap.size, 0, none⟩) n n)).run Tryd.prog (W.alloc (.cells cs 5)) = .ok (.string (sv l)) (W.alloc (.cells cs 5)) := by
  subst hcs hn
  refine run_convert_bytes_back (P := Tryd.prog) _ 49 9 5 ⟨W.heap.size, 0, none⟩ l.length l Tryd.underlying49 Tryd.underlying5 Tryd.underlying9 (fun j hj => ?_)
  rw [add_zero_addr, (Blk.new W 5 (bc l).toArray).cell]
  simp [bc, List.getElem?_map, List.getElem?_eq_getElem hj]
theorem two_walk (ni a b x y : Int) (S : ByteArray) (ha : 0 ≤ a ∧ a < 10) (hb : 0 ≤ b ∧ b < 10) (h0 : 0 ≤ ni ∧ ni < 100) (h1 : ni / 10 = a) (h2 : ni % 10 = b) (hx : 48 + a = x) (hy : 48 + b = y) (w : World)
    (hcv : (convert 49 9 (.slice (some ⟨w.heap.size, 0, none⟩) 2 2)).run Tryd.prog (w.alloc (.cells #[.int .u8 x, .int .u8 y] 5)) = .ok (.string S) (w.alloc (.cells #[.int .u8 x, .int .u8 y] 5))) :
    Calls Tryd.prog 34 #[.int .i64 ni] w fun e w' => e = .returned (.string S) ∧ Below w.heap.size w w' := by
  have hmx : x % 256 = x := by omega
  have hmy : y % 256 = y := by omega
  have hwx : IntKind.u8.wrap x = x := by show x % 256 = x; exact hmx
  have hwy : IntKind.u8.wrap y = y := by show y % 256 = y; exact hmy
  go_enter Tryd.func34, Tryd.ntmps34
  go_wp2_with fail
  go_ret
  exact ⟨rfl, below_alloc _ _⟩
theorem two_any (n : Nat) (hn : n < 100) (w : World) : Calls Tryd.prog 34 #[.int .i64 (n : Int)] w fun e w' => e = .returned (.string (sv (d2 n))) ∧ Below w.heap.size w w' := by
  refine two_walk (n : Int) ((n / 10 : Nat) : Int) ((n % 10 : Nat) : Int) (48 + ((n / 10 : Nat) : Int)) (48 + ((n % 10 : Nat) : Int)) _ (by omega) (by omega) (by omega) (by omega) (by omega) rfl rfl w (conv_lit w (d2 n) _ 2 ?_ (by unfold d2; rfl))
  unfold d2 bc
  simp only [List.map_cons, List.map_nil]
  rw [dg_toNat (by omega), dg_toNat (by omega)]
  simp
theorem rtext_bad (h : Int) (hh : isH h = false) (w : World) : Calls Tryd.prog 19 #[.int .i64 h] w fun e w' => e = .returned (.string (sv (textB h))) ∧ Below w.heap.size w w' := by
  have HO := Lib.hid (rof_any h w)
  rw [ofV_bad hh] at HO
  have hr : sv (textB h) = ⟨#[]⟩ := by unfold textB; rw [if_neg (by rw [hh]; decide)]; rfl
  rw [hr]
  clear hr hh
  unfold dv at *
  go_enter Tryd.func19, Tryd.ntmps19
  go_wp2_with fail
  refine (HO.out).mono ?_
  rintro e w2 ⟨rfl, hb⟩
  have HB := Lib.hid hb
  clear hb
  go_wp2_with fail
  go_ret
  exact ⟨rfl, below_trans HB.out (below_alloc _ _)⟩
theorem cat8 (A B M D H : Bs) : sv A ++ sv B ++ ByteArray.mk #[45] ++ sv M ++ ByteArray.mk #[45] ++ sv D ++ ByteArray.mk #[32] ++ sv H ++ ByteArray.mk #[104] = sv (A ++ (B ++ (45 :: (M ++ (45 :: (D ++ (32 :: (H ++ [104])))))))) := by
  apply sv_ext
  simp [sv]
set_option maxHeartbeats 2000000 in
theorem rtext_good (t : Nat) (ht : t ≤ 16777216) (w : World) : Calls Tryd.prog 19 #[.int .i64 (t : Int)] w fun e w' => e = .returned (.string (sv (text t))) ∧ Below w.heap.size w w' := by
  have HO := Lib.hid (rof_good t ht w)
  obtain ⟨s1, s2, s3, s4⟩ := dateOf_small ht
  have HRES := Lib.hid (show text t = d2 ((dateOf t).y / 100) ++ (d2 ((dateOf t).y % 100) ++ (45 :: (d2 (dateOf t).m ++ (45 :: (d2 (dateOf t).d ++ (32 :: (d2 (dateOf t).h ++ [104]))))))) from rfl)
  unfold dtv dv at HO
  generalize (dateOf t).y = y at *
  generalize (dateOf t).m = m at *
  generalize (dateOf t).d = d at *
  generalize (dateOf t).h = h at *
  have HA := Lib.hid (fun W => two_any (y / 100) (by omega) W)
  have HB2 := Lib.hid (fun W => two_any (y % 100) (by omega) W)
  have HM := Lib.hid (fun W => two_any m s2 W)
  have HD := Lib.hid (fun W => two_any d s3 W)
  have HH := Lib.hid (fun W => two_any h s4 W)
  have z0 : (sv (d2 (y / 100))).size = 2 := rfl
  have z1 : (sv (d2 (y % 100))).size = 2 := rfl
  have z2 : (sv (d2 m)).size = 2 := rfl
  have z3 : (sv (d2 d)).size = 2 := rfl
  have z4 : (sv (d2 h)).size = 2 := rfl
  have q1 : ((y / 100 : Nat) : Int) = IntKind.i64.wrap (((y : Nat) : Int).tdiv 100) := by rw [Int.tdiv_eq_ediv_of_nonneg (by omega), IntKind.wrap_i64]; omega
  have q2 : ((y % 100 : Nat) : Int) = ((y : Nat) : Int).tmod 100 := by rw [Int.tmod_eq_emod_of_nonneg (by omega)]; omega
  rw [q1] at HA
  rw [q2] at HB2
  clear q1 q2
  have hyb : 0 ≤ ((y : Nat) : Int) ∧ ((y : Nat) : Int) < 10000 := by omega
  rw [HRES.out, ← cat8]
  generalize sv (d2 (y / 100)) = AS at *
  generalize sv (d2 (y % 100)) = YS at *
  generalize sv (d2 m) = MS at *
  generalize sv (d2 d) = DS at *
  generalize sv (d2 h) = HS at *
  generalize ((y : Nat) : Int) = yi at *
  generalize ((m : Nat) : Int) = mi at *
  generalize ((d : Nat) : Int) = di at *
  generalize ((h : Nat) : Int) = hi at *
  obtain ⟨hy0, hy1⟩ := hyb
  clear s1 s2 s3 s4 HRES
  go_enter Tryd.func19, Tryd.ntmps19
  go_wp2_with fail
  refine (HO.out).mono ?_
  rintro e w2 ⟨rfl, hb⟩
  have HB := Lib.hid hb
  clear hb
  go_wp2_with fail
  refine hide_world (X := fun W => W.cell? ⟨w2.heap.size, 0, none⟩ = some (.int .i64 yi) ∧ W.cell? ⟨w2.heap.size, 1, none⟩ = some (.int .i64 mi) ∧ W.cell? ⟨w2.heap.size, 2, none⟩ = some (.int .i64 di) ∧ W.cell? ⟨w2.heap.size, 3, none⟩ = some (.int .i64 hi) ∧ Below w.heap.size w W) ?_ ?_
  · have hb := Blk.new w2 23 #[.int .i64 yi, .int .i64 mi, .int .i64 di, .int .i64 hi]
    have hbb := below_trans HB.out (below_alloc w2 (.cells #[.int .i64 yi, .int .i64 mi, .int .i64 di, .int .i64 hi] 23))
    exact ⟨hb.cell 0, hb.cell 1, hb.cell 2, hb.cell 3, hbb⟩
  generalize w2.heap.size = g
  rintro W3 ⟨e0, e1, e2, e3, e4⟩
  clear HB HO
  go_region_held3 (fun W => W.cell? ⟨g, 0, none⟩ = some (.int .i64 yi) ∧ W.cell? ⟨g, 1, none⟩ = some (.int .i64 mi) ∧ W.cell? ⟨g, 2, none⟩ = some (.int .i64 di) ∧ W.cell? ⟨g, 3, none⟩ = some (.int .i64 hi) ∧ Below w.heap.size w W)
    (((try dsimp only); (try go_split_ands); (repeat' apply And.intro); all_goals (first | assumption | exact cell_below (by assumption) (by assumption) | exact below_trans (by assumption) (by assumption) | exact Below.drew (by assumption) | go_keep)))
    ((first
      | (go_at_call 34; with_reducible refine (HA.out _).mono ?_; rintro e w10 ⟨rfl, hb10⟩)
      | (go_at_call 34; with_reducible refine (HB2.out _).mono ?_; rintro e w11 ⟨rfl, hb11⟩)
      | (go_at_call 34; with_reducible refine (HM.out _).mono ?_; rintro e w12 ⟨rfl, hb12⟩)
      | (go_at_call 34; with_reducible refine (HD.out _).mono ?_; rintro e w13 ⟨rfl, hb13⟩)
      | (go_at_call 34; with_reducible refine (HH.out _).mono ?_; rintro e w14 ⟨rfl, hb14⟩)))
  --GG
  go_wp2_with fail
  go_ret
  go_split_ands
  exact ⟨rfl, by assumption⟩
theorem rtext_any (h : Int) (w : World) : Calls Tryd.prog 19 #[.int .i64 h] w fun e w' => e = .returned (.string (sv (textB h))) ∧ Below w.heap.size w w' := by
  by_cases hh : isH h = true
  · obtain ⟨h1, h2⟩ := isH_of hh
    have hr : textB h = text h.toNat := by unfold textB; rw [if_pos hh]
    rw [hr]
    obtain ⟨t, rfl⟩ : ∃ t : Nat, h = (t : Int) := ⟨h.toNat, by omega⟩
    exact rtext_good t (by omega) w
  · exact rtext_bad h (by simpa using hh) w
end Go.Proofs.YtanjkjendppigaaDoor.Dy
