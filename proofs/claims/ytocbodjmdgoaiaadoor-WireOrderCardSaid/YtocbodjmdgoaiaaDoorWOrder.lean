/- The comparison of two values, walked. Conditions: the values can be read. -/
import Derived.Test.YtocbodjmdgoaiaaDoorWCmp
namespace Go.Proofs.YtocbodjmdgoaiaaDoor
open Go.RowKit Wm
set_option linter.unusedVariables false

theorem number_q (a b : Int) (w : World) : Calls Tryd.prog 55 #[.int .i64 a, .int .i64 b] w fun e w' => e = .returned (.int .i64 (cmpI a b)) ∧ w' = w := (number_any a b w).mono fun _ _ ⟨h, h'⟩ => ⟨h, h'.symm⟩
theorem text_q (a b : Bs) (w : World) : Calls Tryd.prog 40 #[.string (sv a), .string (sv b)] w fun e w' => e = .returned (.int .i64 (cmpT a b)) ∧ w' = w := (text_cmp a b w).mono fun _ _ ⟨h, h'⟩ => ⟨h, h'.symm⟩
theorem take_succ_eq {α : Type} {l m : List α} {k : Nat} {x : α} (h : l.take k = m.take k) (hx : l[k]? = some x) (hy : m[k]? = some x) : l.take (k + 1) = m.take (k + 1) := by
  obtain ⟨hk, rfl⟩ := List.getElem?_eq_some_iff.1 hx
  obtain ⟨hk', e⟩ := List.getElem?_eq_some_iff.1 hy
  rw [List.take_succ_eq_append_getElem hk, List.take_succ_eq_append_getElem hk', h, e]
theorem cmpL_differ {α : Type} [DecidableEq α] (cmp : α → α → Int) {l m : List α} {k : Nat} {x y : α} (h : l.take k = m.take k) (hx : l[k]? = some x) (hy : m[k]? = some y) (hne : x ≠ y) : cmpL cmp l m = cmp x y := by
  obtain ⟨hk, rfl⟩ := List.getElem?_eq_some_iff.1 hx
  obtain ⟨hk', rfl⟩ := List.getElem?_eq_some_iff.1 hy
  have e1 : l = l.take k ++ l[k] :: l.drop (k + 1) := by rw [← List.drop_eq_getElem_cons hk, List.take_append_drop]
  have e2 : m = l.take k ++ m[k] :: m.drop (k + 1) := by rw [h, ← List.drop_eq_getElem_cons hk', List.take_append_drop]
  have := cmpL_at cmp (l.take k) l[k] m[k] (l.drop (k + 1)) (m.drop (k + 1)) hne
  rwa [← e1, ← e2] at this
theorem cmpL_same {α : Type} [DecidableEq α] (cmp : α → α → Int) {l m : List α} {k : Nat} (h : l.take k = m.take k) (hk : k = l.length ∨ k = m.length) (h1 : k ≤ l.length) (h2 : k ≤ m.length) : cmpL cmp l m = cmpI l.length m.length := by
  have e1 : l = l.take k ++ l.drop k := (List.take_append_drop k l).symm
  have e2 : m = l.take k ++ m.drop k := by rw [h]; exact (List.take_append_drop k m).symm
  have := cmpL_end cmp (l.take k) (l.drop k) (m.drop k) (by
    rcases hk with rfl | rfl
    · left; simp
    · right; simp)
  rwa [← e1, ← e2] at this

theorem quiet_add_same {P : Program} {f : FuncId} {args : Array Value} {w : World} {a n : Nat} {v : Value}
    (h : Calls P f args (w.drewN (a + n)) fun e w' => e = .returned v ∧ w' = w.drewN (a + n)) :
    Calls P f args (w.drewN (a + n)) fun e w'' => e = .returned v ∧ ∃ m, w'' = w.drewN (a + m) :=
  h.mono fun _ _ ⟨he, hm⟩ => ⟨he, n, hm⟩

set_option maxHeartbeats 4000000 in
set_option maxRecDepth 100000 in
theorem compare_any {v u : Va} {w : World} (hv : RdVa w v) (hu : RdVa w u) :
    Calls Tryd.prog 39 #[vaV v, vaV u] w fun e w' => e = .returned (.int .i64 (cmpV (kd v.k) v u)) ∧ Below w.heap.size w w' := by
  have hkd : bits .and .i64 v.k 3 = kd v.k := rfl
  have hC : cmpV (kd v.k) v u = if kd v.k = 0 then cmpI v.n u.n else if kd v.k = 1 then cmpT v.s u.s else if kd v.k = 2 then cmpL cmpI v.l u.l else cmpL cmpT v.t u.t := rfl
  have HC := Lib.hid hC
  have HV := Lib.hid hv
  have HU := Lib.hid hu
  unfold vaV
  clear hv hu hC
  generalize kd v.k = q at *
  by_cases h0 : q = 0
  · subst h0
    have HR : Hid (cmpV 0 v u = cmpI v.n u.n) := Lib.hid (by rw [HC.out]; rfl)
    go_enter Tryd.func39, Tryd.ntmps39
    go_wp2_with fail
    refine (number_any _ _ _).mono ?_
    rintro e w1 ⟨rfl, rfl⟩
    go_wp2_with fail
    go_ret
    exact ⟨ret_i HR.out.symm, below_trans (below_alloc _ _) (below_alloc _ _)⟩
  · have e0 : (q == 0) = false := beq_eq_false_iff_ne.2 h0
    by_cases h1 : q = 1
    · subst h1
      have HR : Hid (cmpV 1 v u = cmpT v.s u.s) := Lib.hid (by rw [HC.out]; rfl)
      go_enter Tryd.func39, Tryd.ntmps39
      go_wp2_with fail
      refine (text_cmp _ _ _).mono ?_
      rintro e w1 ⟨rfl, rfl⟩
      go_wp2_with fail
      go_ret
      exact ⟨ret_i HR.out.symm, below_trans (below_alloc _ _) (below_alloc _ _)⟩
    · have e1 : (q == 1) = false := beq_eq_false_iff_ne.2 h1
      by_cases h2 : q = 2
      · subst h2
        have HR : Hid (cmpV 2 v u = cmpL cmpI v.l u.l) := Lib.hid (by rw [HC.out]; rfl)
        have hlv : v.l.length = v.ln := by have := HV.out.2.2.2.2.2.2.2.1.1; simpa [iv] using this
        have hlu : u.l.length = u.ln := by have := HU.out.2.2.2.2.2.2.2.1.1; simpa [iv] using this
        have hv63 := HV.out.2.2.2.1
        have hu63 := HU.out.2.2.2.1
        have HLV := Lib.hid hlv
        have HLU := Lib.hid hlu
        have hA : ∀ (x : Va) (W : World), VaAt (W.alloc (.cells #[.int .i64 x.k, .int .i64 x.n, .string (sv x.s), .slice x.la x.ln x.lc, .slice x.ta x.tn x.tc] 28)) W.heap.size 0 x := fun x W => by
          have hb := Blk.new W 28 #[.int .i64 x.k, .int .i64 x.n, .string (sv x.s), .slice x.la x.ln x.lc, .slice x.ta x.tn x.tc]
          exact ⟨hb.cell 0, hb.cell 1, hb.cell 2, hb.cell 3, hb.cell 4⟩
        have HA := Lib.hid hA
        clear hA hlv hlu
        go_enter Tryd.func39, Tryd.ntmps39
        go_wp2_with fail
        have hW : ∃ W2, W2 = (w.alloc (.cells #[.int .i64 v.k, .int .i64 v.n, .string (sv v.s), .slice v.la v.ln v.lc, .slice v.ta v.tn v.tc] 28)).alloc (.cells #[.int .i64 u.k, .int .i64 u.n, .string (sv u.s), .slice u.la u.ln u.lc, .slice u.ta u.tn u.tc] 28) := ⟨_, rfl⟩
        obtain ⟨W2, hW2⟩ := hW
        have hbel : Below w.heap.size w W2 := by rw [hW2]; exact below_trans (below_alloc _ _) (below_alloc _ _)
        have c1 : W2.cell? ⟨w.heap.size, 3, none⟩ = some (.slice v.la v.ln v.lc) := by
          rw [hW2]
          have hb := (Blk.new w 28 #[.int .i64 v.k, .int .i64 v.n, .string (sv v.s), .slice v.la v.ln v.lc, .slice v.ta v.tn v.tc]).alloc (.cells #[.int .i64 u.k, .int .i64 u.n, .string (sv u.s), .slice u.la u.ln u.lc, .slice u.ta u.tn u.tc] 28)
          exact hb.cell 3
        have c2 : W2.cell? ⟨w.heap.size + 1, 3, none⟩ = some (.slice u.la u.ln u.lc) := by
          rw [hW2]
          simp
        rw [← hW2]
        have RV := Lib.hid (HV.out.below hbel).2.2.2.2.2.2.2.1
        have RU := Lib.hid (HU.out.below hbel).2.2.2.2.2.2.2.1
        have HBEL := Lib.hid hbel
        clear hW2 hbel
        go_loopw [5] (fun i wr => ∃ k m : Nat, k ≤ v.ln ∧ k ≤ u.ln ∧ i = .int .i64 k ∧ wr = W2.drewN m ∧ Hid (v.l.take k = u.l.take k)) (fun i _ => v.ln - (intOf i).toNat)
        case atStart => exact ⟨0, 0, Nat.zero_le _, Nat.zero_le _, rfl, rfl, Lib.hid (by simp)⟩
        case round =>
          obtain ⟨k, m, hk1, hk2, rfl, rfl, HT⟩ := hrel
          by_cases hlt : k < v.ln ∧ k < u.ln
          · obtain ⟨hlt1, hlt2⟩ := hlt
            obtain ⟨ad1, x1, a1, _, hx1, hc1⟩ := RV.out.at_ hlt1
            obtain ⟨ad2, x2, a2, _, hx2, hc2⟩ := RU.out.at_ hlt2
            obtain ⟨x, hx, rfl⟩ : ∃ z, v.l[k]? = some z ∧ x1 = .int .i64 z := by
              rw [iv, List.getElem?_map] at hx1
              obtain ⟨z, hz, rfl⟩ := Option.map_eq_some_iff.1 hx1
              exact ⟨z, hz, rfl⟩
            obtain ⟨y, hy, rfl⟩ : ∃ z, u.l[k]? = some z ∧ x2 = .int .i64 z := by
              rw [iv, List.getElem?_map] at hx2
              obtain ⟨z, hz, rfl⟩ := Option.map_eq_some_iff.1 hx2
              exact ⟨z, hz, rfl⟩
            rw [a1] at c1
            rw [a2] at c2
            have HX := Lib.hid hx
            have HY := Lib.hid hy
            clear hx1 hx2 hx hy a1 a2
            by_cases hxy : x = y
            · subst hxy
              have e3 : (x != x) = false := by simp
              have e4 : (x == x) = true := by simp
              go_wp2_with fail
              go_quiet (fail)
              go_wp2_with fail
              go_roundw
              case rel => exact ⟨k + 1, _, by omega, by omega, by go_num, rfl, Lib.hid (take_succ_eq HT.out HX.out HY.out)⟩
              case measure => simp [intOf]; omega
            · have HD := Lib.hid (cmpL_differ cmpI HT.out HX.out HY.out hxy)
              have e3 : (x != y) = true := by simpa using hxy
              have e4 : (x == y) = false := by simpa using hxy
              clear hxy
              go_wp2_with fail
              go_quiet (fail)
              go_wp2_with fail
              go_quiet ((go_at_call 55; exact quiet_add_same (number_q _ _ _)))
              go_wp2_with fail
              go_ret
              exact ⟨ret_i (by rw [HR.out, HD.out]), below_drew (below_drew (below_drew HBEL.out _) _) _⟩
          · have HD := Lib.hid (cmpL_same cmpI HT.out (by have := HLV.out; have := HLU.out; omega) (by have := HLV.out; omega) (by have := HLU.out; omega))
            by_cases hlt1 : k < v.ln
            · have hge : ¬ k < u.ln := fun h => hlt ⟨hlt1, h⟩
              clear hlt
              go_wp2_with fail
              refine (number_any _ _ _).mono ?_
              rintro e w4 ⟨rfl, rfl⟩
              go_wp2_with fail
              go_ret
              exact ⟨ret_i (by rw [HR.out, HD.out, HLV.out, HLU.out]), below_drew HBEL.out _⟩
            · clear hlt
              go_wp2_with fail
              refine (number_any _ _ _).mono ?_
              rintro e w4 ⟨rfl, rfl⟩
              go_wp2_with fail
              go_ret
              exact ⟨ret_i (by rw [HR.out, HD.out, HLV.out, HLU.out]), below_drew HBEL.out _⟩
      · have e2 : (q == 2) = false := beq_eq_false_iff_ne.2 h2
        have HR : Hid (cmpV q v u = cmpL cmpT v.t u.t) := Lib.hid (by rw [HC.out, if_neg h0, if_neg h1, if_neg h2])
        clear h0 h1 h2
        have hlv : v.t.length = v.tn := by have := HV.out.2.2.2.2.2.2.2.2.1; simpa [tv] using this
        have hlu : u.t.length = u.tn := by have := HU.out.2.2.2.2.2.2.2.2.1; simpa [tv] using this
        have hv63 := HV.out.2.2.2.2.1
        have hu63 := HU.out.2.2.2.2.1
        have HLV := Lib.hid hlv
        have HLU := Lib.hid hlu
        have hA : ∀ (x : Va) (W : World), VaAt (W.alloc (.cells #[.int .i64 x.k, .int .i64 x.n, .string (sv x.s), .slice x.la x.ln x.lc, .slice x.ta x.tn x.tc] 28)) W.heap.size 0 x := fun x W => by
          have hb := Blk.new W 28 #[.int .i64 x.k, .int .i64 x.n, .string (sv x.s), .slice x.la x.ln x.lc, .slice x.ta x.tn x.tc]
          exact ⟨hb.cell 0, hb.cell 1, hb.cell 2, hb.cell 3, hb.cell 4⟩
        have HA := Lib.hid hA
        clear hA hlv hlu
        go_enter Tryd.func39, Tryd.ntmps39
        go_wp2_with fail
        have hW : ∃ W2, W2 = (w.alloc (.cells #[.int .i64 v.k, .int .i64 v.n, .string (sv v.s), .slice v.la v.ln v.lc, .slice v.ta v.tn v.tc] 28)).alloc (.cells #[.int .i64 u.k, .int .i64 u.n, .string (sv u.s), .slice u.la u.ln u.lc, .slice u.ta u.tn u.tc] 28) := ⟨_, rfl⟩
        obtain ⟨W2, hW2⟩ := hW
        have hbel : Below w.heap.size w W2 := by rw [hW2]; exact below_trans (below_alloc _ _) (below_alloc _ _)
        have c1 : W2.cell? ⟨w.heap.size, 4, none⟩ = some (.slice v.ta v.tn v.tc) := by
          rw [hW2]
          have hb := (Blk.new w 28 #[.int .i64 v.k, .int .i64 v.n, .string (sv v.s), .slice v.la v.ln v.lc, .slice v.ta v.tn v.tc]).alloc (.cells #[.int .i64 u.k, .int .i64 u.n, .string (sv u.s), .slice u.la u.ln u.lc, .slice u.ta u.tn u.tc] 28)
          exact hb.cell 4
        have c2 : W2.cell? ⟨w.heap.size + 1, 4, none⟩ = some (.slice u.ta u.tn u.tc) := by
          rw [hW2]
          simp
        rw [← hW2]
        have RV := Lib.hid (HV.out.below hbel).2.2.2.2.2.2.2.2
        have RU := Lib.hid (HU.out.below hbel).2.2.2.2.2.2.2.2
        have HBEL := Lib.hid hbel
        clear hW2 hbel
        go_loopw [6] (fun i wr => ∃ k m : Nat, k ≤ v.tn ∧ k ≤ u.tn ∧ i = .int .i64 k ∧ wr = W2.drewN m ∧ Hid (v.t.take k = u.t.take k)) (fun i _ => v.tn - (intOf i).toNat)
        case atStart => exact ⟨0, 0, Nat.zero_le _, Nat.zero_le _, rfl, rfl, Lib.hid (by simp)⟩
        case round =>
          obtain ⟨k, m, hk1, hk2, rfl, rfl, HT⟩ := hrel
          by_cases hlt : k < v.tn ∧ k < u.tn
          · obtain ⟨hlt1, hlt2⟩ := hlt
            obtain ⟨ad1, x1, a1, _, hx1, hc1⟩ := RV.out.at_ hlt1
            obtain ⟨ad2, x2, a2, _, hx2, hc2⟩ := RU.out.at_ hlt2
            obtain ⟨x, hx, rfl⟩ : ∃ z, v.t[k]? = some z ∧ x1 = .string (sv z) := by
              rw [tv, List.getElem?_map] at hx1
              obtain ⟨z, hz, rfl⟩ := Option.map_eq_some_iff.1 hx1
              exact ⟨z, hz, rfl⟩
            obtain ⟨y, hy, rfl⟩ : ∃ z, u.t[k]? = some z ∧ x2 = .string (sv z) := by
              rw [tv, List.getElem?_map] at hx2
              obtain ⟨z, hz, rfl⟩ := Option.map_eq_some_iff.1 hx2
              exact ⟨z, hz, rfl⟩
            rw [a1] at c1
            rw [a2] at c2
            have HX := Lib.hid hx
            have HY := Lib.hid hy
            clear hx1 hx2 hx hy a1 a2
            by_cases hxy : x = y
            · subst hxy
              generalize sv x = X at *
              have e3 : (X.toList != X.toList) = false := by simp
              have e4 : (X.toList == X.toList) = true := by simp
              have e5 : (!X.toList == X.toList) = false := by simp
              go_wp2_with fail
              go_quiet (fail)
              go_wp2_with fail
              go_roundw
              case rel => exact ⟨k + 1, _, by omega, by omega, by go_num, rfl, Lib.hid (take_succ_eq HT.out HX.out HY.out)⟩
              case measure => simp [intOf]; omega
            · have HD := Lib.hid (cmpL_differ cmpT HT.out HX.out HY.out hxy)
              have e4 : ((sv x).toList == (sv y).toList) = false := by rw [sv_toList, sv_toList]; simpa using hxy
              have e3 : ((sv x).toList != (sv y).toList) = true := by rw [sv_toList, sv_toList]; simpa using hxy
              have e5 : (!(sv x).toList == (sv y).toList) = true := by rw [e4]; rfl
              have CT := Lib.hid (fun W => text_q x y W)
              clear hxy
              generalize sv x = X at *
              generalize sv y = Y at *
              go_wp2_with fail
              go_quiet (fail)
              go_wp2_with fail
              go_quiet ((go_at_call 40; exact quiet_add_same (CT.out _)))
              go_wp2_with fail
              go_ret
              exact ⟨ret_i (by rw [HR.out, HD.out]), below_drew (below_drew (below_drew HBEL.out _) _) _⟩
          · have HD := Lib.hid (cmpL_same cmpT HT.out (by have := HLV.out; have := HLU.out; omega) (by have := HLV.out; omega) (by have := HLU.out; omega))
            by_cases hlt1 : k < v.tn
            · have hge : ¬ k < u.tn := fun h => hlt ⟨hlt1, h⟩
              clear hlt
              go_wp2_with fail
              refine (number_any _ _ _).mono ?_
              rintro e w4 ⟨rfl, rfl⟩
              go_wp2_with fail
              go_ret
              exact ⟨ret_i (by rw [HR.out, HD.out, HLV.out, HLU.out]), below_drew HBEL.out _⟩
            · clear hlt
              go_wp2_with fail
              refine (number_any _ _ _).mono ?_
              rintro e w4 ⟨rfl, rfl⟩
              go_wp2_with fail
              go_ret
              exact ⟨ret_i (by rw [HR.out, HD.out, HLV.out, HLU.out]), below_drew HBEL.out _⟩
end Go.Proofs.YtocbodjmdgoaiaaDoor
