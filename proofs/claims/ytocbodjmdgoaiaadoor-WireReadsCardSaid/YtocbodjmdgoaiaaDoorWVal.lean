/- The lists of values that the laws of wire take, as they lie in memory; which of them are light; the encoding of a value. Conditions: those of each. -/
import Derived.Test.YtocbodjmdgoaiaaDoorWSame
import Derived.Laws.Rows
namespace Go.Proofs.YtocbodjmdgoaiaaDoor
open Go.RowKit Wm
set_option linter.unusedVariables false

/-- A value: kind, int, text, and two lists with the places where they lie. -/
structure Va where
  k : Int
  n : Int
  s : Bs
  la : Option Addr
  ln : Nat
  lc : Nat
  l : List Int
  ta : Option Addr
  tn : Nat
  tc : Nat
  t : List Bs
def RdVa (w : World) (v : Va) : Prop := J64 v.k ∧ J64 v.n ∧ v.s.length ≤ 9223372036854775807 ∧ v.ln ≤ 9223372036854775807 ∧ v.tn ≤ 9223372036854775807 ∧ (∀ z ∈ v.l, J64 z) ∧ (∀ z ∈ v.t, z.length ≤ 9223372036854775807) ∧ Rd w v.la v.ln (iv v.l) ∧ Rd w v.ta v.tn (tv v.t)
/-- The list of values at an address, one cell for each of its five parts. -/
def VaAt (w : World) (b o : Nat) (v : Va) : Prop :=
  w.cell? ⟨b, o, none⟩ = some (.int .i64 v.k) ∧ w.cell? ⟨b, o + 1, none⟩ = some (.int .i64 v.n) ∧ w.cell? ⟨b, o + 2, none⟩ = some (.string (sv v.s)) ∧
    w.cell? ⟨b, o + 3, none⟩ = some (.slice v.la v.ln v.lc) ∧ w.cell? ⟨b, o + 4, none⟩ = some (.slice v.ta v.tn v.tc)
def RdV (w : World) (A : Option Addr) (n : Nat) (vs : List Va) : Prop :=
  vs.length = n ∧ (∀ v ∈ vs, RdVa w v) ∧ (0 < n → ∃ b off, A = some ⟨b, off, none⟩ ∧ b < w.heap.size ∧ ∀ j v, vs[j]? = some v → VaAt w b (off + j * 5) v)
theorem RdVa.below {w w' : World} {v : Va} (h : RdVa w v) (hb : Below w.heap.size w w') : RdVa w' v :=
  ⟨h.1, h.2.1, h.2.2.1, h.2.2.2.1, h.2.2.2.2.1, h.2.2.2.2.2.1, h.2.2.2.2.2.2.1, h.2.2.2.2.2.2.2.1.below hb, h.2.2.2.2.2.2.2.2.below hb⟩
theorem RdV.below {w w' : World} {A : Option Addr} {n : Nat} {vs : List Va} (h : RdV w A n vs) (hb : Below w.heap.size w w') : RdV w' A n vs :=
  ⟨h.1, fun v hv => (h.2.1 v hv).below hb, fun hn => by
    obtain ⟨b, off, e, hl, hc⟩ := h.2.2 hn
    have hk : ∀ o, w'.cell? ⟨b, o, none⟩ = w.cell? ⟨b, o, none⟩ := fun o => hb.cell (p := ⟨b, o, none⟩) hl
    refine ⟨b, off, e, Nat.lt_of_lt_of_le hl hb.size, fun j v hv => ?_⟩
    unfold VaAt
    rw [hk, hk, hk, hk, hk]
    exact hc j v hv⟩
def lightT (t : Bs) : Bool := decide (t.length ≤ 500)
def lightV (v : Va) : Bool := decide (v.s.length ≤ 500) && decide (v.ln ≤ 50) && decide (v.tn ≤ 50) && v.t.all lightT
def lightB (vs : List Va) : Bool := decide (vs.length ≤ 20) && vs.all lightV
theorem light_ret {a b : Bool} (h : a = b) : Ending.returned (.bool a) = .returned (.bool b) := by rw [h]
theorem all_take_succ {α : Type} (p : α → Bool) (l : List α) (k : Nat) (x : α) (h : l[k]? = some x) : (l.take (k + 1)).all p = ((l.take k).all p && p x) := by
  obtain ⟨hk, rfl⟩ := List.getElem?_eq_some_iff.1 h
  rw [List.take_succ_eq_append_getElem hk, List.all_append]
  simp
theorem all_no {α : Type} (p : α → Bool) (l : List α) (k : Nat) (x : α) (h : l[k]? = some x) (hx : p x = false) : l.all p = false := by
  rw [List.all_eq_false]
  exact ⟨x, List.mem_of_getElem? h, by simp [hx]⟩

set_option maxHeartbeats 2000000 in
set_option maxRecDepth 100000 in
theorem light_any {A : Option Addr} {n c : Nat} {vs : List Va} {w : World} (h : RdV w A n vs) (hn : n ≤ 9223372036854775807) :
    Calls Tryd.prog 9 #[.slice A n c] w fun e w' => e = .returned (.bool (lightB vs)) ∧ w = w' := by
  have hlen := h.1
  have HR := Lib.hid h
  have HL := Lib.hid hlen
  clear h hlen
  by_cases h20 : n ≤ 20
  · have d0 : decide ((20 : Int) < (n : Int)) = false := decide_eq_false (by omega)
    go_enter Tryd.func9, Tryd.ntmps9
    go_wp2_with fail
    go_loop [3] (fun i => ∃ k : Nat, k ≤ n ∧ i = .int .i64 k ∧ Hid ((vs.take k).all lightV = true)) (fun i => n - (intOf i).toNat)
    case atStart => exact ⟨0, Nat.zero_le _, rfl, Lib.hid (by simp)⟩
    case round =>
      obtain ⟨k, hk, rfl, HA⟩ := hrel
      by_cases hlt : k < n
      · obtain ⟨b, off, e, hl, hc⟩ := HR.out.2.2 (by omega)
        have hkv : k < vs.length := by have := HL.out; omega
        obtain ⟨v, hv⟩ : ∃ v, vs[k]? = some v := ⟨vs[k], List.getElem?_eq_getElem hkv⟩
        subst e
        obtain ⟨g0, g1, g2, g3, g4⟩ := hc k v hv
        obtain ⟨j1, j2, j3, j4, j5, j6, j7, rl, rt⟩ := HR.out.2.1 v (List.mem_of_getElem? hv)
        have hsz : (sv v.s).size = v.s.length := rfl
        have HSZ := Lib.hid hsz
        have HV := Lib.hid hv
        have hlv : lightV v = (decide (v.s.length ≤ 500) && decide (v.ln ≤ 50) && decide (v.tn ≤ 50) && v.t.all lightT) := rfl
        have HLV := Lib.hid hlv
        have HRT := Lib.hid rt
        have HT7 := Lib.hid j7
        clear hv hc hl rl rt hlv j1 j2 j6 j7
        generalize hS : sv v.s = S at *
        clear hS
        clear hsz
        have hSl : S.size ≤ 9223372036854775807 := by have := HSZ.out; omega
        by_cases hbad : 500 < S.size ∨ 50 < v.ln ∨ 50 < v.tn
        · have hres : lightB vs = false := by
            unfold lightB
            rw [all_no lightV vs k v HV.out (by rw [HLV.out]; have := HSZ.out; simp; omega), Bool.and_false]
          have HRES := Lib.hid hres
          clear hres
          generalize v.ln = ln at *
          generalize v.tn = tn at *
          by_cases b1 : 500 < S.size
          · have d1 : decide ((500 : Int) < (S.size : Int)) = true := decide_eq_true (by omega)
            clear hbad
            go_wp2_with fail
            go_ret
            exact ⟨light_ret HRES.out.symm, rfl⟩
          · have d1 : decide ((500 : Int) < (S.size : Int)) = false := decide_eq_false (by omega)
            by_cases b2 : 50 < ln
            · have d2 : decide ((50 : Int) < (ln : Int)) = true := decide_eq_true (by omega)
              clear hbad
              go_wp2_with fail
              go_ret
              exact ⟨light_ret HRES.out.symm, rfl⟩
            · have d2 : decide ((50 : Int) < (ln : Int)) = false := decide_eq_false (by omega)
              have d3 : decide ((50 : Int) < (tn : Int)) = true := decide_eq_true (by omega)
              clear hbad
              go_wp2_with fail
              go_ret
              exact ⟨light_ret HRES.out.symm, rfl⟩
        · have d1 : decide ((500 : Int) < (S.size : Int)) = false := decide_eq_false (by omega)
          have d2 : decide ((50 : Int) < (v.ln : Int)) = false := decide_eq_false (by omega)
          have d3 : decide ((50 : Int) < (v.tn : Int)) = false := decide_eq_false (by omega)
          have htn : v.tn ≤ 50 := by omega
          have hs5 : v.s.length ≤ 500 ∧ v.ln ≤ 50 := by have := HSZ.out; omega
          have HS5 := Lib.hid hs5
          clear hbad hs5
          have htl := HRT.out.1
          rw [tv, List.length_map] at htl
          have HTL := Lib.hid htl
          clear htl
          go_wp2_with fail
          go_loop [4] (fun i => ∃ q : Nat, q ≤ v.tn ∧ i = .int .i64 q ∧ Hid ((v.t.take q).all lightT = true)) (fun i => v.tn - (intOf i).toNat)
          case atStart => exact ⟨0, Nat.zero_le _, rfl, Lib.hid (by simp)⟩
          case round =>
            obtain ⟨q, hq, rfl, HQ⟩ := hrel
            by_cases hqt : q < v.tn
            · obtain ⟨ad2, u, e2, _, hx, hcu⟩ := HRT.out.at_ hqt
              obtain ⟨z, hz, rfl⟩ : ∃ z, v.t[q]? = some z ∧ u = .string (sv z) := by
                rw [tv, List.getElem?_map] at hx
                obtain ⟨z, hz, rfl⟩ := Option.map_eq_some_iff.1 hx
                exact ⟨z, hz, rfl⟩
              rw [e2] at g4
              have HZ := Lib.hid hz
              have hzz : (sv z).size = z.length := rfl
              have HZZ := Lib.hid hzz
              have hz7 := HT7.out z (List.mem_of_getElem? hz)
              clear hx hz hzz e2
              generalize hZ : sv z = Z at *
              clear hZ
              have hZl : Z.size ≤ 9223372036854775807 := by have := HZZ.out; omega
              by_cases b4 : 500 < Z.size
              · have d4 : decide ((500 : Int) < (Z.size : Int)) = true := decide_eq_true (by omega)
                have hres : lightB vs = false := by
                  unfold lightB
                  rw [all_no lightV vs k v HV.out (by
                    rw [HLV.out, all_no lightT v.t q z HZ.out (by unfold lightT; have := HZZ.out; simp; omega), Bool.and_false]), Bool.and_false]
                have HRES := Lib.hid hres
                clear hres
                go_wp2_with fail
                go_ret
                exact ⟨light_ret HRES.out.symm, rfl⟩
              · have d4 : decide ((500 : Int) < (Z.size : Int)) = false := decide_eq_false (by omega)
                go_wp2_with fail
                go_round
                case rel => exact ⟨q + 1, by omega, by go_num, Lib.hid (by rw [all_take_succ lightT v.t q z HZ.out, HQ.out, Bool.true_and]; unfold lightT; have := HZZ.out; simp; omega)⟩
                case measure => simp [intOf]; omega
            · obtain rfl : q = v.tn := by omega
              go_wp2_with fail
              go_round
              case rel => exact ⟨k + 1, by omega, by go_num, Lib.hid (by
                rw [all_take_succ lightV vs k v HV.out, HA.out, Bool.true_and, HLV.out]
                have h1 := HQ.out
                rw [List.take_of_length_le (by have := HTL.out; omega)] at h1
                rw [h1, decide_eq_true HS5.out.1, decide_eq_true HS5.out.2, decide_eq_true htn]; rfl)⟩
              case measure => simp [intOf]; omega
      · obtain rfl : k = n := by omega
        have hres : lightB vs = true := by
          unfold lightB
          have h1 := HA.out
          rw [List.take_of_length_le (by have := HL.out; omega)] at h1
          rw [h1, decide_eq_true (by have := HL.out; omega)]; rfl
        have HRES := Lib.hid hres
        clear hres
        go_wp2_with fail
        go_ret
        exact ⟨light_ret HRES.out.symm, rfl⟩
  · have d0 : decide ((20 : Int) < (n : Int)) = true := decide_eq_true (by omega)
    have hres : lightB vs = false := by
      unfold lightB
      rw [decide_eq_false (by have := HL.out; omega)]; rfl
    have HRES := Lib.hid hres
    clear hres
    go_enter Tryd.func9, Tryd.ntmps9
    go_wp2_with fail
    go_ret
    exact ⟨light_ret HRES.out.symm, rfl⟩
end Go.Proofs.YtocbodjmdgoaiaaDoor
