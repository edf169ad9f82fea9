/- The encoding of a value, and of a list of light values. Conditions: the values are light; the library's own variable holds some int. -/
import Derived.Test.YtocbodjmdgoaiaaDoorWVal
namespace Go.Proofs.YtocbodjmdgoaiaaDoor
open Go.RowKit Wm
set_option linter.unusedVariables false

def kd (k : Int) : Int := bits .and .i64 k 3
def encV (v : Va) : Bs := if kd v.k = 0 then encI v.n else if kd v.k = 1 then encT v.s else if kd v.k = 2 then encL encI v.l else encL encT v.t
def vaV (v : Va) : Value := .agg #[.int .i64 v.k, .int .i64 v.n, .string (sv v.s), .slice v.la v.ln v.lc, .slice v.ta v.tn v.tc]
theorem light_parts {v : Va} (h : lightV v = true) : v.s.length ≤ 500 ∧ v.ln ≤ 50 ∧ v.tn ≤ 50 ∧ ∀ z ∈ v.t, z.length ≤ 500 := by
  unfold lightV at h
  simp only [Bool.and_eq_true, decide_eq_true_eq, List.all_eq_true] at h
  obtain ⟨⟨⟨h1, h2⟩, h3⟩, h4⟩ := h
  exact ⟨h1, h2, h3, fun z hz => of_decide_eq_true (h4 z hz)⟩

set_option maxHeartbeats 1000000 in
set_option maxRecDepth 100000 in
theorem write_any {v : Va} {w : World} (h : RdVa w v) (hl : lightV v = true) (hm : Mx w) :
    Calls Tryd.prog 54 #[vaV v] w fun e w' => e = .returned (.string (sv (encV v))) ∧ Below w.heap.size w w' := by
  obtain ⟨l1, l2, l3, l4⟩ := light_parts hl
  obtain ⟨j1, j2, j3, j4, j5, j6, j7, rl, rt⟩ := h
  have hk : bits .and .i64 v.k 3 = kd v.k := rfl
  have hb0 := fun o => below_alloc w o
  have C0 := Lib.hid (fun W => int_any v.n j2 W)
  have C1 := Lib.hid (fun W (hW : Mx W) => text_any v.s (by omega) hW)
  have C2 := Lib.hid (fun W (hW : Rd W v.la v.ln (iv v.l)) => nums_any v.la v.ln v.lc v.l hW (by omega) j6)
  have C3 := Lib.hid (fun W (hW : Rd W v.ta v.tn (tv v.t)) (hx : Mx W) => texts_any v.ta v.tn v.tc v.t hW (by omega) (fun z hz => by have := l4 z hz; omega) hx)
  have RL := Lib.hid rl
  have RT := Lib.hid rt
  have HM := Lib.hid hm
  have hE : encV v = if kd v.k = 0 then encI v.n else if kd v.k = 1 then encT v.s else if kd v.k = 2 then encL encI v.l else encL encT v.t := rfl
  unfold vaV
  clear rl rt hm j1 j2 j3 j4 j5 j6 j7 l1 l2 l3 l4 hl
  generalize kd v.k = q at *
  generalize encV v = E at *
  have HE := Lib.hid hE
  clear hE hb0
  by_cases h0 : q = 0
  · subst h0
    have HEE : Hid (E = encI v.n) := Lib.hid (by exact HE.out.trans (if_pos rfl))
    go_enter Tryd.func54, Tryd.ntmps54
    go_wp2_with fail
    refine (C0.out _).mono ?_
    rintro e w1 ⟨rfl, hb⟩
    have HB := Lib.hid (below_trans (below_alloc w _) hb)
    clear hb
    go_wp2_with fail
    go_ret
    exact ⟨ret_s (by rw [HEE.out]), HB.out⟩
  · have e0 : (q == 0) = false := beq_eq_false_iff_ne.2 h0
    rw [if_neg h0] at HE
    by_cases h1 : q = 1
    · subst h1
      have HEE : Hid (E = encT v.s) := Lib.hid (by exact HE.out.trans (if_pos rfl))
      go_enter Tryd.func54, Tryd.ntmps54
      go_wp2_with fail
      refine (C1.out _ (HM.out.self (below_alloc w _))).mono ?_
      rintro e w1 ⟨rfl, hb⟩
      have HB := Lib.hid (below_trans (below_alloc w _) hb)
      clear hb
      go_wp2_with fail
      go_ret
      exact ⟨ret_s (by rw [HEE.out]), HB.out⟩
    · have e1 : (q == 1) = false := beq_eq_false_iff_ne.2 h1
      rw [if_neg h1] at HE
      by_cases h2 : q = 2
      · subst h2
        have HEE : Hid (E = encL encI v.l) := Lib.hid (by exact HE.out.trans (if_pos rfl))
        go_enter Tryd.func54, Tryd.ntmps54
        go_wp2_with fail
        refine (C2.out _ (RL.out.below (below_alloc w _))).mono ?_
        rintro e w1 ⟨rfl, hb⟩
        have HB := Lib.hid (below_trans (below_alloc w _) hb)
        clear hb
        go_wp2_with fail
        go_ret
        exact ⟨ret_s (by rw [HEE.out]), HB.out⟩
      · have e2 : (q == 2) = false := beq_eq_false_iff_ne.2 h2
        rw [if_neg h2] at HE
        clear h0 h1 h2
        have HEE : Hid (E = encL encT v.t) := Lib.hid (by exact HE.out)
        go_enter Tryd.func54, Tryd.ntmps54
        go_wp2_with fail
        refine (C3.out _ (RT.out.below (below_alloc w _)) (HM.out.self (below_alloc w _))).mono ?_
        rintro e w1 ⟨rfl, hb⟩
        have HB := Lib.hid (below_trans (below_alloc w _) hb)
        clear hb
        go_wp2_with fail
        go_ret
        exact ⟨ret_s (by rw [HEE.out]), HB.out⟩

theorem encV_le {w : World} {v : Va} (h : RdVa w v) (hl : lightV v = true) : (encV v).length ≤ 51000 := by
  obtain ⟨l1, l2, l3, l4⟩ := light_parts hl
  obtain ⟨j1, j2, j3, j4, j5, j6, j7, rl, rt⟩ := h
  have hl2 : v.l.length = v.ln := by simpa [iv] using rl.1
  have ht2 : v.t.length = v.tn := by simpa [tv] using rt.1
  unfold encV
  (repeat' split)
  · have := encI_le v.n; omega
  · have := encT_le v.s; omega
  · have := encL_le encI v.l 9 (fun x _ => encI_le x); omega
  · have := encL_le encT v.t 1002 (fun x hx => by have := encT_le x; have := l4 x hx; omega); omega
def allE (vs : List Va) : Bs := (vs.map encV).flatten
theorem allE_snoc (vs : List Va) (k : Nat) (v : Va) (h : vs[k]? = some v) : allE (vs.take (k + 1)) = allE (vs.take k) ++ encV v := by
  obtain ⟨hk, rfl⟩ := List.getElem?_eq_some_iff.1 h
  unfold allE
  rw [List.take_succ_eq_append_getElem hk, List.map_append, List.flatten_append]
  simp
theorem allE_le : ∀ (vs : List Va), (∀ v ∈ vs, (encV v).length ≤ 51000) → (allE vs).length ≤ vs.length * 51000
  | [], _ => by simp [allE]
  | v :: vs, h => by
    have h1 := allE_le vs fun x hx => h x (by simp [hx])
    have h2 := h v (by simp)
    unfold allE at *
    simp only [List.map_cons, List.flatten_cons, List.length_append, List.length_cons]
    omega
theorem lightB_parts {vs : List Va} (h : lightB vs = true) : vs.length ≤ 20 ∧ ∀ v ∈ vs, lightV v = true := by
  unfold lightB at h
  simp only [Bool.and_eq_true, decide_eq_true_eq, List.all_eq_true] at h
  exact h
theorem allE_le_light {w : World} {A : Option Addr} {n : Nat} {vs : List Va} (h : RdV w A n vs) (hl : lightB vs = true) : (allE vs).length ≤ 1020000 := by
  obtain ⟨l1, l2⟩ := lightB_parts hl
  have := allE_le vs fun v hv => encV_le (h.2.1 v hv) (l2 v hv)
  omega

set_option maxHeartbeats 1000000 in
set_option maxRecDepth 100000 in
theorem all_any {A : Option Addr} {n c : Nat} {vs : List Va} {w : World} (h : RdV w A n vs) (hl : lightB vs = true) (hm : Mx w) :
    Calls Tryd.prog 38 #[.slice A n c] w fun e w' => e = .returned (.string (sv (allE vs))) ∧ Below w.heap.size w w' := by
  obtain ⟨l1, l2⟩ := lightB_parts hl
  have hlen := h.1
  have hn20 : n ≤ 20 := by omega
  have hal : ∀ k, (allE (vs.take k)).length ≤ 1020000 := fun k => by
    have h1 := allE_le (vs.take k) fun v hv => encV_le (h.2.1 v (List.mem_of_mem_take hv)) (l2 v (List.mem_of_mem_take hv))
    have h2 : (vs.take k).length ≤ vs.length := List.length_take_le' _ _
    omega
  have HR := Lib.hid h
  have HL := Lib.hid hlen
  have HL2 := Lib.hid l2
  have HM := Lib.hid hm
  have HAL := Lib.hid hal
  clear h hlen l2 hm hal l1 hl
  go_enter Tryd.func38, Tryd.ntmps38
  go_wp2_with fail
  go_loopw [3, 4] (fun s i wr => ∃ k : Nat, k ≤ n ∧ i = .int .i64 k ∧ s = .string (sv (allE (vs.take k))) ∧ Below w.heap.size w wr) (fun _ i _ => n - (intOf i).toNat)
  case atStart => exact ⟨0, Nat.zero_le _, rfl, rfl, Below.refl _ _⟩
  case round =>
    obtain ⟨k, hk, rfl, rfl, hbel⟩ := hrel
    have HBE := Lib.hid hbel
    clear hbel
    by_cases hlt : k < n
    · have hrw := HR.out.below HBE.out
      obtain ⟨b, off, e, hlb, hc⟩ := hrw.2.2 (by omega)
      have hkv : k < vs.length := by have := HL.out; omega
      obtain ⟨v, hv⟩ : ∃ v, vs[k]? = some v := ⟨vs[k], List.getElem?_eq_getElem hkv⟩
      subst e
      obtain ⟨g0, g1, g2, g3, g4⟩ := hc k v hv
      have hva := hrw.2.1 v (List.mem_of_getElem? hv)
      have hlv := HL2.out v (List.mem_of_getElem? hv)
      have hsn := allE_snoc vs k v hv
      have hle := HAL.out k
      have hev := encV_le hva hlv
      have C1 := Lib.hid (write_any hva hlv (HM.out.self HBE.out))
      have HSN := Lib.hid hsn
      have hz : (sv (allE (vs.take k))).size = (allE (vs.take k)).length := rfl
      have hz2 : (sv (encV v)).size = (encV v).length := rfl
      have hcat : sv (allE (vs.take k)) ++ sv (encV v) = sv (allE (vs.take k) ++ encV v) := sv_append _ _
      rw [← hz] at hle
      rw [← hz2] at hev
      have HCAT := Lib.hid hcat
      unfold vaV at C1
      clear hc hlb hrw hva hlv hsn hv hz hz2 hcat
      generalize sv (allE (vs.take k)) = S at *
      generalize sv (encV v) = E at *

      go_wp2_with fail
      refine C1.out.mono ?_
      rintro e w1 ⟨rfl, hb⟩
      have HB := Lib.hid (HBE.out.trans (hb.mono HBE.out.size))
      clear hb
      go_wp2_with fail
      go_roundw
      case rel => exact ⟨k + 1, by omega, by go_num, by rw [HSN.out, HCAT.out], HB.out⟩
      case measure => simp [intOf]; omega
    · obtain rfl : k = n := by omega
      rw [List.take_of_length_le (by have := HL.out; omega)]
      go_wp2_with fail
      go_ret
      exact ⟨rfl, HBE.out⟩
end Go.Proofs.YtocbodjmdgoaiaaDoor
