/- wal.rowsOf: the iterator over the rows of the valid part of a file. Conditions: a file of at most 10^9 bytes. -/
import Derived.Test.YtdjchpejhfkknaaLRound
namespace Go.Proofs.Ytdjchpejhfkknaa.Lw
open Go.RowKit Go.Shelf Km Dk
open Lm hiding Bs
set_option linter.unusedVariables false
set_option maxRecDepth 100000
attribute [local go_sem] Oper.semAt_some

/-- A row that is not too long. -/
abbrev Rw := { b : Bs // b.length ≤ 1048576 }
def encR (x : Rw) : Array Value := #[.string (sv x.1)]
theorem rowsOf_any (x : Bs) (w : World) : Calls Try.prog 56 #[.string (sv x)] w fun e w' => e = .returned (.func (.func 76) #[] #[.pointer (some ⟨w.heap.size, 0, none⟩)]) ∧ w' = w.alloc (.cells #[.string (sv x)] 9) := by
  go_enter Try.func56, Try.ntmps56
  go_wp2
  go_ret
  exact ⟨rfl, rfl⟩
theorem slice_tail (s : Bs) (d : Nat) (h : d ≤ s.length) (W : World) : (Instr.slice 9 (.string (sv s)) (some (.int .i64 ((d : Nat) : Int))) none none).run Try.prog W = .ok (.string (sv (s.drop d))) W := by
  rw [run_slice_string_from_if W 9 (sv s) .i64 _ Try.underlying9, if_pos ⟨by omega, by rw [sv_size]; omega⟩, Int.toNat_natCast]
  have e : (sv s).size = s.length := rfl
  rw [e, sv_extract, List.take_of_length_le (by rw [List.length_drop]; omega)]
def strN (v : Value) : Nat := match v with
  | .string s => s.size
  | _ => 0
set_option maxHeartbeats 4000000 in
theorem iter_in (n : Nat) (hn : 1 ≤ n) (l Bn n₀ : Nat) (x : Bs) (hx : x.length ≤ 1000000000) (J Jx : List Rw → World → Prop) (W0 : World) (hJ : AbidesFrom W0.heap.size J)
    (hY : ∀ pre x' W, J pre W → pre.length < (val x).length → YieldAt Fence.wide (n - 1) Try.prog l (encR x') W fun e W' =>
      (e = .returned (.bool true) ∧ J (pre ++ [x']) W' ∧ Below n₀ W W') ∨ (e = .returned (.bool false) ∧ Jx (pre ++ [x']) W'))
    (hB : W0.cell? ⟨Bn, 0, none⟩ = some (.string (sv x))) (h0 : J [] W0) :
    CallsIn Fence.wide n Try.prog 76 #[.func (.yield l) #[] #[], .pointer (some ⟨Bn, 0, none⟩)] W0 fun e W' => (∃ v, e = .returned v) ∧
      ((∃ xs : List Rw, xs.map (·.1) = val x ∧ J xs W') ∨ (∃ pre, True ∧ Jx pre W')) := by
  have HX := Lib.hid hx
  have HJ := Lib.hid hJ
  have HY := Lib.hid hY
  clear hx hJ hY
  refine callsIn_of_wp Try.func76 rfl trivial ?_ rfl
  simp only [Try.ntmps76, List.size_toArray, List.length_cons, List.length_nil, Nat.reduceAdd, Nat.reduceSub, Array.replicate_succ, Array.replicate_zero, List.push_toArray, List.append_toArray, List.nil_append, List.cons_append]
  gi_wp2
  gi_loopw [3] (fun v wr => ∃ (pre : List Rw) (R : Bs), v = .string (sv R) ∧ Hid (val x = pre.map (·.1) ++ val R ∧ R.length ≤ x.length ∧ J pre wr)) (fun v _ => strN v)
  case atStart => exact ⟨[], x, rfl, Lib.hid ⟨rfl, Nat.le_refl _, h0⟩⟩
  case round =>
    obtain ⟨pre, R, rfl, HR⟩ := hrel
    have HF := Lib.hid (fun W => firstRow_any R (Nat.le_trans HR.out.2.1 HX.out) W)
    cases hf : first R with
    | none =>
      have hfv : firstV R = #[.string ⟨#[]⟩, .bool false] := by unfold firstV; rw [hf]
      rw [hfv] at HF
      have hvn : val x = pre.map (·.1) := by rw [HR.out.1, val_none hf, List.append_nil]
      have HV := Lib.hid hvn
      clear hf hfv hvn
      gi_wp2
      refine ⟨trivial, (callsIn_wide.2 (HF.out wr)).mono ?_⟩
      rintro e w2 ⟨rfl, hb2⟩
      have hj2 := HJ.out pre wr w2 none HR.out.2.2 (Below.grownBy hb2 (Nat.le_refl _)) (fun r e => by cases e)
      have HJ2 := Lib.hid hj2
      clear hb2 hj2
      gi_wp2
      refine ⟨fun _ h => (by cases h), ?_⟩
      gi_wp2
      refine bodyPost_ret (results_none rfl _ _ _) rfl ?_
      exact ⟨⟨_, rfl⟩, .inl ⟨pre, HV.out.symm, HJ2.out⟩⟩
    | some b =>
      have hfv : firstV R = #[.string (sv b), .bool true] := by unfold firstV; rw [hf]
      rw [hfv] at HF
      have hfl := first_len hf
      have hb := (first_some hf).1
      have hvs : val x = (pre ++ [(⟨b, hb⟩ : Rw)]).map (·.1) ++ val (R.drop (b.length + 7)) := by rw [HR.out.1, val_some hf]; simp
      have HVS := Lib.hid hvs
      have hpl : pre.length < (val x).length := by
        have := congrArg List.length hvs
        simp only [List.length_append, List.length_map, List.length_cons, List.length_nil] at this
        omega
      have HPL := Lib.hid hpl
      have hxl := HX.out
      have hrl := HR.out.2.1
      have hsz : (sv b).size = b.length := rfl
      have hszR : (sv R).size = R.length := rfl
      have hsl : ∀ W, (Instr.slice 9 (.string (sv R)) (some (.int .i64 (7 + ((b.length : Nat) : Int)))) none none).run Try.prog W = .ok (.string (sv (R.drop (b.length + 7)))) W := fun W => by
        have h := slice_tail R (b.length + 7) hfl W
        have e : ((b.length + 7 : Nat) : Int) = 7 + ((b.length : Nat) : Int) := by omega
        rw [e] at h
        exact h
      have HFL := Lib.hid hfl
      have HHB := Lib.hid hb
      clear hf hfv hvs hfl hpl hxl hrl
      gi_wp2
      refine ⟨trivial, (callsIn_wide.2 (HF.out wr)).mono ?_⟩
      rintro e w2 ⟨rfl, hb2⟩
      have hj2 := HJ.out pre wr w2 none HR.out.2.2 (Below.grownBy hb2 (Nat.le_refl _)) (fun r e => by cases e)
      obtain ⟨fn, tmps, assign, body, hy, hR⟩ := HY.out pre ⟨b, HHB.out⟩ w2 hj2 HPL.out
      have HRR := Lib.hid hR
      dsimp only [encR] at hy
      clear hb2 hj2 hR
      gi_wp2
      refine HRR.out.mono ?_
      rintro e W3 (⟨rfl, hJ3, hk3⟩ | ⟨rfl, hJx3⟩)
      · have HJ3 := Lib.hid hJ3
        clear hJ3 hk3
        gi_wp2
        go_roundw
        case rel => exact ⟨pre ++ [⟨b, HHB.out⟩], R.drop (b.length + 7), rfl, Lib.hid ⟨HVS.out, by rw [List.length_drop]; have := HR.out.2.1; omega, HJ3.out⟩⟩
        case measure =>
          show (sv (R.drop (b.length + 7))).size < (sv R).size
          have := HFL.out
          show (R.drop (b.length + 7)).length < R.length
          rw [List.length_drop]
          omega
      · gi_wp2
        refine bodyPost_ret (results_none rfl _ _ _) rfl ?_
        exact ⟨⟨_, rfl⟩, .inr ⟨_, trivial, hJx3⟩⟩
theorem iter_stops (n : Nat) (hn : 1 ≤ n) (Bn n₀ : Nat) (x : Bs) (hx : x.length ≤ 1000000000) (w : World) (hB : Bn < w.heap.size) (hc : w.cell? ⟨Bn, 0, none⟩ = some (.string (sv x))) :
    SeqStopsK Fence.wide n Try.prog 76 #[.pointer (some ⟨Bn, 0, none⟩)] encR (Below n₀) (fun xs => xs.map (·.1) = val x) (fun _ => True) (val x).length w :=
  fun l J Jx W hW hJ _ hY h0 => iter_in n hn l Bn n₀ x hx J Jx W hJ hY ((hW.cell (p := ⟨Bn, 0, none⟩) hB).trans hc) h0
end Go.Proofs.Ytdjchpejhfkknaa.Lw
