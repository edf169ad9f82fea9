/- The small functions of wal that need no memory of their own: tooLong, number, record, firstRow. Conditions: texts of at most 2^40 bytes. -/
import Derived.Test.YtdjchpejhfkknaaLMath
import Derived.Test.YtdjchpejhfkknaaGCrc
import Derived.Test.YtdjchpejhfkknaaKAt
import Derived.Test.YtdjchpejhfkknaaShelf
namespace Go.Proofs.Ytdjchpejhfkknaa.Lw
open Go.RowKit Km Dk
open Lm hiding Bs
set_option linter.unusedVariables false
set_option maxRecDepth 100000

theorem crc_at (b : Bs) (hb : b.length ≤ 1099511627776) (w : World) : Calls Try.prog 84 #[.string (sv b)] w fun e w' => e = .returned (.int .i64 (Dg.Gm.crc b : Nat)) ∧ w = w' :=
  Dg.crc_any b (by omega) w
def tooB (b : Bs) : Bool := decide (1048576 < b.length)
theorem tooLong_any (b : Bs) (w : World) : Calls Try.prog 61 #[.string (sv b)] w fun e w' => e = .returned (.bool (tooB b)) ∧ w = w' := by
  have hs : (sv b).size = b.length := rfl
  have hr : decide ((1048576 : Int) < ((b.length : Nat) : Int)) = tooB b := by unfold tooB; congr 1; apply propext; omega
  have HR := Lib.hid hr
  clear hr
  generalize b.length = n at *
  go_enter Try.func61, Try.ntmps61
  go_wp2
  go_ret
  exact ⟨ret_b HR.out, rfl⟩
theorem infoByte : (Try.prog.info? 5).map (fun i => (i.zero, i.size, i.bytes)) = some (some (.int .u8 0), 1, 1) := by kernel_rfl
theorem mc3 : madeCells (Value.int .u8 0).cells (Int.toNat 3 * 1) = #[.int .u8 0, .int .u8 0, .int .u8 0] := by
  apply Array.ext
  · simp [madeCells]
  · intro i h1 h2
    have h3 : i < 3 := h2
    rcases i with _ | _ | _ | i
    · simp [madeCells, Value.cells]
    · simp [madeCells, Value.cells]
    · simp [madeCells, Value.cells]
    · omega
theorem mc2 : madeCells (Value.int .u8 0).cells (Int.toNat 2 * 1) = #[.int .u8 0, .int .u8 0] := by
  apply Array.ext
  · simp [madeCells]
  · intro i h1 h2
    have h3 : i < 2 := h2
    rcases i with _ | _ | i
    · simp [madeCells, Value.cells]
    · simp [madeCells, Value.cells]
    · omega
theorem mk_b3 (W : World) : (Instr.makeSlice 69 (.int .i64 3) (.int .i64 3)).run Try.prog W = .ok (.slice (some ⟨W.heap.size, 0, none⟩) 3 3) (W.alloc (.cells #[.int .u8 0, .int .u8 0, .int .u8 0] 5 (0, 0))) := by
  obtain ⟨i0, hi, hz0, hz1, hz2⟩ := info_parts infoByte
  have h := run_make W 69 5 i0 (.int .u8 0) Try.underlying69 hi hz0 .i64 .i64 3 3 (by omega) (by omega) (by rw [hz2]; omega) (by omega)
  rw [h, hz1, mc3]
  rfl
theorem mk_b2 (W : World) : (Instr.makeSlice 69 (.int .i64 2) (.int .i64 2)).run Try.prog W = .ok (.slice (some ⟨W.heap.size, 0, none⟩) 2 2) (W.alloc (.cells #[.int .u8 0, .int .u8 0] 5 (0, 0))) := by
  obtain ⟨i0, hi, hz0, hz1, hz2⟩ := info_parts infoByte
  have h := run_make W 69 5 i0 (.int .u8 0) Try.underlying69 hi hz0 .i64 .i64 2 2 (by omega) (by omega) (by rw [hz2]; omega) (by omega)
  rw [h, hz1, mc2]
  rfl
theorem conv_lit (W : World) (l : Bs) (cs : Array Value) (n : Nat) (hcs : cs = (bc l).toArray) (hn : n = l.length) :
    (convert 69 9 (.slice (some ⟨W.heap.size, 0, none⟩) n n)).run Try.prog (W.alloc (.cells cs 5)) = .ok (.string (sv l)) (W.alloc (.cells cs 5)) := by
  subst hcs hn
  refine run_convert_bytes_back (P := Try.prog) _ 69 9 5 ⟨W.heap.size, 0, none⟩ l.length l Try.underlying69 Try.underlying5 Try.underlying9 (fun j hj => ?_)
  rw [add_zero_addr, (Blk.new W 5 (bc l).toArray).cell]
  simp [bc, List.getElem?_map, List.getElem?_eq_getElem hj]
theorem byte_int (n : Nat) : (((UInt8.ofNat n).toNat : Nat) : Int) = (n : Int) % 256 := by rw [toNat_of]; omega
theorem cells3 (n : Nat) : (#[Value.int .u8 ((n : Int) / 65536 % 256), .int .u8 ((n : Int) / 256 % 256), .int .u8 ((n : Int) % 256)] : Array Value) = (bc (be3 n)).toArray := by
  simp only [be3, bc, List.map_cons, List.map_nil, byte_int]
  rfl
theorem cells2 (n : Nat) : (#[Value.int .u8 ((n : Int) / 256 % 256), .int .u8 ((n : Int) % 256)] : Array Value) = (bc (be2 n)).toArray := by
  simp only [be2, bc, List.map_cons, List.map_nil, byte_int]
  rfl
set_option maxHeartbeats 2000000 in
theorem number3 (n : Nat) (hn : n ≤ 1099511627776) (w : World) : Calls Try.prog 83 #[.int .i64 (n : Nat), .int .i64 3] w fun e w' => e = .returned (.string (sv (be3 n))) ∧ Below w.heap.size w w' := by
  have hmk := mk_b3 w
  have hcv := conv_lit w (be3 n) _ 3 (cells3 n) rfl
  generalize sv (be3 n) = S at *
  go_enter Try.func83, Try.ntmps83
  go_wp2_with fail
  refine wp_loop_rounds 4 ?_
  rw [rounds_succ]
  go_wp2_with fail
  rw [rounds_succ]
  go_wp2_with fail
  rw [rounds_succ]
  go_wp2_with fail
  rw [rounds_succ]
  go_wp2_with fail
  go_ret
  exact ⟨rfl, below_alloc _ _⟩
set_option maxHeartbeats 2000000 in
theorem number2 (n : Nat) (hn : n ≤ 1099511627776) (w : World) : Calls Try.prog 83 #[.int .i64 (n : Nat), .int .i64 2] w fun e w' => e = .returned (.string (sv (be2 n))) ∧ Below w.heap.size w w' := by
  have hmk := mk_b2 w
  have hcv := conv_lit w (be2 n) _ 2 (cells2 n) rfl
  generalize sv (be2 n) = S at *
  go_enter Try.func83, Try.ntmps83
  go_wp2_with fail
  refine wp_loop_rounds 3 ?_
  rw [rounds_succ]
  go_wp2_with fail
  rw [rounds_succ]
  go_wp2_with fail
  rw [rounds_succ]
  go_wp2_with fail
  go_ret
  exact ⟨rfl, below_alloc _ _⟩
theorem record_any (b : Bs) (hb : b.length ≤ 1000000000) (w : World) : Calls Try.prog 63 #[.string (sv b)] w fun e w' => e = .returned (.string (sv (recB b))) ∧ Below w.heap.size w w' := by
  have H3 := Lib.hid (fun W => number3 b.length (by omega) W)
  have H2 := Lib.hid (fun W => number2 (Dg.Gm.crc (bodyB b)) (by have := Dg.Gm.crc_lt (bodyB b); omega) W)
  have hbl : (bodyB b).length = b.length + 3 := by simp [bodyB, be3]
  have HC := Lib.hid (fun W => crc_at (bodyB b) (by omega) W)
  have hs : (sv b).size = b.length := rfl
  have e1 : sv (be3 b.length) ++ sv b = sv (bodyB b) := sv_append _ _
  have e2 : ByteArray.mk #[87] ++ sv (bodyB b) = sv (87 :: bodyB b) := sv_append [87] _
  have e3 : sv (87 :: bodyB b) ++ sv (be2 (Dg.Gm.crc (bodyB b))) = sv (87 :: bodyB b ++ be2 (Dg.Gm.crc (bodyB b))) := sv_append _ _
  have e4 : sv (87 :: bodyB b ++ be2 (Dg.Gm.crc (bodyB b))) ++ ByteArray.mk #[233] = sv (recB b) := sv_append _ [233]
  have z1 : (sv (be3 b.length)).size = 3 := rfl
  have z2 : (sv (bodyB b)).size = b.length + 3 := hbl
  have z3 : (sv (87 :: bodyB b)).size = b.length + 4 := by show (87 :: bodyB b).length = _; simp [hbl]
  have z4 : (sv (be2 (Dg.Gm.crc (bodyB b)))).size = 2 := rfl
  have z5 : (sv (87 :: bodyB b ++ be2 (Dg.Gm.crc (bodyB b)))).size = b.length + 6 := by show (87 :: bodyB b ++ be2 (Dg.Gm.crc (bodyB b))).length = _; simp [hbl, be2]
  have hcl := Dg.Gm.crc_lt (bodyB b)
  clear hbl
  generalize sv (recB b) = S5 at *
  generalize sv (87 :: bodyB b ++ be2 (Dg.Gm.crc (bodyB b))) = S4 at *
  generalize sv (87 :: bodyB b) = S3 at *
  generalize sv (bodyB b) = S2 at *
  generalize sv (be2 (Dg.Gm.crc (bodyB b))) = S1 at *
  generalize sv (be3 b.length) = S0 at *
  generalize Dg.Gm.crc (bodyB b) = C at *
  generalize sv b = SB at *
  generalize b.length = n at *
  go_enter Try.func63, Try.ntmps63
  go_wp2_with fail
  refine (H3.out _).mono ?_
  rintro e w1 ⟨rfl, hb1⟩
  have HB1 := Lib.hid hb1
  clear hb1
  go_wp2_with fail
  --GG
  refine (HC.out _).mono ?_
  rintro e w2 ⟨rfl, rfl⟩
  go_wp2_with fail
  refine (H2.out _).mono ?_
  rintro e w2 ⟨rfl, hb2⟩
  have HB2 := Lib.hid hb2
  clear hb2
  go_wp2_with fail
  go_ret
  exact ⟨rfl, below_trans HB1.out HB2.out⟩
end Go.Proofs.Ytdjchpejhfkknaa.Lw
