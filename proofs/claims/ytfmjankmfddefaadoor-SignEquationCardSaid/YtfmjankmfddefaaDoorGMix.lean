/- digest.mix and bits.RotateLeft32, and the reference's right: what they return. Conditions: none. -/
import Derived.Test.YtfmjankmfddefaaDoorGWords
namespace Go.Proofs.YtfmjankmfddefaaDoor.Dg
open Go.RowKit Gm
set_option linter.unusedVariables false

/-- Addition of words; their exclusive or; their rotation. -/
def ad (a b : Int) : Int := (a + b) % 4294967296
def xr (a b : Int) : Int := bits .xor .u32 a b
def rr (m d x : Int) : Int := bits .or .u32 (x * m % 4294967296) (x / d)
def mA (a b x : Int) : Int := ad a (ad b x)
def mD (a b d x : Int) (m e : Int) : Int := rr m e (xr d (mA a b x))

theorem rot16 (x : Int) (w : World) : Calls Tryd.prog 94 #[.int .u32 x, .int .i64 (-16)] w fun e w' => e = .returned (.int .u32 (rr 65536 65536 x)) ∧ w = w' := by
  have h1 : bits BinOp.and IntKind.u64 (IntKind.u64.wrap (-16)) 31 = 16 := by decide
  go_enter Tryd.func94, Tryd.ntmps94
  go_wp2_with fail
  go_ret
  exact ⟨rfl, rfl⟩
theorem rot12 (x : Int) (w : World) : Calls Tryd.prog 94 #[.int .u32 x, .int .i64 (-12)] w fun e w' => e = .returned (.int .u32 (rr 1048576 4096 x)) ∧ w = w' := by
  have h1 : bits BinOp.and IntKind.u64 (IntKind.u64.wrap (-12)) 31 = 20 := by decide
  go_enter Tryd.func94, Tryd.ntmps94
  go_wp2_with fail
  go_ret
  exact ⟨rfl, rfl⟩
theorem rot8 (x : Int) (w : World) : Calls Tryd.prog 94 #[.int .u32 x, .int .i64 (-8)] w fun e w' => e = .returned (.int .u32 (rr 16777216 256 x)) ∧ w = w' := by
  have h1 : bits BinOp.and IntKind.u64 (IntKind.u64.wrap (-8)) 31 = 24 := by decide
  go_enter Tryd.func94, Tryd.ntmps94
  go_wp2_with fail
  go_ret
  exact ⟨rfl, rfl⟩
theorem rot7 (x : Int) (w : World) : Calls Tryd.prog 94 #[.int .u32 x, .int .i64 (-7)] w fun e w' => e = .returned (.int .u32 (rr 33554432 128 x)) ∧ w = w' := by
  have h1 : bits BinOp.and IntKind.u64 (IntKind.u64.wrap (-7)) 31 = 25 := by decide
  go_enter Tryd.func94, Tryd.ntmps94
  go_wp2_with fail
  go_ret
  exact ⟨rfl, rfl⟩
theorem or_comm (a b : Int) : bits .or .u32 a b = bits .or .u32 b a := by
  simp only [bits, BitVec.or_comm]
theorem right_ (n m d : Int) (x : Int) (w : World) (hn : (n = 16 ∧ m = 65536 ∧ d = 65536) ∨ (n = 12 ∧ m = 1048576 ∧ d = 4096) ∨ (n = 8 ∧ m = 16777216 ∧ d = 256) ∨ (n = 7 ∧ m = 33554432 ∧ d = 128)) :
    Calls Tryd.prog 88 #[.int .u32 x, .int .u32 n] w fun e w' => e = .returned (.int .u32 (rr m d x)) ∧ w = w' := by
  rcases hn with ⟨rfl, rfl, rfl⟩ | ⟨rfl, rfl, rfl⟩ | ⟨rfl, rfl, rfl⟩ | ⟨rfl, rfl, rfl⟩
  all_goals
    go_enter Tryd.func88, Tryd.ntmps88
    go_wp2_with fail
    go_ret
    exact ⟨by rw [or_comm]; rfl, rfl⟩

theorem results_tmp4 {fn : Func} {t u v x : Tmp} (h : fn.results = #[.tmp t, .tmp u, .tmp v, .tmp x]) (tmps : Array Value) (P : Program) (w : World) :
    (results fn tmps).run P w = .ok (.tuple #[tmps.getD t undef, tmps.getD u undef, tmps.getD v undef, tmps.getD x undef]) w := by
  simp [results, h]

def q1 (a b c d x : Int) : Int × Int × Int × Int :=
  let a1 := ad a (ad b x)
  let d1 := rr 65536 65536 (xr d a1)
  let c1 := ad c d1
  (a1, rr 1048576 4096 (xr b c1), c1, d1)
def q2 (a b c d x : Int) : Int × Int × Int × Int :=
  let a1 := ad a (ad b x)
  let d1 := rr 16777216 256 (xr d a1)
  let c1 := ad c d1
  (a1, rr 33554432 128 (xr b c1), c1, d1)
def qq (a b c d x y : Int) : Int × Int × Int × Int :=
  let p := q1 a b c d x
  q2 p.1 p.2.1 p.2.2.1 p.2.2.2 y
set_option maxHeartbeats 1000000 in
theorem mix_any (a b c d x y : Int) (w : World) : Calls Tryd.prog 89 #[.int .u32 a, .int .u32 b, .int .u32 c, .int .u32 d, .int .u32 x, .int .u32 y] w fun e w' =>
    e = .returned (.tuple #[.int .u32 (qq a b c d x y).1, .int .u32 (qq a b c d x y).2.1, .int .u32 (qq a b c d x y).2.2.1, .int .u32 (qq a b c d x y).2.2.2]) ∧ w = w' := by
  have R1 := Lib.hid rot16
  have R2 := Lib.hid rot12
  have R3 := Lib.hid rot8
  have R4 := Lib.hid rot7
  obtain ⟨s1, hs1⟩ : ∃ s, (b + x) % 4294967296 = s := ⟨_, rfl⟩
  obtain ⟨a1, ha1⟩ : ∃ s, (a + s1) % 4294967296 = s := ⟨_, rfl⟩
  obtain ⟨d0, hd0⟩ : ∃ s, bits .xor .u32 d a1 = s := ⟨_, rfl⟩
  obtain ⟨d1, hd1⟩ : ∃ s, rr 65536 65536 d0 = s := ⟨_, rfl⟩
  obtain ⟨c1, hc1⟩ : ∃ s, (c + d1) % 4294967296 = s := ⟨_, rfl⟩
  obtain ⟨b0, hb0⟩ : ∃ s, bits .xor .u32 b c1 = s := ⟨_, rfl⟩
  obtain ⟨b1, hb1⟩ : ∃ s, rr 1048576 4096 b0 = s := ⟨_, rfl⟩
  obtain ⟨s2, hs2⟩ : ∃ s, (b1 + y) % 4294967296 = s := ⟨_, rfl⟩
  obtain ⟨a2, ha2⟩ : ∃ s, (a1 + s2) % 4294967296 = s := ⟨_, rfl⟩
  obtain ⟨d2, hd2⟩ : ∃ s, bits .xor .u32 d1 a2 = s := ⟨_, rfl⟩
  obtain ⟨d3, hd3⟩ : ∃ s, rr 16777216 256 d2 = s := ⟨_, rfl⟩
  obtain ⟨c2, hc2⟩ : ∃ s, (c1 + d3) % 4294967296 = s := ⟨_, rfl⟩
  obtain ⟨b2, hb2⟩ : ∃ s, bits .xor .u32 b1 c2 = s := ⟨_, rfl⟩
  obtain ⟨b3, hb3⟩ : ∃ s, rr 33554432 128 b2 = s := ⟨_, rfl⟩
  have HQ := Lib.hid (show qq a b c d x y = (a2, b3, c2, d3) by subst hs1 ha1 hd0 hd1 hc1 hb0 hb1 hs2 ha2 hd2 hd3 hc2 hb2 hb3; rfl)
  go_enter Tryd.func89, Tryd.ntmps89
  go_wp2_with fail
  refine (R1.out _ _).mono ?_
  rintro e w' ⟨rfl, rfl⟩
  go_wp2_with fail
  refine (R2.out _ _).mono ?_
  rintro e w' ⟨rfl, rfl⟩
  go_wp2_with fail
  refine (R3.out _ _).mono ?_
  rintro e w' ⟨rfl, rfl⟩
  go_wp2_with fail
  refine (R4.out _ _).mono ?_
  rintro e w' ⟨rfl, rfl⟩
  go_wp2_with fail
  (try simp only [Exit.inBlock, Exit.then])
  refine bodyPost_ret (results_tmp4 rfl _ _ _) rfl ?_
  exact ⟨by rw [HQ.out]; rfl, rfl⟩
end Go.Proofs.YtfmjankmfddefaaDoor.Dg
