/- The comparison by which exact.Share sorts the indices: it compares their remainders, the greater one first, and the indices themselves if these are equal. Conditions: the captured list of remainders can be read at both indices. -/
import Derived.Test.YtbpibdjmffhmpaaWhole
import Derived.Deep.RegionHeld3
namespace Go.Proofs.Ytbpibdjmffhmpaa
open Go.RowKit Mth
def orV (x y : Int) : Int := if x = 0 then y else x
theorem or_any (B : Nat) (x y : Int) (w : World) (h0 : w.cell? ⟨B, 0, none⟩ = some (.int .i64 x)) (h1 : w.cell? ⟨B, 1, none⟩ = some (.int .i64 y)) :
    Calls Try.prog 30 #[.slice (some ⟨B, 0, none⟩) 2 2] w fun e w' => e = .returned (.int .i64 (orV x y)) ∧ w = w' := by
  unfold orV
  by_cases hx : x = 0
  · subst hx
    by_cases hy : y = 0
    · subst hy
      go_enter Try.func30, Try.ntmps30
      go_wp2
      refine wp_loop_rounds 3 ?_
      rw [rounds_succ]
      go_wp2
      rw [rounds_succ]
      go_wp2
      rw [rounds_succ]
      go_wp2
      go_ret
      exact ⟨rfl, rfl⟩
    · have e1 : (y == 0) = false := beq_eq_false_iff_ne.2 hy
      have e2 : (y != 0) = true := by simpa using hy
      clear hy
      go_enter Try.func30, Try.ntmps30
      go_wp2
      refine wp_loop_rounds 2 ?_
      rw [rounds_succ]
      go_wp2
      rw [rounds_succ]
      go_wp2
      go_ret
      exact ⟨rfl, rfl⟩
  · have e1 : (x == 0) = false := beq_eq_false_iff_ne.2 hx
    have e2 : (x != 0) = true := by simpa using hx
    rw [if_neg hx]
    clear hx
    go_enter Try.func30, Try.ntmps30
    go_wp2
    refine wp_loop_rounds 1 ?_
    rw [rounds_succ]
    go_wp2
    go_ret
    exact ⟨rfl, rfl⟩

def cf (f : Nat → Int) (x y : Nat) : Int := orV (Lib.compareInt (f y) (f x)) (Lib.compareInt x y)

set_option maxHeartbeats 800000 in
theorem closure_any (x y n c : Nat) (hx : x < n) (hy : y < n) (f : Nat → Int) (C R : Nat) (W : World) (hC : W.cell? ⟨C, 0, none⟩ = some (.slice (some ⟨R, 0, none⟩) n c))
    (cx : W.cell? ⟨R, x, none⟩ = some (.int .i64 (f x))) (cy : W.cell? ⟨R, y, none⟩ = some (.int .i64 (f y))) :
    Calls Try.prog 29 #[.int .i64 x, .int .i64 y, .pointer (some ⟨C, 0, none⟩)] W fun e w' => e = .returned (.int .i64 (cf f x y)) ∧ ∃ q os', w' = Go.Sort.grow (W.drewN q) os' := by
  have hcf : cf f x y = orV (Lib.compareInt (f y) (f x)) (Lib.compareInt x y) := rfl
  have HCF := Lib.hid hcf
  clear hcf
  generalize f x = rx at *
  generalize f y = ry at *
  have c1 := fun W => Try.cmp_Compare_int ry rx W
  have c2 := fun W => Try.cmp_Compare_int x y W
  generalize Lib.compareInt ry rx = a at *
  generalize Lib.compareInt x y = d at *
  have C1 := Lib.hid c1
  have C2 := Lib.hid c2
  clear c1 c2
  go_enter Try.func29, Try.ntmps29
  go_wp2_with fail
  go_region_held3 (fun w' => w'.cell? ⟨C, 0, none⟩ = some (.slice (some ⟨R, 0, none⟩) n c) ∧ w'.cell? ⟨R, x, none⟩ = some (.int .i64 rx) ∧ w'.cell? ⟨R, y, none⟩ = some (.int .i64 ry)) (go_keep)
    (first
      | (go_at_call_of 31 (Value.int .i64 rx); refine (C1.out _).mono ?_; rintro e w' ⟨rfl, rfl⟩)
      | (go_at_call 31; refine (C2.out _).mono ?_; rintro e w' ⟨rfl, rfl⟩)
      | (go_at_call 30; refine (or_any _ a d _ ?_ ?_).mono ?_; (simp [*]); (simp [*]); rintro e w' ⟨rfl, rfl⟩))
  go_wp2
  go_ret
  exact ⟨by rw [HCF.out]; rfl, 1, #[_], by rw [Go.Sort.alloc_eq_grow]; rfl⟩

/-- The place before another one: a greater remainder, or the same one and a smaller index. -/
def bef (f : Nat → Int) (x y : Nat) : Bool := decide (f y < f x ∨ f x = f y ∧ x < y)
theorem cf_lt (f : Nat → Int) (x y : Nat) : decide (cf f x y < 0) = bef f x y := by
  unfold cf orV bef Lib.compareInt
  apply decide_eq_decide.2
  (repeat' split) <;> omega
end Go.Proofs.Ytbpibdjmffhmpaa
