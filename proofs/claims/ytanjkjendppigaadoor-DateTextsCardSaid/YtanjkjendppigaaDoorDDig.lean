/- digits and Text give the text of an hour; number gives a number that the digits spell. Conditions: the listed variables hold what the text gives them. -/
import Derived.Test.YtanjkjendppigaaDoorDTxt
import Derived.Test.YtanjkjendppigaaDoorShelf
namespace Go.Proofs.YtanjkjendppigaaDoor.Dy
open Go.RowKit Cal
set_option linter.unusedVariables false
set_option maxRecDepth 100000

theorem below_grow (w : World) (k : Nat) (os : Array Obj) : Below w.heap.size w (Go.Sort.grow (w.drewN k) os) :=
  ⟨rfl, rfl, rfl, by first | (simp [Go.Sort.grow]; done) | (simp [Go.Sort.grow]; omega), fun i hi => by
    show ((w.drewN k).heap ++ os)[i]? = _
    rw [Array.getElem?_append_left (by show i < w.heap.size; omega)]
    rfl⟩
theorem digits_two (x : Nat) (hx : x < 100) (w : World) (hW : Wd w) : Calls Tryd.prog 33 #[.int .i64 (x : Int), .int .i64 2] w fun e w' => e = .returned (.string (sv (d2 x))) ∧ w' = w := by
  have HI := Lib.hid (fun W => Tryd.strconv_Itoa_small x hx W)
  have HZ := Lib.hid (fun W => Tryd.strings_Repeat_zero ⟨#[48]⟩ W)
  have HO := Lib.hid (fun W => Tryd.strings_Repeat_one ⟨#[48]⟩ W)
  obtain ⟨S, hS⟩ : ∃ S : ByteArray, S = ⟨(Lib.decDigits x).toArray⟩ := ⟨_, rfl⟩
  rw [← hS] at HI
  by_cases h10 : x < 10
  · have hz : S.size = 1 := by rw [hS, Lib.decDigits_one h10]; rfl
    have hr : ByteArray.mk #[48] ++ S = sv (d2 x) := by rw [hS]; exact (sv_append [48] _).trans (congrArg sv (dec_one h10))
    rw [← hr]
    clear hS hx h10 hW hr
    go_enter Tryd.func33, Tryd.ntmps33
    go_wp2_with fail
    refine (HI.out _).mono ?_
    rintro e w2 ⟨rfl, rfl⟩
    go_wp2_with fail
    --GG
    refine (HO.out _).mono ?_
    rintro e w2 ⟨rfl, rfl⟩
    go_wp2_with fail
    go_ret
    exact ⟨rfl, rfl⟩
  · have hz : S.size = 2 := by rw [hS, dec_two (by omega) hx]; rfl
    have hr : ByteArray.mk #[] ++ S = sv (d2 x) := by rw [hS, dec_two (by omega) hx]; exact sv_append [] _
    rw [← hr]
    clear hS hx h10 hW hr
    go_enter Tryd.func33, Tryd.ntmps33
    go_wp2_with fail
    refine (HI.out _).mono ?_
    rintro e w2 ⟨rfl, rfl⟩
    go_wp2_with fail
    refine (HZ.out _).mono ?_
    rintro e w2 ⟨rfl, rfl⟩
    go_wp2_with fail
    go_ret
    exact ⟨rfl, rfl⟩
theorem digits_four (x : Nat) (h1 : 1000 ≤ x) (h2 : x < 10000) (w : World) (hW : Wd w) : Calls Tryd.prog 33 #[.int .i64 (x : Int), .int .i64 4] w fun e w' => e = .returned (.string (sv (d2 (x / 100) ++ d2 (x % 100)))) ∧ Below w.heap.size w w' := by
  have HI := Lib.hid (Tryd.strconv_Itoa (x : Int) (by omega) (by omega) w hW.pow)
  have HZ := Lib.hid (fun W => Tryd.strings_Repeat_zero ⟨#[48]⟩ W)
  obtain ⟨S, hS⟩ : ∃ S : ByteArray, S = ⟨(Lib.itoa (x : Int)).toArray⟩ := ⟨_, rfl⟩
  rw [← hS] at HI
  have hd : Lib.itoa (x : Int) = d2 (x / 100) ++ d2 (x % 100) := by
    unfold Lib.itoa
    rw [if_neg (by omega), show ((x : Int)).toNat = x by omega, dec_four h1 h2]
  have hz : S.size = 4 := by rw [hS, hd]; rfl
  have hr : ByteArray.mk #[] ++ S = sv (d2 (x / 100) ++ d2 (x % 100)) := by rw [hS, hd]; exact sv_append [] _
  rw [← hr]
  clear hS hd h1 h2 hW hr
  generalize ((x : Nat) : Int) = xi at *
  go_enter Tryd.func33, Tryd.ntmps33
  go_wp2_with fail
  refine (HI.out).mono ?_
  rintro e w2 ⟨rfl, k, os, hw2⟩
  have HB := Lib.hid (show Below w.heap.size w w2 by rw [hw2]; exact below_grow _ _ _)
  clear hw2
  go_wp2_with fail
  refine (HZ.out _).mono ?_
  rintro e w3 ⟨rfl, rfl⟩
  go_wp2_with fail
  go_ret
  exact ⟨rfl, HB.out⟩
def numI (l : Bs) : Int := (Lib.atoi l).getD 0
theorem number_any (l : Bs) (hl : l.length ≤ 18) (w : World) (hW : Wd w) : Calls Tryd.prog 31 #[.string (sv l)] w fun e w' => e = .returned (.int .i64 (numI l)) ∧ Below w.heap.size w w' := by
  have hsz : (sv l).size ≤ 18 := hl
  cases ha : Lib.atoi l with
  | some v =>
    have HI := Lib.hid (fun W => Tryd.strconv_Atoi (sv l) v hsz (by rw [sv_list]; exact ha) W)
    have hr : numI l = v := by unfold numI; rw [ha]; rfl
    rw [hr]
    clear ha hr hsz hW hl
    go_enter Tryd.func31, Tryd.ntmps31
    go_wp2_with fail
    refine (HI.out _).mono ?_
    rintro e w2 ⟨rfl, t, hw2⟩
    have HB := Lib.hid (show Below w.heap.size w w2 by rw [hw2]; exact Lib.bytesWorld_below _ _ _)
    clear hw2
    go_wp2_with fail
    go_ret
    exact ⟨rfl, HB.out⟩
  | none =>
    obtain ⟨te, pe, he⟩ := hW.err
    have HI := Lib.hid (Tryd.strconv_Atoi_err (sv l) hsz (by rw [sv_list]; exact ha) (.iface te pe) w he (Or.inr ⟨te, pe, rfl⟩))
    have hr : numI l = 0 := by unfold numI; rw [ha]; rfl
    rw [hr]
    clear ha hr hsz hW hl he
    go_enter Tryd.func31, Tryd.ntmps31
    go_wp2_with fail
    refine (HI.out).mono ?_
    rintro e w2 ⟨N, rfl, _, _, hb⟩
    have HB := Lib.hid hb
    clear hb
    go_wp2_with fail
    go_ret
    exact ⟨rfl, HB.out⟩
end Go.Proofs.YtanjkjendppigaaDoor.Dy
