/- The statement WireOnly, walked: what a reader has read is the encoding of what it returned, and once it has failed it returns nothing. Conditions: those of the walk. -/
import Derived.Test.YtocbodjmdgoaiaaDoorWAll
namespace Go.Proofs.YtocbodjmdgoaiaaDoor
open Go.RowKit Wm
set_option linter.unusedVariables false

def uv (zs : List Int) : List Value := zs.map (Value.int .u8)
theorem own_rd {w : World} {base : Nat} {e : TypeId} {v : Value} {n : Nat} {xs : List Value} (h : w.ownsRow base e 1 v n xs) : ∃ A c, v = .slice A n c ∧ Rd w A n xs := by
  rcases h.2 with ⟨rfl, rfl⟩ | ⟨g, cap, cur, rfl, hg, hh, _⟩
  · exact ⟨none, 0, rfl, by simpa using h.1, fun h0 => by omega⟩
  · exact ⟨some ⟨g, 0, none⟩, cap, rfl, by simpa using h.1, fun h0 => ⟨⟨g, 0, none⟩, rfl, (Array.getElem?_eq_some_iff.1 hh).1, h.cells (g := g) rfl⟩⟩
theorem pre_count {α : Type} (enc : α → Bs) (l : List α) : l.length ≤ (pre enc l).length := by
  induction l with
  | nil => simp
  | cons x l ih => simp [pre]; omega
theorem pre_elem {α : Type} (enc : α → Bs) (l : List α) (x : α) (h : x ∈ l) : (enc x).length ≤ (pre enc l).length := by
  induction l with
  | nil => cases h
  | cons y l ih =>
    rcases List.mem_cons.1 h with rfl | h
    · simp [pre]; omega
    · have := ih h; simp [pre]; omega

theorem encL_ne {α : Type} (enc : α → Bs) (l : List α) (t : Bs) : [] ≠ encL enc l ++ t := fun h => by
  have := congrArg List.length h
  simp [encL] at this
theorem rnums_dead {w : World} {r : Nat} (h : Rdr w r [] true) : Calls Tryd.prog 29 #[.pointer (some ⟨r, 0, none⟩)] w fun e w' => e = .returned (.slice none 0 0) ∧ Rdr w' r [] true ∧ w.grownBy w' (some r) := by
  refine (rnums_any h (by decide)).mono ?_
  rintro e w' (⟨l, t, v, h1, h2, _⟩ | ⟨h1, h2⟩)
  · exact absurd h2 (encL_ne _ _ _)
  · exact h2
theorem rtexts_dead {w : World} {r : Nat} (h : Rdr w r [] true) (hm : Mx w) (hg : 0 < r) : Calls Tryd.prog 32 #[.pointer (some ⟨r, 0, none⟩)] w fun e w' => e = .returned (.slice none 0 0) ∧ Rdr w' r [] true ∧ w.grownBy w' (some r) := by
  refine (rtexts_any h (by decide) hm hg).mono ?_
  rintro e w' (⟨l, t, v, h1, h2, _⟩ | ⟨h1, h2⟩)
  · exact absurd h2 (encL_ne _ _ _)
  · exact h2
theorem done_no {w : World} {r : Nat} (h : Rdr w r [] true) : Calls Tryd.prog 36 #[.pointer (some ⟨r, 0, none⟩)] w fun e w' => e = .returned (.bool false) ∧ w = w' := done_any h
theorem left_no {w : World} {r : Nat} (h : Rdr w r [] true) : Calls Tryd.prog 34 #[.pointer (some ⟨r, 0, none⟩)] w fun e w' => e = .returned (.int .i64 0) ∧ w = w' := left_any h
/-- Behind the choice of what is read: what has been got is the beginning; or the reader has failed, and what has been got is not the whole. -/
def Got (s : Bs) (r : Nat) (w : World) (v : Value) (wc : World) : Prop := ∃ got : Bs, v = .string (sv got) ∧ got.length ≤ 100000 ∧ Below w.heap.size w wc ∧
  ((∃ rest, s = got ++ rest ∧ Rdr wc r rest false) ∨ (Rdr wc r [] true ∧ got ≠ s))

theorem got_no {s got rest e : Bs} (hs : s = got ++ rest) (h : e ≠ rest) : got ++ e ≠ s := fun he => h (by rw [hs] at he; exact List.append_cancel_left he)

set_option maxHeartbeats 8000000 in
set_option maxRecDepth 100000 in
theorem only_walk {A : Option Addr} {n c : Nat} {zs : List Int} {s : Bs} {w : World} (hr : Rd w A n (uv zs)) (hz : ∀ z ∈ zs, 0 ≤ z ∧ z ≤ 255) (hs : s.length ≤ 1000) (hn : n ≤ 30) (hm : Mx w) :
    Calls Tryd.prog 7 #[.string (sv s), .slice A n c] w (IsTrue w) := by
  have hsz : (sv s).size = s.length := rfl
  have hlen : zs.length = n := by simpa [uv] using hr.1
  have d1 : decide ((1000 : Int) < ((sv s).size : Int)) = false := decide_eq_false (by omega)
  have d2 : decide ((30 : Int) < (n : Int)) = false := decide_eq_false (by omega)
  have HR := Lib.hid hr
  have HZ := Lib.hid hz
  have HM := Lib.hid hm
  have HL := Lib.hid hlen
  have SM := Lib.hid (small_any hm)
  have OP := Lib.hid (fun W => open_any s W)
  have HSZ := Lib.hid hsz
  clear hr hz hm hlen hsz
  generalize hS : sv s = S at *
  have HS := Lib.hid hS
  clear hS
  have hS1 : S.size ≤ 1000 := by have := HSZ.out; omega
  go_enter Tryd.func7, Tryd.ntmps7
  go_wp2_with fail
  refine SM.out.mono ?_
  rintro e w1 ⟨rfl, hb1⟩
  have HB1 := Lib.hid hb1
  clear hb1
  go_wp2_with fail
  refine (OP.out _).mono ?_
  rintro e w2 ⟨rfl, r2, b2, s2⟩
  have R2 := Lib.hid r2
  have HB2 := Lib.hid (below_trans HB1.out b2)
  have hrw := HB1.out.size
  clear r2 b2 s2
  obtain ⟨r, hrr⟩ : ∃ r, r = w1.heap.size := ⟨_, rfl⟩
  rw [← hrr] at R2 hrw ⊢
  clear hrr
  have hmr : 0 < r := by have := Mx.lt HM.out; omega
  go_wp2_with fail
  go_loopw [7, 8] (fun g i wr => ∃ (k : Nat) (got rest : Bs), k ≤ n ∧ i = .int .i64 k ∧ g = .string (sv got) ∧ Hid (s = got ++ rest) ∧ Hid (Rdr wr r rest false) ∧ Hid (Below w.heap.size w wr)) (fun _ i _ => n - (intOf i).toNat)
  case atStart => exact ⟨0, [], s, Nat.zero_le _, rfl, rfl, Lib.hid rfl, R2, HB2⟩
  case round =>
    obtain ⟨k, got, rest, hk, rfl, rfl, HG, HRD, HBE⟩ := hrel
    by_cases hlt : k < n
    · obtain ⟨ad, u, e, _, hx, hc⟩ := (HR.out.below HBE.out).at_ hlt
      obtain ⟨z, hz, rfl⟩ : ∃ z, zs[k]? = some z ∧ u = .int .u8 z := by
        rw [uv, List.getElem?_map] at hx
        obtain ⟨z, hz, rfl⟩ := Option.map_eq_some_iff.1 hx
        exact ⟨z, hz, rfl⟩
      have hz255 := HZ.out z (List.mem_of_getElem? hz)
      subst e
      have hgl : got.length + rest.length = s.length := by rw [HG.out, List.length_append]
      have hgz : (sv got).size = got.length := rfl
      have HGZ := Lib.hid hgz
      have hg1 : (sv got).size ≤ 1000 := by omega
      have hre : rest.length ≤ 1000 := by omega
      have hca : ∀ e : Bs, sv got ++ sv e = sv (got ++ e) := fun e => sv_append got e
      have HCA := Lib.hid hca
      have HGL := Lib.hid hgl
      clear hx hz hgz hca hgl
      generalize hG : sv got = G at *
      have HGG := Lib.hid hG
      clear hG
      go_upto_block 2 with fail
      go_cut [7] (fun v wc => Got s r w v wc)
      case first =>
        have hq : z % 5 = 0 ∨ z % 5 = 1 ∨ z % 5 = 2 ∨ z % 5 = 3 ∨ z % 5 = 4 := by omega
        rcases hq with hq | hq | hq | hq | hq
        · -- Num
          have q0 : (z % 5 == 0) = true := by simp; omega
          clear hq
          by_cases hd : ∃ m u, decI rest = some (m, u) ∧ 0 ≤ m
          · obtain ⟨m, u, hd, h0⟩ := hd
            obtain ⟨hJ, hre2⟩ := decI_some hd
            have HGD := Lib.hid (show s = (got ++ encI m) ++ u by rw [HG.out, hre2, List.append_assoc])
            have C1 := Lib.hid (rnum_yes HRD.out (by omega) hd h0)
            have C2 := Lib.hid (fun W => num_pos m h0 hJ W)
            have HE := Lib.hid (HCA.out (encI m))
            have hel : (encI m).length ≤ 9 := encI_le m
            have HEL := Lib.hid hel
            have hez : (sv (encI m)).size ≤ 9 := hel
            clear hel
            clear hd h0 hJ hre2
            go_wp2_with fail
            refine C1.out.mono ?_
            rintro e w3 ⟨rfl, r3, g3⟩
            have R3 := Lib.hid r3
            have HB3 := Lib.hid (only_below' g3 HBE.out hrw)
            clear r3 g3
            go_wp2_with fail
            refine (C2.out _).mono ?_
            rintro e w4 ⟨rfl, b4⟩
            have R4 := Lib.hid (R3.out.below b4)
            have HB4 := Lib.hid (below_trans HB3.out b4)
            clear b4
            generalize sv (encI m) = E at *
            go_wp2_with fail
            go_meet
            exact ⟨got ++ encI m, by rw [HE.out], by rw [List.length_append]; have := HEL.out; have := HGL.out; omega, HB4.out, .inl ⟨u, HGD.out, R4.out⟩⟩
          · have hn : decI rest = none ∨ ∃ m u, decI rest = some (m, u) ∧ m < 0 := by
              cases hx : decI rest with
              | none => exact .inl rfl
              | some p =>
                obtain ⟨m, u⟩ := p
                exact .inr ⟨m, u, rfl, by
                  rcases Int.lt_or_le m 0 with h | h
                  · exact h
                  · exact absurd ⟨m, u, hx, h⟩ hd⟩
            have HNE := Lib.hid (got_no HG.out (e := encI 0) (fun e => hd ⟨0, [], by rw [← e, ← List.append_nil (encI 0)]; exact decI_enc (by decide) [], by decide⟩))
            have C1 := Lib.hid (rnum_no HRD.out (by omega) hn)
            have C2 := Lib.hid (fun W => num_pos 0 (by decide) (by decide) W)
            have HE := Lib.hid (HCA.out (encI 0))
            have hel : (encI 0).length ≤ 9 := encI_le 0
            have HEL := Lib.hid hel
            have hez : (sv (encI 0)).size ≤ 9 := hel
            clear hel
            clear hd hn
            go_wp2_with fail
            refine C1.out.mono ?_
            rintro e w3 ⟨rfl, r3, g3⟩
            have R3 := Lib.hid r3
            have HB3 := Lib.hid (only_below' g3 HBE.out hrw)
            clear r3 g3
            go_wp2_with fail
            refine (C2.out _).mono ?_
            rintro e w4 ⟨rfl, b4⟩
            have R4 := Lib.hid (R3.out.below b4)
            have HB4 := Lib.hid (below_trans HB3.out b4)
            clear b4
            generalize sv (encI 0) = E at *
            go_wp2_with fail
            go_meet
            exact ⟨got ++ encI 0, by rw [HE.out], by rw [List.length_append]; have := HEL.out; have := HGL.out; omega, HB4.out, .inr ⟨R4.out, HNE.out⟩⟩
        · -- Int
          have q0 : (z % 5 == 0) = false := by simp; omega
          have q1 : (z % 5 == 1) = true := by simp; omega
          clear hq
          cases hd : decI rest with
          | some p =>
            obtain ⟨m, u⟩ := p
            obtain ⟨hJ, hre2⟩ := decI_some hd
            have HGD := Lib.hid (show s = (got ++ encI m) ++ u by rw [HG.out, hre2, List.append_assoc])
            have C1 := Lib.hid (rint_yes HRD.out (by omega) hd)
            have C2 := Lib.hid (fun W => int_any m hJ W)
            have HE := Lib.hid (HCA.out (encI m))
            have hel : (encI m).length ≤ 9 := encI_le m
            have HEL := Lib.hid hel
            have hez : (sv (encI m)).size ≤ 9 := hel
            clear hel
            clear hd hJ hre2
            go_wp2_with fail
            refine C1.out.mono ?_
            rintro e w3 ⟨rfl, r3, g3⟩
            have R3 := Lib.hid r3
            have HB3 := Lib.hid (only_below' g3 HBE.out hrw)
            clear r3 g3
            go_wp2_with fail
            refine (C2.out _).mono ?_
            rintro e w4 ⟨rfl, b4⟩
            have R4 := Lib.hid (R3.out.below b4)
            have HB4 := Lib.hid (below_trans HB3.out b4)
            clear b4
            generalize sv (encI m) = E at *
            go_wp2_with fail
            go_meet
            exact ⟨got ++ encI m, by rw [HE.out], by rw [List.length_append]; have := HEL.out; have := HGL.out; omega, HB4.out, .inl ⟨u, HGD.out, R4.out⟩⟩
          | none =>
            have HNE := Lib.hid (got_no HG.out (e := encI 0) (fun e => by rw [← e, ← List.append_nil (encI 0), decI_enc (by decide)] at hd; cases hd))
            have C1 := Lib.hid (rint_no HRD.out (by omega) hd)
            have C2 := Lib.hid (fun W => int_any 0 (by decide) W)
            have HE := Lib.hid (HCA.out (encI 0))
            have hel : (encI 0).length ≤ 9 := encI_le 0
            have HEL := Lib.hid hel
            have hez : (sv (encI 0)).size ≤ 9 := hel
            clear hel
            clear hd
            go_wp2_with fail
            refine C1.out.mono ?_
            rintro e w3 ⟨rfl, r3, g3⟩
            have R3 := Lib.hid r3
            have HB3 := Lib.hid (only_below' g3 HBE.out hrw)
            clear r3 g3
            go_wp2_with fail
            refine (C2.out _).mono ?_
            rintro e w4 ⟨rfl, b4⟩
            have R4 := Lib.hid (R3.out.below b4)
            have HB4 := Lib.hid (below_trans HB3.out b4)
            clear b4
            generalize sv (encI 0) = E at *
            go_wp2_with fail
            go_meet
            exact ⟨got ++ encI 0, by rw [HE.out], by rw [List.length_append]; have := HEL.out; have := HGL.out; omega, HB4.out, .inr ⟨R4.out, HNE.out⟩⟩
        · -- Text
          have q0 : (z % 5 == 0) = false := by simp; omega
          have q1 : (z % 5 == 1) = false := by simp; omega
          have q2 : (z % 5 == 2) = true := by simp; omega
          clear hq
          have HMR := Lib.hid (HM.out.self HBE.out)
          cases hd : decT rest with
          | some p =>
            obtain ⟨x, u⟩ := p
            have hre2 := decT_some _ _ _ hd
            have hxl : (encT x).length ≤ 1000 := by have := congrArg List.length hre2; rw [List.length_append] at this; omega
            have hxs : x.length ≤ 1000 := by have := (esc_length x).1; rw [encT_length] at hxl; omega
            have HGD := Lib.hid (show s = (got ++ encT x) ++ u by rw [HG.out, hre2, List.append_assoc])
            have C1 := Lib.hid (rtext_yes HRD.out (by omega) HMR.out hd)
            have C2 := Lib.hid (fun (W : World) (hW : Mx W) => text_any x (by omega) hW)
            have HE := Lib.hid (HCA.out (encT x))
            have hel : (encT x).length ≤ 1000 := hxl
            have HEL := Lib.hid hel
            have hez : (sv (encT x)).size ≤ 1000 := hel
            clear hel
            clear hd hre2 hxl hxs
            go_wp2_with fail
            refine C1.out.mono ?_
            rintro e w3 ⟨rfl, r3, g3⟩
            have R3 := Lib.hid r3
            have HB3 := Lib.hid (only_below' g3 HBE.out hrw)
            clear r3 g3
            go_wp2_with fail
            refine (C2.out _ (HM.out.self HB3.out)).mono ?_
            rintro e w4 ⟨rfl, b4⟩
            have R4 := Lib.hid (R3.out.below b4)
            have HB4 := Lib.hid (below_trans HB3.out b4)
            clear b4
            generalize sv (encT x) = E at *
            go_wp2_with fail
            go_meet
            exact ⟨got ++ encT x, by rw [HE.out], by rw [List.length_append]; have := HEL.out; have := HGL.out; omega, HB4.out, .inl ⟨u, HGD.out, R4.out⟩⟩
          | none =>
            have HNE := Lib.hid (got_no HG.out (e := encT []) (fun e => by rw [← e, ← List.append_nil (encT []), decT_enc] at hd; cases hd))
            have C1 := Lib.hid (rtext_no HRD.out (by omega) HMR.out hd)
            have C2 := Lib.hid (fun (W : World) (hW : Mx W) => text_any [] (by decide) hW)
            have HE := Lib.hid (HCA.out (encT []))
            have hel : (encT []).length ≤ 2 := by decide
            have HEL := Lib.hid hel
            have hez : (sv (encT [])).size ≤ 2 := hel
            clear hel
            clear hd
            go_wp2_with fail
            refine C1.out.mono ?_
            rintro e w3 ⟨rfl, r3, g3⟩
            have R3 := Lib.hid r3
            have HB3 := Lib.hid (only_below' g3 HBE.out hrw)
            clear r3 g3
            go_wp2_with fail
            refine (C2.out _ (HM.out.self HB3.out)).mono ?_
            rintro e w4 ⟨rfl, b4⟩
            have R4 := Lib.hid (R3.out.below b4)
            have HB4 := Lib.hid (below_trans HB3.out b4)
            clear b4
            generalize sv (encT []) = E at *
            go_wp2_with fail
            go_meet
            exact ⟨got ++ encT [], by rw [HE.out], by rw [List.length_append]; have := HEL.out; have := HGL.out; omega, HB4.out, .inr ⟨R4.out, HNE.out⟩⟩
        · -- Nums
          have q0 : (z % 5 == 0) = false := by simp; omega
          have q1 : (z % 5 == 1) = false := by simp; omega
          have q2 : (z % 5 == 2) = false := by simp; omega
          have q3 : (z % 5 == 3) = true := by simp; omega
          clear hq
          have C1 := Lib.hid (rnums_any HRD.out (by omega))
          go_wp2_with fail
          refine C1.out.mono ?_
          rintro e w3 (⟨l, u, v, hl, hre2, rfl, ho, r3, g3⟩ | ⟨hno, rfl, r3, g3⟩)
          · have hxl : (encL encI l).length ≤ 1000 := by have := congrArg List.length hre2; rw [List.length_append] at this; omega
            have hpl : (pre encI l).length ≤ 1000 := by unfold encL at hxl; rw [List.length_append] at hxl; omega
            have hcl := pre_count encI l
            obtain ⟨A2, c2, rfl, hrd2⟩ := own_rd ho
            have HRR := Lib.hid hrd2
            have HGD := Lib.hid (show s = (got ++ encL encI l) ++ u by rw [HG.out, hre2, List.append_assoc])
            have C2 := Lib.hid (fun W (hW : Rd W A2 l.length (iv l)) => nums_any A2 l.length c2 l hW (by omega) hl)
            have HE := Lib.hid (HCA.out (encL encI l))
            have hel : (encL encI l).length ≤ 1000 := hxl
            have HEL := Lib.hid hel
            have hez : (sv (encL encI l)).size ≤ 1000 := hel
            clear hel
            have R3 := Lib.hid r3
            have HB3 := Lib.hid (only_below' g3 HBE.out hrw)
            clear hl hre2 ho r3 g3 hxl hpl hcl hrd2
            go_wp2_with fail
            refine (C2.out _ HRR.out).mono ?_
            rintro e w4 ⟨rfl, b4⟩
            have R4 := Lib.hid (R3.out.below b4)
            have HB4 := Lib.hid (below_trans HB3.out b4)
            clear b4
            generalize sv (encL encI l) = E at *
            go_wp2_with fail
            go_meet
            exact ⟨got ++ encL encI l, by rw [HE.out], by rw [List.length_append]; have := HEL.out; have := HGL.out; omega, HB4.out, .inl ⟨u, HGD.out, R4.out⟩⟩
          · have HNE := Lib.hid (got_no HG.out (e := encL encI []) (fun e => hno ⟨[], [], by simp, by rw [← e, List.append_nil]⟩))
            have C2 := Lib.hid (fun W => nums_any none 0 0 [] (w := W) ⟨rfl, fun h => by omega⟩ (by decide) (by simp))
            have HE := Lib.hid (HCA.out (encL encI []))
            have hel : (encL encI []).length ≤ 1 := by decide
            have HEL := Lib.hid hel
            have hez : (sv (encL encI [])).size ≤ 1 := hel
            clear hel
            have R3 := Lib.hid r3
            have HB3 := Lib.hid (only_below' g3 HBE.out hrw)
            clear hno r3 g3
            go_wp2_with fail
            refine (C2.out _).mono ?_
            rintro e w4 ⟨rfl, b4⟩
            have R4 := Lib.hid (R3.out.below b4)
            have HB4 := Lib.hid (below_trans HB3.out b4)
            clear b4
            generalize sv (encL encI []) = E at *
            go_wp2_with fail
            go_meet
            exact ⟨got ++ encL encI [], by rw [HE.out], by rw [List.length_append]; have := HEL.out; have := HGL.out; omega, HB4.out, .inr ⟨R4.out, HNE.out⟩⟩
        · -- Texts
          have q0 : (z % 5 == 0) = false := by simp; omega
          have q1 : (z % 5 == 1) = false := by simp; omega
          have q2 : (z % 5 == 2) = false := by simp; omega
          have q3 : (z % 5 == 3) = false := by simp; omega
          clear hq
          have HMR := Lib.hid (HM.out.self HBE.out)
          have C1 := Lib.hid (rtexts_any HRD.out (by omega) HMR.out hmr)
          go_wp2_with fail
          refine C1.out.mono ?_
          rintro e w3 (⟨l, u, v, hl, hre2, rfl, ho, r3, g3⟩ | ⟨hno, rfl, r3, g3⟩)
          · have hxl : (encL encT l).length ≤ 1000 := by have := congrArg List.length hre2; rw [List.length_append] at this; omega
            have hpl : (pre encT l).length ≤ 1000 := by unfold encL at hxl; rw [List.length_append] at hxl; omega
            have hcl := pre_count encT l
            obtain ⟨A2, c2, rfl, hrd2⟩ := own_rd ho
            have HRR := Lib.hid hrd2
            have HGD := Lib.hid (show s = (got ++ encL encT l) ++ u by rw [HG.out, hre2, List.append_assoc])
            have C2 := Lib.hid (fun W (hW : Rd W A2 l.length (tv l)) (hx : Mx W) => texts_any A2 l.length c2 l hW (by omega) (fun x hx => by have := pre_elem encT l x hx; have := (esc_length x).1; have h9 := encT_length x; omega) hx)
            have HE := Lib.hid (HCA.out (encL encT l))
            have hel : (encL encT l).length ≤ 1000 := hxl
            have HEL := Lib.hid hel
            have hez : (sv (encL encT l)).size ≤ 1000 := hel
            clear hel
            have R3 := Lib.hid r3
            have HB3 := Lib.hid (only_below' g3 HBE.out hrw)
            clear hl hre2 ho r3 g3 hxl hpl hcl hrd2
            go_wp2_with fail
            refine (C2.out _ HRR.out (HM.out.self HB3.out)).mono ?_
            rintro e w4 ⟨rfl, b4⟩
            have R4 := Lib.hid (R3.out.below b4)
            have HB4 := Lib.hid (below_trans HB3.out b4)
            clear b4
            generalize sv (encL encT l) = E at *
            go_wp2_with fail
            go_meet
            exact ⟨got ++ encL encT l, by rw [HE.out], by rw [List.length_append]; have := HEL.out; have := HGL.out; omega, HB4.out, .inl ⟨u, HGD.out, R4.out⟩⟩
          · have HNE := Lib.hid (got_no HG.out (e := encL encT []) (fun e => hno ⟨[], [], by simp, by rw [← e, List.append_nil]⟩))
            have C2 := Lib.hid (fun W (hx : Mx W) => texts_any none 0 0 [] (w := W) ⟨rfl, fun h => by omega⟩ (by decide) (by simp) hx)
            have HE := Lib.hid (HCA.out (encL encT []))
            have hel : (encL encT []).length ≤ 1 := by decide
            have HEL := Lib.hid hel
            have hez : (sv (encL encT [])).size ≤ 1 := hel
            clear hel
            have R3 := Lib.hid r3
            have HB3 := Lib.hid (only_below' g3 HBE.out hrw)
            clear hno r3 g3
            go_wp2_with fail
            refine (C2.out _ (HM.out.self HB3.out)).mono ?_
            rintro e w4 ⟨rfl, b4⟩
            have R4 := Lib.hid (R3.out.below b4)
            have HB4 := Lib.hid (below_trans HB3.out b4)
            clear b4
            generalize sv (encL encT []) = E at *
            go_wp2_with fail
            go_meet
            exact ⟨got ++ encL encT [], by rw [HE.out], by rw [List.length_append]; have := HEL.out; have := HGL.out; omega, HB4.out, .inr ⟨R4.out, HNE.out⟩⟩
      case rest =>
        obtain ⟨got2, rfl, hg2, hb2, hcase⟩ := hcut
        have HB2' := Lib.hid hb2
        have hg2z : (sv got2).size = got2.length := rfl
        rcases hcase with ⟨rest2, hs2, hr2⟩ | ⟨hr2, hne⟩
        · have HS2 := Lib.hid hs2
          have HR2' := Lib.hid hr2
          have hl2 : got2.length + rest2.length = s.length := by rw [hs2, List.length_append]
          have C1 := Lib.hid (left_any hr2)
          have C2 := Lib.hid (fun W => begins_any s got2 (by omega) (by omega) W)
          have hbt : begB s got2 = true := beg_yes ⟨rest2, hs2.symm⟩
          rw [hbt] at C2
          have hSz := HSZ.out
          have d1 : decide ((sv got2).size ≤ S.size) = true := decide_eq_true (by omega)
          have d2 : (((rest2.length : Nat) : Int) == (S.size : Int) - ((sv got2).size : Int)) = true := by simp; omega
          have h2n : (sv got2).size ≤ 100000 := by omega
          have hSS := HS.out
          clear hs2 hr2 hb2 hl2 hbt hg2z hSz
          generalize hG2 : sv got2 = G2 at *
          have HG2 := Lib.hid hG2
          generalize rest2.length = R at *
          rw [hSS] at C2
          clear hG2 hSS
          go_wp2_with fail
          refine C1.out.mono ?_
          rintro e w3 ⟨rfl, rfl⟩
          go_wp2_with fail
          refine (C2.out _).mono ?_
          rintro e w3 ⟨rfl, rfl⟩
          go_wp2_with fail
          go_roundw
          case rel => exact ⟨k + 1, got2, rest2, by omega, by go_num, by rw [HG2.out], HS2, HR2', HB2'⟩
          case measure => simp [intOf]; omega
        · have HR2' := Lib.hid hr2
          have hmr2 := HM.out.self hb2
          have HM2 := Lib.hid hmr2
          have hSS := HS.out
          have hSz := HSZ.out
          have h2n : (sv got2).size ≤ 100000 := by omega
          have C1 := Lib.hid (left_no hr2)
          have hcond : (decide ((sv got2).size ≤ S.size) = false) ∨ (decide ((sv got2).size ≤ S.size) = true ∧ ((0 : Int) == (S.size : Int) - ((sv got2).size : Int)) = false) ∨ (decide ((sv got2).size ≤ S.size) = true ∧ ((0 : Int) == (S.size : Int) - ((sv got2).size : Int)) = true ∧ begB s got2 = false) := by
            by_cases h1 : (sv got2).size ≤ S.size
            · right
              by_cases h2 : (sv got2).size = S.size
              · right
                refine ⟨decide_eq_true h1, by simp; omega, beg_no fun hp => hne ?_⟩
                exact hp.eq_of_length (by omega)
              · left
                exact ⟨decide_eq_true h1, by simp; omega⟩
            · left
              exact decide_eq_false h1
          have C2 := Lib.hid (fun W => begins_any s got2 (by omega) (by omega) W)
          have HCO := Lib.hid hcond
          have hS0 : (sv []).toList.isEmpty = true := by rw [sv_toList]; rfl
          have HGS := Lib.hid (show G.size ≤ S.size by have := HGL.out; have := HGZ.out; omega)
          clear hr2 hb2 hne hmr2 hcond hg2z hSz
          generalize sv got2 = G2 at *
          rw [hSS] at C2
          clear hSS
          go_upto_region 22 with fail
          go_cut [89] (fun v wc2 => v = .bool false ∧ wc = wc2)
          case first =>
            rcases HCO.out with d1 | ⟨d1, d2⟩ | ⟨d1, d2, hbf⟩
            · clear hS0
              go_wp2_with fail
              go_meet
              exact ⟨rfl, rfl⟩
            · clear hS0
              go_wp2_with fail
              refine C1.out.mono ?_
              rintro e w3 ⟨rfl, rfl⟩
              go_wp2_with fail
              go_meet
              exact ⟨rfl, rfl⟩
            · rw [hbf] at C2
              clear hbf hS0
              go_wp2_with fail
              refine C1.out.mono ?_
              rintro e w3 ⟨rfl, rfl⟩
              go_wp2_with fail
              refine (C2.out _).mono ?_
              rintro e w3 ⟨rfl, rfl⟩
              go_wp2_with fail
              go_meet
              exact ⟨rfl, rfl⟩
          case rest =>
            obtain ⟨rfl, rfl⟩ := hcut
            have hgs := HGS.out
            have dG : decide (G.size ≤ S.size) = true := decide_eq_true hgs
            go_wp2_with fail
            refine (done_no HR2'.out).mono ?_
            rintro e w3 ⟨rfl, rfl⟩
            go_wp2_with fail
            refine (left_no HR2'.out).mono ?_
            rintro e w3 ⟨rfl, rfl⟩
            go_wp2_with fail
            refine (rint_no HR2'.out (by decide) rfl).mono ?_
            rintro e w3 ⟨rfl, r3, g3⟩
            have R3 := Lib.hid r3
            have HB3 := Lib.hid (only_below' g3 HB2'.out hrw)
            clear r3 g3
            go_wp2_with fail
            refine (rtext_no R3.out (by decide) (HM.out.self HB3.out) rfl).mono ?_
            rintro e w4 ⟨rfl, r4, g4⟩
            have R4 := Lib.hid r4
            have HB4 := Lib.hid (only_below' g4 HB3.out hrw)
            clear r4 g4
            go_wp2_with fail
            refine (rnums_dead R4.out).mono ?_
            rintro e w5 ⟨rfl, r5, g5⟩
            have R5 := Lib.hid r5
            have HB5 := Lib.hid (only_below' g5 HB4.out hrw)
            clear r5 g5
            go_wp2_with fail
            refine (rtexts_dead R5.out (HM.out.self HB5.out) hmr).mono ?_
            rintro e w6 ⟨rfl, r6, g6⟩
            have R6 := Lib.hid r6
            have HB6 := Lib.hid (only_below' g6 HB5.out hrw)
            clear r6 g6
            go_wp2_with fail
            refine (rnum_no R6.out (by decide) (.inl rfl)).mono ?_
            rintro e w7 ⟨rfl, r7, g7⟩
            have HB7 := Lib.hid (only_below' g7 HB6.out hrw)
            clear r7 g7
            go_wp2_with fail
            go_ret
            exact ⟨rfl, HB7.out⟩
    · obtain rfl : k = n := by omega
      go_wp2_with fail
      go_ret
      exact ⟨rfl, HBE.out⟩
end Go.Proofs.YtocbodjmdgoaiaaDoor
