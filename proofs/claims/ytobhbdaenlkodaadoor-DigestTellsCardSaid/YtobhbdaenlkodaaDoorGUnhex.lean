/- digest.Unhex: the bytes whose digits these are, if there are any. Conditions: the string's length is within the model's reach. -/
import Derived.Test.YtobhbdaenlkodaaDoorGUnL
import Derived.Test.YtobhbdaenlkodaaDoorGBuf
namespace Go.Proofs.YtobhbdaenlkodaaDoor
open Go.RowKit Gm
set_option linter.unusedVariables false

/-- What Unhex hands back. -/
def unres : Option Bs → Ending
  | some l => .returned (.tuple #[.string (sv l), .bool true])
  | none => .returned (.tuple #[.string (sv []), .bool false])
theorem okB_take (s : Bs) (k : Nat) (h : k < s.length) : okB (s.take (k + 1)) = (okB (s.take k) && decide (0 ≤ dval (s.getD k 0))) := by
  have e : s.getD k 0 = s[k] := by rw [List.getD_eq_getElem?_getD, List.getElem?_eq_getElem h]; rfl
  rw [List.take_succ_eq_append_getElem h, e]
  unfold okB
  rw [List.all_append]
  simp only [List.all_cons, List.all_nil, Bool.and_true]
theorem okB_not (s : Bs) (k : Nat) (h : k < s.length) (hd : dval (s.getD k 0) < 0) : okB s = false := by
  have e : s.getD k 0 = s[k] := by rw [List.getD_eq_getElem?_getD, List.getElem?_eq_getElem h]; rfl
  rw [e] at hd
  unfold okB
  rw [List.all_eq_false]
  exact ⟨s[k], List.getElem_mem h, by simp; omega⟩

set_option maxHeartbeats 2000000 in
set_option maxRecDepth 100000 in
theorem unhex_any (s : Bs) (hs : s.length ≤ 1099511627776) (w : World) : Calls Tryd.prog 10 #[.string (sv s)] w fun e w' => e = unres (unhexs s) ∧ Below w.heap.size w w' := by
  obtain ⟨n, hn⟩ : ∃ n, s.length = n := ⟨_, rfl⟩
  have hsz : (sv s).size = n := hn
  have HN := Lib.hid hn
  have HNB : Hid (n ≤ 1099511627776) := Lib.hid (by omega)
  have hrem : Int.tmod (n : Int) 2 = ((n % 2 : Nat) : Int) := by rw [Int.tmod_eq_emod_of_nonneg (by omega)]; omega
  have hrem2 : (n : Int) % 2 = ((n % 2 : Nat) : Int) := by omega
  rcases Nat.mod_two_eq_zero_or_one n with hp | hp
  · obtain ⟨q, hq⟩ : ∃ q, n / 2 = q := ⟨_, rfl⟩
    have HP : Hid (n % 2 = 0) := Lib.hid hp
    have HQ : Hid (n / 2 = q) := Lib.hid hq
    have HU : Hid (unhexs s = if okB s = true then some (pairs s) else none) := Lib.hid (by rw [unhexs_eq, hn, hp]; simp)
    obtain ⟨R, hR⟩ : ∃ R, unhexs s = R := ⟨_, rfl⟩
    rw [hR] at HU ⊢
    clear hR
    rw [hp] at hrem hrem2
    have hq1 : (n : Int) / 2 = (q : Int) := by omega
    have hq2 : Int.tdiv (n : Int) 2 = (q : Int) := by rw [Int.tdiv_eq_ediv_of_nonneg (by omega)]; exact hq1
    have hmk := run_mkb q (by omega)
    have hwq : wrap64 (q : Int) = (q : Int) := by unfold wrap64; omega
    obtain ⟨g, hg⟩ : ∃ g, w.heap.size = g := ⟨_, rfl⟩
    have HGS := Lib.hid hg
    have HG := Lib.hid (fun k (h : k < (sv s).size) => sv_get s k h)
    clear hs hn hp hq
    go_enter Tryd.func10, Tryd.ntmps10
    go_upto_region 4 with fail
    refine hide_world (X := fun W => Hid (Blk W g 5 (bcs (ub s 0)) ∧ Below g w W)) (Lib.hid ⟨?_, ?_⟩) ?_
    · rw [ub_zero, HN.out, HQ.out, ← hg]; exact Blk.new w _ _
    · have hb : Below g w w := hg ▸ below_self w
      exact hb.alloc (Nat.le_of_eq hg.symm) _
    intro W HS
    clear hg hmk hrem hrem2 hq1 hq2 hwq
    go_wp2_with fail
    go_loopw [17] (fun i wr => ∃ k : Nat, k ≤ n ∧ i = .int .i64 k ∧ Hid (okB (s.take k) = true ∧ Blk wr g 5 (bcs (ub s k)) ∧ Below g w wr)) (fun i _ => n - (intOf i).toNat)
    case atStart => exact ⟨0, Nat.zero_le _, rfl, Lib.hid ⟨rfl, HS.out⟩⟩
    case round =>
      obtain ⟨k, hk, rfl, HK⟩ := hrel
      by_cases hlt : k < n
      · have dl : decide ((k : Int) < (n : Int)) = true := decide_eq_true (by omega)
        have hkn : (k : Int) < (n : Int) := by omega
        obtain ⟨c, hc⟩ : ∃ c, (s.getD k 0) = c := ⟨_, rfl⟩
        have hks : k < (sv s).size := by omega
        have hget : (sv s)[k]'hks = c := (HG.out k hks).trans hc
        have hcb : (c.toNat : Int).toNat.toUInt8 = c := by simp
        have HIX : Hid (∀ W, Calls Tryd.prog 21 #[.string ⟨#[48, 49, 50, 51, 52, 53, 54, 55, 56, 57, 97, 98, 99, 100, 101, 102]⟩, .int .u8 (c.toNat : Int)] W fun e w' => e = .returned (.int .i64 (dval c)) ∧ w' = W) := Lib.hid (fun W => by
          have := Tryd.strings_IndexByte ⟨#[48, 49, 50, 51, 52, 53, 54, 55, 56, 57, 97, 98, 99, 100, 101, 102]⟩ (c.toNat : Int) W
          rw [hcb] at this
          have e : Lib.indexByte (⟨#[48, 49, 50, 51, 52, 53, 54, 55, 56, 57, 97, 98, 99, 100, 101, 102]⟩ : ByteArray).data.toList c = dval c := dval_index c
          rw [e] at this
          exact this)
        have hbd := dval_bd c
        by_cases hneg : dval c < 0
        · have HBAD : Hid (R = none) := Lib.hid (by rw [HU.out, okB_not s k (by have := HN.out; omega) (by rw [hc]; exact hneg)]; rfl)
          obtain ⟨d, hd⟩ : ∃ d, dval c = d := ⟨_, rfl⟩
          rw [hd] at HIX hneg hbd
          have dn : decide (d < 0) = true := decide_eq_true hneg
          clear hd hcb hbd hneg
          go_wp2_with fail
          refine (HIX.out _).mono ?_
          rintro e w' ⟨rfl, rfl⟩
          go_wp2_with fail
          go_ret2
          exact ⟨by rw [HBAD.out]; rfl, by rw [HGS.out]; exact HK.out.2.2⟩
        · have hok : decide (0 ≤ dval c) = true := decide_eq_true (by omega)
          have HST := Lib.hid (ub_step s k (by have := HN.out; omega) (by rw [HN.out]; exact HP.out) (by rw [hc]; omega))
          have HOK : Hid (okB (s.take (k + 1)) = true) := Lib.hid (by rw [okB_take s k (by have := HN.out; omega), HK.out.1, hc, hok]; rfl)
          obtain ⟨d, hd⟩ : ∃ d : Nat, (dval c).toNat = d := ⟨_, rfl⟩
          have hd2 : dval c = (d : Int) := by omega
          rw [hc, hd] at HST
          rw [hd2] at HIX
          have hd16 : d < 16 := by omega
          have dn : decide ((d : Int) < 0) = false := decide_eq_false (by omega)
          obtain ⟨p, hpk⟩ : ∃ p, k / 2 = p := ⟨_, rfl⟩
          rw [hpk] at HST
          have hpq : p < q := by have := HQ.out; have := HP.out; omega
          obtain ⟨old, ho⟩ : ∃ o : Nat, ((ub s k).getD p 0).toNat = o := ⟨_, rfl⟩
          rw [ho] at HST
          have hold := HST.out.2
          obtain ⟨b, hb⟩ : ∃ b, UInt8.ofNat (16 * old % 256 ||| d) = b := ⟨_, rfl⟩
          rw [hb] at HST
          have hcell : wr.cell? ⟨g, p, none⟩ = some (.int .u8 (old : Int)) := (HK.out.2.1.cell p).trans (by rw [bcs_at _ p (by rw [ub_length, HN.out, HQ.out]; exact hpq), ho])
          have hfz : wr.frozen? ⟨g, p, none⟩ = false := HK.out.2.1.frozen p
          have e1 : (k : Int) / 2 = (p : Int) := by omega
          have e2 : Int.tdiv (k : Int) 2 = (p : Int) := by rw [Int.tdiv_eq_ediv_of_nonneg (by omega)]; exact e1
          have e4 : IntKind.u8.wrap (d : Int) = (d : Int) := by rw [IntKind.wrap_u8]; omega
          have e5 : (d : Int) % 256 = (d : Int) := by omega
          have e6 : (old : Int) * 16 % 256 = ((16 * old % 256 : Nat) : Int) := by omega
          have e7 : bits .or .u8 ((16 * old % 256 : Nat) : Int) (d : Int) = (b.toNat : Int) := by
            rw [u8_or_nat (16 * old % 256) d (by omega) (by omega), ← hb, UInt8.toNat_ofNat', Nat.mod_eq_of_lt (Nat.or_lt_two_pow (n := 8) (x := 16 * old % 256) (y := d) (by omega) (by omega))]
          have e8 : (p : Int) < (q : Int) := by omega
          have e3 : wrap64 (p : Int) = (p : Int) := by have := HQ.out; have := HNB.out; unfold wrap64; omega
          obtain ⟨o2, ho2⟩ : ∃ o : Nat, 16 * old % 256 = o := ⟨_, rfl⟩
          rw [ho2] at e6 e7
          have HKN : Hid (okB (s.take (k + 1)) = true ∧ Blk (wr.setCell ⟨g, p, none⟩ (.int .u8 (b.toNat : Int))) g 5 (bcs (ub s (k + 1))) ∧ Below g w (wr.setCell ⟨g, p, none⟩ (.int .u8 (b.toNat : Int)))) := Lib.hid (by
            refine ⟨HOK.out, ?_, HK.out.2.2.setCell (Nat.le_refl _) _⟩
            have := Blk.set_ HK.out.2.1 p (.int .u8 (b.toNat : Int))
            rw [bcs_set, ← HST.out.1] at this
            exact this)
          clear hneg hbd hok hd hd2 hd16 hpk hold hb ho2 ho HK HST hcb hc
          generalize b.toNat = bn at *
          have hk1 : wrap64 ((k : Int) + 1) = ((k + 1 : Nat) : Int) := by have := HNB.out; clear e3; unfold wrap64; omega
          go_wp2_with fail
          refine (HIX.out _).mono ?_
          rintro e w' ⟨rfl, rfl⟩
          go_wp2_with fail
          simp only [hk1]
          clear e3 hk1
          go_roundw
          case rel => exact ⟨k + 1, by omega, rfl, HKN⟩
          case measure => simp [intOf]; omega
      · obtain rfl : k = n := by omega
        have dl : decide ((k : Int) < (k : Int)) = false := decide_eq_false (by omega)
        have hall : s.take k = s := by rw [← HN.out, List.take_length]
        have HRR : Hid (R = some (pairs s)) := Lib.hid (by have := HK.out.1; rw [hall] at this; rw [HU.out, this]; rfl)
        have hub : ub s k = pairs s := by have := ub_all s (by rw [HN.out]; exact HP.out); rw [HN.out] at this; exact this
        have hlen : (pairs s).length = q := by rw [pairs_length, HN.out, HQ.out]
        have hconv := back_bytes (l := pairs s) (by have := HK.out.2.1; rw [hub] at this; exact this) q
        rw [hlen] at hconv
        clear hall hub hlen
        generalize pairs s = P at *
        go_wp2_with fail
        go_ret2
        exact ⟨by rw [HRR.out]; rfl, by rw [HGS.out]; exact HK.out.2.2⟩
  · rw [hp] at hrem hrem2
    have HU : Hid (unhexs s = none) := Lib.hid (by rw [unhexs_eq, hn, hp]; simp)
    go_enter Tryd.func10, Tryd.ntmps10
    go_wp2_with fail
    go_ret2
    exact ⟨by rw [HU.out]; rfl, Below.refl _ _⟩
end Go.Proofs.YtobhbdaenlkodaaDoor
