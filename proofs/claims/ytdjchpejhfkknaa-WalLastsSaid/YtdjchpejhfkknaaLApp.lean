/- wal's Append. Conditions: the disk and the log lie in memory of their own; the row has at most 10^9 bytes, the log at most 10^6 rows. -/
import Derived.Test.YtdjchpejhfkknaaLFlush
namespace Go.Proofs.Ytdjchpejhfkknaa.Lw
open Go.RowKit Km Dk
open Lm hiding Bs
set_option linter.unusedVariables false
set_option maxRecDepth 100000

/-- What a method of the log leaves: the disk in state s', the log with rows'; only blocks of the two, and new ones, have turned. -/
def Aft (D M : Nat → Prop) (r p f : Nat) (s' : St) (rows' : List Bs) (w w' : World) : Prop :=
  ∃ D' M', (∀ b, D' b → D b) ∧ (∀ b, M' b → M b ∨ D b) ∧ LD D' M' r p f s' rows' w' ∧ Fr (fun b => D b ∨ M b) w w'
def wappE (s : St) (f : Nat) (b : Bs) : Int := if tooB b then 8 else appE s (f : Nat) (recB b)
def wappS (s : St) (f : Nat) (b : Bs) : St := if tooB b then s else appS s (f : Nat) (recB b)
def wappR (s : St) (f : Nat) (rows : List Bs) (b : Bs) : List Bs := if wappE s f b = 0 then rows ++ [b] else rows
section
variable {D M : Nat → Prop} {p r f : Nat} {s : St} {rows : List Bs} {w w' : World}
theorem infoStr : (Try.prog.info? 9).map (fun i => (i.zero, i.size, i.bytes)) = some (some (.string ⟨#[]⟩), 1, 16) := by kernel_rfl
theorem Lay.without {A : Nat → Prop} {K : Nat → Value} (h : Lay A r s K w) (hs : w.heap.size ≤ w'.heap.size) (h' : Lay A r s K w') {g : Nat} (hg : w.heap.size ≤ g ∨ ¬ A g) (hg2 : g < w'.heap.size) : Lay (fun b => A b ∧ b ≠ g) r s K w' := by
  refine ⟨h'.row, ⟨fun i hi b hbb => ?_, h'.sep.dif, ⟨⟨h'.sep.rA.1, fun e => ?_⟩, h'.sep.rA.2⟩, fun b hbb => ⟨h'.sep.new b hbb, by omega⟩⟩, h'.cont⟩
  · obtain ⟨x, y, z⟩ := h.sep.own i hi b hbb
    refine ⟨⟨x, fun e => ?_⟩, y, by omega⟩
    subst e
    rcases hg with hg | hg
    · omega
    · exact hg x
  · subst e
    have := h.sep.rA
    rcases hg with hg | hg
    · omega
    · exact hg this.1
/-- The log's rows have turned, in their own block or a new one. -/
theorem LD.rowsTo {v v' : Value} {rows' : List Bs} {w1 : World} (h : LD D M r p f s rows w)
    (hb : Blk w p 87 #[.pointer (some ⟨r, 0, none⟩), .int .i64 ((f : Nat) : Int), v]) (ho : w.ownsRow 0 9 1 v rows.length (sc rows)) (hv : ∀ b, v.ownBlock = some b → M b ∧ b ≠ p ∧ b < w.heap.size)
    (hgrow : w.grownBy w1 v.ownBlock) (hown : w1.ownsRow 0 9 1 v' rows'.length (sc rows')) (hwh : ∀ b, v'.ownBlock = some b → (w.heap.size ≤ b ∧ b < w1.heap.size) ∨ v.ownBlock = some b) :
    Aft D M r p f s rows' w (w1.setCell ⟨p, 2, none⟩ v') := by
  have hpl := h.log.lt
  have hMp := h.log.own
  have hp1 : Blk w1 p 87 #[.pointer (some ⟨r, 0, none⟩), .int .i64 ((f : Nat) : Int), v] := (hgrow.block p hpl (fun e => (hv p e.symm).2.1 rfl)).trans hb
  have hDnew : ∀ b, w.heap.size ≤ b → D b := h.dsk.2.choose_spec.sep.new
  have hs1 : (w1.setCell ⟨p, 2, none⟩ v').heap.size = w1.heap.size := by simp [World.setCell]
  have hfr : Fr (fun b => D b ∨ M b) w (w1.setCell ⟨p, 2, none⟩ v') := ((Fr.refl _ w).grown hgrow (fun k hk => .inr (hv k hk).1)).setCell (p := ⟨p, 2, none⟩) (.inr hMp) v'
  obtain ⟨hwf, K, hl⟩ := h.dsk
  have hl1 : Lay D r s K (w1.setCell ⟨p, 2, none⟩ v') := hl.stay (by rw [hs1]; exact hgrow.size) fun b hb' hDb => by
    rw [heap_setCell_other w1 _ b v' (fun e => h.sep p hMp (by rw [e] at hDb; exact hDb))]
    exact hgrow.block b hb' (fun e => h.sep b (hv b e.symm).1 hDb)
  have hvp : v'.ownBlock ≠ some p := fun e => by
    rcases hwh p e with h1 | h1
    · omega
    · exact (hv p h1).2.1 rfl
  have hlt : ∀ b, v'.ownBlock = some b → b < w1.heap.size := fun b e => by
    rcases hwh b e with h1 | h1
    · exact h1.2
    · have := (hv b h1).2.2; have := hgrow.size; omega
  have hblk : ∃ u, Blk (w1.setCell ⟨p, 2, none⟩ v') p 87 #[.pointer (some ⟨r, 0, none⟩), .int .i64 ((f : Nat) : Int), u] ∧ (w1.setCell ⟨p, 2, none⟩ v').ownsRow 0 9 1 u rows'.length (sc rows') ∧ u = v' :=
    ⟨v', hp1.set_ 2 v', owns_block hown fun b hb' => heap_setCell_other w1 _ b v' (fun e => hvp (by rw [hb', e])), rfl⟩
  obtain ⟨u, hu1, hu2, rfl⟩ := hblk
  cases hob : u.ownBlock with
  | none =>
    exact ⟨D, M, fun _ hb => hb, fun _ hb => .inl hb, ⟨⟨hwf, K, hl1⟩, ⟨⟨u, hu1, hu2, fun b e => by rw [hob] at e; cases e⟩, hMp⟩, h.sep⟩, hfr⟩
  | some g =>
    refine ⟨fun b => D b ∧ b ≠ g, fun b => M b ∨ b = g, fun _ hb => hb.1, fun b hb => ?_, ⟨⟨hwf, K, Lay.without hl (by rw [hs1]; exact hgrow.size) hl1 ?_ (by rw [hs1]; exact hlt g hob)⟩, ⟨⟨u, hu1, hu2, fun b e => ?_⟩, .inl hMp⟩, fun b hb hD => ?_⟩, hfr⟩
    · rcases hb with hb | rfl
      · exact .inl hb
      · rcases hwh b hob with h1 | h1
        · exact .inr (hDnew b h1.1)
        · exact .inl (hv b h1).1
    · rcases hwh g hob with h1 | h1
      · exact .inl h1.1
      · exact .inr (h.sep g (hv g h1).1)
    · rw [hob] at e
      injection e with e
      subst e
      exact ⟨.inr rfl, fun e => hvp (by rw [hob, e]), by rw [hs1]; exact hlt g hob⟩
    · rcases hb with hb | rfl
      · exact h.sep b hb hD.1
      · exact hD.2 rfl
theorem LD.aft {s' : St} (h : LD D M r p f s rows w) (hd : Dsk D r s' w') (hf : Fr D w w') : Aft D M r p f s' rows w w' :=
  ⟨D, M, fun _ hb => hb, fun _ hb => .inl hb, h.disk hd hf, hf.mono fun _ hb => .inl hb⟩
theorem Aft.from {s' : St} {rows' : List Bs} {w1 : World} (h : Aft D M r p f s' rows' w1 w') (hf : Fr D w w1) : Aft D M r p f s' rows' w w' := by
  obtain ⟨D', M', h1, h2, h3, h4⟩ := h
  exact ⟨D', M', h1, h2, h3, (hf.mono fun _ hb => .inl hb).trans h4⟩
set_option maxHeartbeats 2000000 in
theorem wappend_any (h : LD D M r p f s rows w) (b : Bs) (hb : b.length ≤ 100000000) (hl : rows.length ≤ 1000000) : Calls Try.prog 35 #[.pointer (some ⟨p, 0, none⟩), .string (sv b)] w fun e w' => e = .returned (.int .i64 (wappE s f b)) ∧ Aft D M r p f (wappS s f b) (wappR s f rows b) w w' := by
  have HT := Lib.hid (fun W => tooLong_any b W)
  have c0 := h.log.c0
  have c1 := h.log.c1
  by_cases ht : tooB b
  · have e1 : wappE s f b = 8 := by unfold wappE; rw [if_pos ht]
    have e2 : wappS s f b = s := by unfold wappS; rw [if_pos ht]
    have e3 : wappR s f rows b = rows := by unfold wappR; rw [e1, if_neg (by decide)]
    rw [e1, e2, e3]
    have hA := h.aft h.dsk (Fr.refl D w)
    have HA := Lib.hid hA
    have hT : tooB b = true := ht
    have HB := Lib.hid hT
    clear e1 e2 e3 h hA ht hT hl hb
    go_enter Try.func35, Try.ntmps35
    go_wp2_with fail
    refine (HT.out _).mono ?_
    rintro e w1 ⟨rfl, rfl⟩
    rw [HB.out]
    go_wp2_with fail
    go_ret
    exact ⟨rfl, HA.out⟩
  · have e1 : wappE s f b = appE s (f : Nat) (recB b) := by unfold wappE; rw [if_neg ht]
    have e2 : wappS s f b = appS s (f : Nat) (recB b) := by unfold wappS; rw [if_neg ht]
    have hpl := h.log.lt
    have HR := Lib.hid (show ∀ W, Below w.heap.size w W → Calls Try.prog 63 #[.string (sv b)] W fun e w' => e = .returned (.string (sv (recB b))) ∧ Below w.heap.size w w' ∧ w'.cell? ⟨p, 0, none⟩ = some (.pointer (some ⟨r, 0, none⟩)) ∧ w'.cell? ⟨p, 1, none⟩ = some (.int .i64 ((f : Nat) : Int)) from fun W hb0 =>
      (record_any b (by omega) W).mono fun e w' ⟨he, hb'⟩ => by
        have hb2 := hb0.trans (hb'.mono hb0.size)
        exact ⟨he, hb2, (hb2.cell (p := ⟨p, 0, none⟩) hpl).trans c0, (hb2.cell (p := ⟨p, 1, none⟩) hpl).trans c1⟩)
    have HC := Lib.hid (fun W (hb : Below w.heap.size w W) => append_dsk (h.below hb).dsk (f : Nat) (recB b) (by rw [recB_length]; omega))
    have HE3 := Lib.hid (show wappR s f rows b = if appE s (f : Nat) (recB b) = 0 then rows ++ [b] else rows from by unfold wappR; rw [e1])
    rw [e1, e2]
    have hT : tooB b = false := by simpa using ht
    have HB := Lib.hid hT
    have HL := Lib.hid h
    clear e1 e2 h ht hT hb hpl
    generalize appE s (f : Nat) (recB b) = E at *
    generalize appS s (f : Nat) (recB b) = S' at *
    generalize sv (recB b) = RB at *
    go_enter Try.func35, Try.ntmps35
    go_wp2_with fail
    refine (HT.out _).mono ?_
    rintro e w1 ⟨rfl, rfl⟩
    rw [HB.out]
    go_upto_region 3 with fail
    --GG
    go_cut [5] from 8 to 18 (fun v wc => v = .int .i64 E ∧ ∃ w1, Below w.heap.size w w1 ∧ Dsk D r S' wc ∧ Fr D w1 wc)
    case first =>
      go_region_with ((first
        | (go_at_call 63; refine (HR.out _ (Below.refl _ _).drew).mono ?_; rintro e w1 ⟨rfl, hb1, d0, d1⟩)
        | (go_at_call 13; refine (HC.out _ ‹_›).mono ?_; rintro e w2 ⟨rfl, h1, h2⟩)))
      all_goals (
        go_wp2_with fail
        go_meet
        exact ⟨rfl, _, ‹_›, ‹_›, ‹_›⟩)
    case rest =>
      obtain ⟨rfl, w1, hb1, hd, hf⟩ := hcut
      have hLD := (HL.out.below hb1).disk hd hf
      have hF : Fr D w wc := ((Fr.refl D w).below hb1).trans hf
      by_cases hE : E = 0
      · have hR := HE3.out
        rw [if_pos hE] at hR
        have HR3 := Lib.hid hR
        obtain ⟨v, hbl, ho, hv⟩ := hLD.log.blk
        obtain ⟨va, vc, rfl⟩ := owns_slice ho
        have c2 := hbl.cell 2
        have HLD := Lib.hid hLD
        have HF := Lib.hid hF
        have HBL := Lib.hid hbl
        have HO := Lib.hid ho
        have HV := Lib.hid hv
        have hll : (rows ++ [b]).length = rows.length + 1 := by simp
        have hsc : sc (rows ++ [b]) = sc rows ++ [.string (sv b)] := by rw [sc_append]; rfl
        have HLL := Lib.hid hll
        have HSC := Lib.hid hsc
        subst hE
        obtain ⟨i0, hi, hz0, hz1, hz2⟩ := info_parts infoStr
        clear hLD hF hd hf hb1 c0 c1 hbl ho hv hR hll hsc HC HR HT HB HE3 HL
        obtain ⟨n, hn⟩ : ∃ n, rows.length = n := ⟨_, rfl⟩
        have HN := Lib.hid hn
        rw [hn] at hl HBL HO HV HLL c2
        clear hn
        go_wp2_with (at_builtin; refine wpList_append_src rfl (.tmp 25) (.tmp 27) 38 38 rfl 9 i0 (.string ⟨#[]⟩) 1 16 Try.underlying38 hi hz0 hz1 hz2 rfl (by decide) _ _ _ rfl (HO.out.alloc _) _ 1 (by decide) [.string (sv b)] rfl (Src.ofSlice _ Try.underlying38 ⟨wc.heap.size, 0, none⟩ 1 1 _ rfl ?d1 ?d2) ?d3 ?d4 ?_)
        case d1 =>
          intro j u hj
          rw [add_zero_addr, (Blk.new wc 9 #[.string (sv b)]).cell]
          match j, hj with
          | 0, hj => simpa using hj
        case d2 =>
          intro u hu
          rw [List.mem_singleton] at hu
          subst hu
          rfl
        case d3 => unfold maxLen; omega
        case d4 => omega
        intro v' w3 hown hgrow hwh
        have hown' : w3.ownsRow 0 9 1 v' (rows ++ [b]).length (sc (rows ++ [b])) := by rw [HLL.out, HSC.out]; exact hown
        obtain ⟨v2a, v2c, hvv⟩ := owns_slice hown
        have hal := below_alloc wc (.cells #[.string (sv b)] 9)
        have hpl := HLD.out.log.lt
        have hA : Aft D M r p f S' (rows ++ [b]) w (w3.setCell ⟨p, 2, none⟩ v') := by
          refine Aft.from ((HLD.out.below hal).rowsTo (v := .slice va n vc) (HBL.out.alloc _) ?_ (fun b e => ?_) hgrow hown' (fun b e => ?_)) (HF.out.alloc _)
          · rw [HN.out]; exact (owns_base HO.out).alloc _
          · obtain ⟨x, y, z⟩ := HV.out b e
            exact ⟨x, y, by simp; omega⟩
          · have := hwh b e
            simpa using this
        have hp3 : Blk w3 p 87 #[.pointer (some ⟨r, 0, none⟩), .int .i64 ((f : Nat) : Int), .slice va n vc] := (hgrow.block p (by simp; omega) (fun e => (HV.out p e.symm).2.1 rfl)).trans (HBL.out.alloc _)
        have z1 := hp3.cell 2
        have z2 := hp3.frozen 2
        have HA := Lib.hid hA
        clear hown hown' hgrow hwh hA hp3 c2
        subst hvv
        go_wp2_with fail
        go_ret
        exact ⟨rfl, by rw [HR3.out]; exact HA.out⟩
      · have hR := HE3.out
        rw [if_neg hE] at hR
        have HR3 := Lib.hid hR
        have hA := HL.out.aft (D := D) (s' := S') (w' := wc) hd hF
        have HA := Lib.hid hA
        have dE : (E == 0) = false := by simpa using hE
        clear hLD hF hd hf hb1 c0 c1 hR HC HR HT HB HE3 HL hE hA
        go_wp2_with fail
        go_ret
        exact ⟨rfl, by rw [HR3.out]; exact HA.out⟩
end
end Go.Proofs.Ytdjchpejhfkknaa.Lw
