/- after: an act on a log whose disk is up: what it leaves. Conditions: the acts are small. -/
import Derived.Test.YtdjchpejhfkknaaLAm
namespace Go.Proofs.Ytdjchpejhfkknaa.Lw
open Go.RowKit Km Dk
open Lm hiding Bs
set_option linter.unusedVariables false
set_option maxRecDepth 100000

/-- What comes into `after`. -/
structure Bf (A : Nat → Prop) (r p n : Nat) (s : St) (rows : List Bs) (k : Nat) (w : World) (vs lv kv : Value) (a : Ax) : Prop where
  lg : Lgd A r p 2 s rows w
  iv : Iv s rows k
  ts : Texts w vs (rows.take k)
  tvb : ∀ b, vblock vs = some b → ¬ A b
  tl : Texts w lv a.l
  lvb : ∀ b, vblock lv = some b → ¬ A b
  kl : Ints w kv a.k
  kvb : ∀ b, vblock kv = some b → ¬ A b
  rl : rows.length + 1 ≤ n
  ll : a.l.length ≤ 12
  n12 : 12 ≤ n
  nn : n ≤ 900
  rs : ∀ t ∈ rows, t.length ≤ 2000
  sl : a.s.length ≤ 2000
  sL : ∀ t ∈ a.l, t.length ≤ 2000
  kk : a.k.length ≤ 8
  kj : ∀ z ∈ a.k, J64 z
  nj : J64 a.n
theorem recs_le12 {l : List Bs} (h : ∀ t ∈ l, t.length ≤ 2000) : (recs l).length ≤ 2007 * l.length := by
  induction l with
  | nil => simp [recs]
  | cons b t ih =>
    have h1 := h b (by simp)
    have h2 := ih (fun x hx => h x (by simp [hx]))
    rw [recs_cons, List.length_append, recB_length, List.length_cons]
    omega
theorem small_of {l : List Bs} (h : ∀ t ∈ l, t.length ≤ 2000) : Small l := fun b hb => by have := h b hb; omega
section
variable {A : Nat → Prop} {r p n k : Nat} {s : St} {w : World} {rows : List Bs} {vs lv kv : Value}
set_option maxHeartbeats 8000000 in
theorem aft_lose (a : Ax) (B0 : Bf A r p n s rows k w vs lv kv a) (hm : bits BinOp.and IntKind.i64 a.d 7 = 6) :
    Calls Try.prog 27 #[.pointer (some ⟨r, 0, none⟩), .pointer (some ⟨p, 0, none⟩), .agg (axC a lv kv), vs] w (AfR A r p n w) := by
  have t0 : (bits BinOp.and IntKind.i64 a.d 7 == 0) = false := by rw [hm]; rfl
  have t1 : (bits BinOp.and IntKind.i64 a.d 7 == 1) = false := by rw [hm]; rfl
  have t2 : (bits BinOp.and IntKind.i64 a.d 7 == 2) = false := by rw [hm]; rfl
  have t3 : (bits BinOp.and IntKind.i64 a.d 7 == 3) = false := by rw [hm]; rfl
  have t5 : (bits BinOp.and IntKind.i64 a.d 7 == 5) = false := by rw [hm]; rfl
  have t6 : (bits BinOp.and IntKind.i64 a.d 7 == 6) = true := by rw [hm]; rfl
  have t7 : (bits BinOp.and IntKind.i64 a.d 7 == 7) = false := by rw [hm]; rfl
  clear hm
  have HB := Lib.hid B0
  have HAL := Lib.hid (fun o o' => lgd_all2 ((B0.lg.alloc o).alloc o') (by have := B0.rl; have := B0.nn; omega) (fun t ht => by have := B0.rs t ht; omega))
  have HUP := Lib.hid (show (loseS s a.n).down = false from (lose_iv B0.iv B0.nj).up)
  have HIV := Lib.hid (lose_iv B0.iv B0.nj)
  obtain ⟨sa, sc, rfl⟩ := texts_len B0.ts
  obtain ⟨la, lc, rfl⟩ := texts_len B0.tl
  obtain ⟨ka, kc, rfl, _⟩ := B0.kl
  clear B0
  generalize (rows.take k).length = sn at *
  obtain ⟨ln, hln⟩ : ∃ ln, a.l.length = ln := ⟨_, rfl⟩
  rw [hln] at HB ⊢
  clear hln
  generalize a.k.length = kn at *
  have HAX : axC a (.slice la ln lc) (.slice ka kn kc) = #[.int .i64 a.d, .string (sv a.s), .slice la ln lc, .int .i64 a.n, .slice ka kn kc] := rfl
  rw [HAX]
  go_enter Try.func27, Try.ntmps27
  go_wp2_with fail
  refine (HAL.out _ _).mono ?_
  rintro e w5 ⟨vn, A5, rfl, h1, h2, h3, h4, hb, ho, ho2⟩
  obtain ⟨na, nc, rfl⟩ := texts_len h3
  obtain ⟨rn, hrn⟩ : ∃ rn, rows.length = rn := ⟨_, rfl⟩
  rw [hrn] at h3 h4 ho ho2 ⊢
  have M0 := Lib.hid (Am.start (ac := (axC a (.slice la ln lc) (.slice ka kn kc))) (hc := #[.slice na rn nc, .slice sa sn sc, .slice none 0 0, .bool false]) HB.out.lg h2 h1 hb)
  have TN := Lib.hid (Tx.first (w := w) (w2 := (w.alloc (.cells (axC a (.slice la ln lc) (.slice ka kn kc)) Act7)).alloc (.cells hope0 Hope7)) (cs := #[.slice na rn nc, .slice sa sn sc, .slice none 0 0, .bool false]) (by simp) h3 h4)
  have TS := Lib.hid (Tx.old M0.out HB.out.ts HB.out.tvb)
  have TL := Lib.hid (Tx.old M0.out HB.out.tl HB.out.lvb)
  have CA := Lib.hid (M0.out.cap HB.out.lg)
  clear h1 h2 h3 h4 hb ho ho2 hrn
  have c0 : (w5.alloc (.cells #[.slice na rn nc, .slice sa sn sc, .slice none 0 0, .bool false] Hope7)).cell? ⟨w.heap.size, 0, none⟩ = some (.int .i64 a.d) := M0.out.ba.cell 0
  have c3 : (w5.alloc (.cells #[.slice na rn nc, .slice sa sn sc, .slice none 0 0, .bool false] Hope7)).cell? ⟨w.heap.size, 3, none⟩ = some (.int .i64 a.n) := M0.out.ba.cell 3
  go_wp2_with fail
  clear c0 c3
  refine (lgd_lose M0.out.lg a.n HB.out.nj rfl).mono ?_
  rintro e w6 ⟨rfl, hl, hf⟩
  have M1 := Lib.hid (M0.out.call hl hf)
  have TN1 := Lib.hid (TN.out.call hf)
  have TS1 := Lib.hid (TS.out.call hf)
  have TL1 := Lib.hid (TL.out.call hf)
  clear M0 TN TS TL
  clear hl hf
  go_wp2_with fail
  refine (down_at (lgd_dsk M1.out.lg) false HUP.out).mono ?_
  rintro e w9 ⟨rfl, rfl⟩
  have d1 := M1.out.bh.cell 1
  have f1 := M1.out.bh.frozen 1
  --GG
  have M2 := Lib.hid (M1.out.put CA.out.1 1 (.slice sa sn sc))
  have TN2 := Lib.hid (TN1.out.put 1 (.slice sa sn sc))
  have TS2 := Lib.hid (TS1.out.put 1 (.slice sa sn sc))
  have TL2 := Lib.hid (TL1.out.put 1 (.slice sa sn sc))
  clear M1 TN1 TS1 TL1
  have g0 := M2.out.bh.cell 0
  have g1 := M2.out.bh.cell 1
  have g2 := M2.out.bh.cell 2
  have g3 := M2.out.bh.cell 3
  have r0 := M2.out.br.cell 0
  have q0 := M2.out.br.frozen 0
  have r1 := M2.out.br.cell 1
  have q1 := M2.out.br.frozen 1
  have r2 := M2.out.br.cell 2
  have q2 := M2.out.br.frozen 2
  have r3 := M2.out.br.cell 3
  have q3 := M2.out.br.frozen 3
  go_upto_region 28 with fail
  go_region
  go_wp2_with fail
  have HBK := Lib.hid (Blk.drewn (M2.out.res CA.out.2 (.slice na rn nc) (.slice sa sn sc) (.slice none 0 0) (.bool false)).2.2)
  refine ret_hope (g := w.heap.size + 1) (cs := #[.slice na rn nc, .slice sa sn sc, .slice none 0 0, .bool false]) rfl rfl rfl rfl rfl HBK.out ?_
  exact AfR.up (va := .slice na rn nc) (vx := .slice sa sn sc) (vf := .slice none 0 0) (b := false) M2.out CA.out.2 HIV.out (by have := HB.out.rl; omega) HB.out.rs TS2.out ⟨⟨_, _, _, rfl⟩, ⟨_, _, _, rfl⟩, ⟨_, _, _, rfl⟩, ⟨_, _, _, rfl⟩⟩
set_option maxHeartbeats 8000000 in
theorem aft_arm (a : Ax) (B0 : Bf A r p n s rows k w vs lv kv a) (hm : bits BinOp.and IntKind.i64 a.d 7 = 7) :
    Calls Try.prog 27 #[.pointer (some ⟨r, 0, none⟩), .pointer (some ⟨p, 0, none⟩), .agg (axC a lv kv), vs] w (AfR A r p n w) := by
  have t0 : (bits BinOp.and IntKind.i64 a.d 7 == 0) = false := by rw [hm]; rfl
  have t1 : (bits BinOp.and IntKind.i64 a.d 7 == 1) = false := by rw [hm]; rfl
  have t2 : (bits BinOp.and IntKind.i64 a.d 7 == 2) = false := by rw [hm]; rfl
  have t3 : (bits BinOp.and IntKind.i64 a.d 7 == 3) = false := by rw [hm]; rfl
  have t5 : (bits BinOp.and IntKind.i64 a.d 7 == 5) = false := by rw [hm]; rfl
  have t6 : (bits BinOp.and IntKind.i64 a.d 7 == 6) = false := by rw [hm]; rfl
  have t7 : (bits BinOp.and IntKind.i64 a.d 7 == 7) = true := by rw [hm]; rfl
  clear hm
  have HB := Lib.hid B0
  have HAL := Lib.hid (fun o o' => lgd_all2 ((B0.lg.alloc o).alloc o') (by have := B0.rl; have := B0.nn; omega) (fun t ht => by have := B0.rs t ht; omega))
  have HIV := Lib.hid (arm_iv B0.iv B0.nj B0.kj (by have := B0.kk; omega))
  have HUP := Lib.hid (show (armS s a.n a.k).down = false from (arm_iv B0.iv B0.nj B0.kj (by have := B0.kk; omega)).up)
  obtain ⟨sa, sc, rfl⟩ := texts_len B0.ts
  obtain ⟨la, lc, rfl⟩ := texts_len B0.tl
  obtain ⟨ka, kc, rfl, _⟩ := B0.kl
  clear B0
  generalize (rows.take k).length = sn at *
  obtain ⟨ln, hln⟩ : ∃ ln, a.l.length = ln := ⟨_, rfl⟩
  rw [hln] at HB ⊢
  clear hln
  generalize a.k.length = kn at *
  have HAX : axC a (.slice la ln lc) (.slice ka kn kc) = #[.int .i64 a.d, .string (sv a.s), .slice la ln lc, .int .i64 a.n, .slice ka kn kc] := rfl
  rw [HAX]
  go_enter Try.func27, Try.ntmps27
  go_wp2_with fail
  refine (HAL.out _ _).mono ?_
  rintro e w5 ⟨vn, A5, rfl, h1, h2, h3, h4, hb, ho, ho2⟩
  obtain ⟨na, nc, rfl⟩ := texts_len h3
  obtain ⟨rn, hrn⟩ : ∃ rn, rows.length = rn := ⟨_, rfl⟩
  rw [hrn] at h3 h4 ho ho2 ⊢
  have M0 := Lib.hid (Am.start (ac := (axC a (.slice la ln lc) (.slice ka kn kc))) (hc := #[.slice na rn nc, .slice sa sn sc, .slice none 0 0, .bool false]) HB.out.lg h2 h1 hb)
  have TN := Lib.hid (Tx.first (w := w) (w2 := (w.alloc (.cells (axC a (.slice la ln lc) (.slice ka kn kc)) Act7)).alloc (.cells hope0 Hope7)) (cs := #[.slice na rn nc, .slice sa sn sc, .slice none 0 0, .bool false]) (by simp) h3 h4)
  have TS := Lib.hid (Tx.old M0.out HB.out.ts HB.out.tvb)
  have TL := Lib.hid (Tx.old M0.out HB.out.tl HB.out.lvb)
  have CA := Lib.hid (M0.out.cap HB.out.lg)
  clear h1 h2 h3 h4 hb ho ho2 hrn
  have c0 : (w5.alloc (.cells #[.slice na rn nc, .slice sa sn sc, .slice none 0 0, .bool false] Hope7)).cell? ⟨w.heap.size, 0, none⟩ = some (.int .i64 a.d) := M0.out.ba.cell 0
  have HKV := Lib.hid (Ints.fr HB.out.kl M0.out.fr HB.out.kvb)
  have HKO := Lib.hid (fun b e x => HB.out.kvb b e (M0.out.sub b x))
  have HKL := Lib.hid (show a.k.length ≤ 17592186044416 from by have := HB.out.kk; omega)
  have c3 : (w5.alloc (.cells #[.slice na rn nc, .slice sa sn sc, .slice none 0 0, .bool false] Hope7)).cell? ⟨w.heap.size, 3, none⟩ = some (.int .i64 a.n) := M0.out.ba.cell 3
  have c4 : (w5.alloc (.cells #[.slice na rn nc, .slice sa sn sc, .slice none 0 0, .bool false] Hope7)).cell? ⟨w.heap.size, 4, none⟩ = some (.slice ka kn kc) := M0.out.ba.cell 4
  go_wp2_with fail
  clear c0 c3 c4
  refine (lgd_arm M0.out.lg HB.out.nj HKL.out HB.out.kj HKV.out HKO.out rfl).mono ?_
  rintro e w6 ⟨rfl, hl, hf⟩
  have M1 := Lib.hid (M0.out.call hl hf)
  have TN1 := Lib.hid (TN.out.call hf)
  have TS1 := Lib.hid (TS.out.call hf)
  have TL1 := Lib.hid (TL.out.call hf)
  clear M0 TN TS TL
  clear hl hf
  go_wp2_with fail
  refine (down_at (lgd_dsk M1.out.lg) false HUP.out).mono ?_
  rintro e w9 ⟨rfl, rfl⟩
  have d1 := M1.out.bh.cell 1
  have f1 := M1.out.bh.frozen 1
  have M2 := Lib.hid (M1.out.put CA.out.1 1 (.slice sa sn sc))
  have TN2 := Lib.hid (TN1.out.put 1 (.slice sa sn sc))
  have TS2 := Lib.hid (TS1.out.put 1 (.slice sa sn sc))
  have TL2 := Lib.hid (TL1.out.put 1 (.slice sa sn sc))
  clear M1 TN1 TS1 TL1
  have g0 := M2.out.bh.cell 0
  have g1 := M2.out.bh.cell 1
  have g2 := M2.out.bh.cell 2
  have g3 := M2.out.bh.cell 3
  have r0 := M2.out.br.cell 0
  have q0 := M2.out.br.frozen 0
  have r1 := M2.out.br.cell 1
  have q1 := M2.out.br.frozen 1
  have r2 := M2.out.br.cell 2
  have q2 := M2.out.br.frozen 2
  have r3 := M2.out.br.cell 3
  have q3 := M2.out.br.frozen 3
  go_upto_region 28 with fail
  go_region
  go_wp2_with fail
  have HBK := Lib.hid (Blk.drewn (M2.out.res CA.out.2 (.slice na rn nc) (.slice sa sn sc) (.slice none 0 0) (.bool false)).2.2)
  refine ret_hope (g := w.heap.size + 1) (cs := #[.slice na rn nc, .slice sa sn sc, .slice none 0 0, .bool false]) rfl rfl rfl rfl rfl HBK.out ?_
  exact AfR.up (va := .slice na rn nc) (vx := .slice sa sn sc) (vf := .slice none 0 0) (b := false) M2.out CA.out.2 HIV.out (by have := HB.out.rl; omega) HB.out.rs TS2.out ⟨⟨_, _, _, rfl⟩, ⟨_, _, _, rfl⟩, ⟨_, _, _, rfl⟩, ⟨_, _, _, rfl⟩⟩
set_option maxHeartbeats 8000000 in
theorem aft_flush_ok (a : Ax) (B0 : Bf A r p n s rows k w vs lv kv a) (hm : bits BinOp.and IntKind.i64 a.d 7 = 3) (h0 : fluE s ((2 : Nat) : Int) = 0) :
    Calls Try.prog 27 #[.pointer (some ⟨r, 0, none⟩), .pointer (some ⟨p, 0, none⟩), .agg (axC a lv kv), vs] w (AfR A r p n w) := by
  have t0 : (bits BinOp.and IntKind.i64 a.d 7 == 0) = false := by rw [hm]; rfl
  have t1 : (bits BinOp.and IntKind.i64 a.d 7 == 1) = false := by rw [hm]; rfl
  have t2 : (bits BinOp.and IntKind.i64 a.d 7 == 2) = false := by rw [hm]; rfl
  have t3 : (bits BinOp.and IntKind.i64 a.d 7 == 3) = true := by rw [hm]; rfl
  have t5 : (bits BinOp.and IntKind.i64 a.d 7 == 5) = false := by rw [hm]; rfl
  have t6 : (bits BinOp.and IntKind.i64 a.d 7 == 6) = false := by rw [hm]; rfl
  have t7 : (bits BinOp.and IntKind.i64 a.d 7 == 7) = false := by rw [hm]; rfl
  clear hm
  have HB := Lib.hid B0
  have HAL := Lib.hid (fun o o' => lgd_all2 ((B0.lg.alloc o).alloc o') (by have := B0.rl; have := B0.nn; omega) (fun t ht => by have := B0.rs t ht; omega))
  have HIV := Lib.hid ((wflu_out B0.iv).1 h0)
  have HUP := Lib.hid (show (fluS s ((2 : Nat) : Int)).down = false from ((wflu_out B0.iv).1 h0).up)
  have H0 := Lib.hid h0
  have HRL := Lib.hid (show rows.length ≤ 1000000000 from by have := B0.rl; have := B0.nn; omega)
  have HRS := Lib.hid (show ∀ t ∈ rows, t.length ≤ 1000000000 from fun t ht => by have := B0.rs t ht; omega)
  clear h0
  obtain ⟨sa, sc, rfl⟩ := texts_len B0.ts
  obtain ⟨la, lc, rfl⟩ := texts_len B0.tl
  obtain ⟨ka, kc, rfl, _⟩ := B0.kl
  clear B0
  generalize (rows.take k).length = sn at *
  obtain ⟨ln, hln⟩ : ∃ ln, a.l.length = ln := ⟨_, rfl⟩
  rw [hln] at HB ⊢
  clear hln
  generalize a.k.length = kn at *
  have HAX : axC a (.slice la ln lc) (.slice ka kn kc) = #[.int .i64 a.d, .string (sv a.s), .slice la ln lc, .int .i64 a.n, .slice ka kn kc] := rfl
  rw [HAX]
  go_enter Try.func27, Try.ntmps27
  go_wp2_with fail
  refine (HAL.out _ _).mono ?_
  rintro e w5 ⟨vn, A5, rfl, h1, h2, h3, h4, hb, ho, ho2⟩
  obtain ⟨na, nc, rfl⟩ := texts_len h3
  obtain ⟨rn, hrn⟩ : ∃ rn, rows.length = rn := ⟨_, rfl⟩
  rw [hrn] at h3 h4 ho ho2 ⊢
  have M0 := Lib.hid (Am.start (ac := (axC a (.slice la ln lc) (.slice ka kn kc))) (hc := #[.slice na rn nc, .slice sa sn sc, .slice none 0 0, .bool false]) HB.out.lg h2 h1 hb)
  have TN := Lib.hid (Tx.first (w := w) (w2 := (w.alloc (.cells (axC a (.slice la ln lc) (.slice ka kn kc)) Act7)).alloc (.cells hope0 Hope7)) (cs := #[.slice na rn nc, .slice sa sn sc, .slice none 0 0, .bool false]) (by simp) h3 h4)
  have TS := Lib.hid (Tx.old M0.out HB.out.ts HB.out.tvb)
  have TL := Lib.hid (Tx.old M0.out HB.out.tl HB.out.lvb)
  have CA := Lib.hid (M0.out.cap HB.out.lg)
  clear h1 h2 h3 h4 hb ho ho2 hrn
  have c0 : (w5.alloc (.cells #[.slice na rn nc, .slice sa sn sc, .slice none 0 0, .bool false] Hope7)).cell? ⟨w.heap.size, 0, none⟩ = some (.int .i64 a.d) := M0.out.ba.cell 0
  go_wp2_with fail
  clear c0
  refine (lgd_flush M0.out.lg H0.out rfl).mono ?_
  rintro e w6 ⟨rfl, hl, hf⟩
  have M1 := Lib.hid (M0.out.call hl hf)
  have TN1 := Lib.hid (TN.out.call hf)
  have TS1 := Lib.hid (TS.out.call hf)
  have TL1 := Lib.hid (TL.out.call hf)
  clear M0 TN TS TL
  clear hl hf
  go_wp2_with fail
  refine (lgd_all M1.out.lg HRL.out HRS.out).mono ?_
  rintro e w7 ⟨vxA, BA, rfl, hB, hl, ht, hv, hb⟩
  obtain ⟨xa, xc, rfl⟩ := texts_len ht
  have UA := Lib.hid (Tx.new M1.out ht hv)
  have M2 := Lib.hid (M1.out.all hB hl hb)
  have TN2 := Lib.hid (TN1.out.all hB hb)
  have TS2 := Lib.hid (TS1.out.all hB hb)
  have TL2 := Lib.hid (TL1.out.all hB hb)
  clear M1 TN1 TS1 TL1
  clear hB hl ht hv hb
  go_wp2_with fail
  --GG
  refine (down_at (lgd_dsk M2.out.lg) false HUP.out).mono ?_
  rintro e w9 ⟨rfl, rfl⟩
  have d1 := M2.out.bh.cell 1
  have f1 := M2.out.bh.frozen 1
  have M3 := Lib.hid (M2.out.put CA.out.1 1 (.slice xa rows.length xc))
  have TN3 := Lib.hid (TN2.out.put 1 (.slice xa rows.length xc))
  have TS3 := Lib.hid (TS2.out.put 1 (.slice xa rows.length xc))
  have TL3 := Lib.hid (TL2.out.put 1 (.slice xa rows.length xc))
  have UA3 := Lib.hid (UA.out.put 1 (.slice xa rows.length xc))
  clear M2 TN2 TS2 TL2 UA
  have g0 := M3.out.bh.cell 0
  have g1 := M3.out.bh.cell 1
  have g2 := M3.out.bh.cell 2
  have g3 := M3.out.bh.cell 3
  have r0 := M3.out.br.cell 0
  have q0 := M3.out.br.frozen 0
  have r1 := M3.out.br.cell 1
  have q1 := M3.out.br.frozen 1
  have r2 := M3.out.br.cell 2
  have q2 := M3.out.br.frozen 2
  have r3 := M3.out.br.cell 3
  have q3 := M3.out.br.frozen 3
  go_upto_region 28 with fail
  go_region
  go_wp2_with fail
  have HBK := Lib.hid (Blk.drewn (M3.out.res CA.out.2 (.slice na rn nc) (.slice xa rows.length xc) (.slice none 0 0) (.bool false)).2.2)
  refine ret_hope (g := w.heap.size + 1) (cs := #[.slice na rn nc, .slice xa rows.length xc, .slice none 0 0, .bool false]) rfl rfl rfl rfl rfl HBK.out ?_
  exact AfR.up (va := .slice na rn nc) (vx := .slice xa rows.length xc) (vf := .slice none 0 0) (b := false) M3.out CA.out.2 HIV.out (by have := HB.out.rl; omega) HB.out.rs (by rw [List.take_length]; exact UA3.out) ⟨⟨_, _, _, rfl⟩, ⟨_, _, _, rfl⟩, ⟨_, _, _, rfl⟩, ⟨_, _, _, rfl⟩⟩
set_option maxHeartbeats 8000000 in
theorem aft_flush_up (a : Ax) (B0 : Bf A r p n s rows k w vs lv kv a) (hm : bits BinOp.and IntKind.i64 a.d 7 = 3) {x : Int} (hx : fluE s ((2 : Nat) : Int) = x) (h0 : (x == 0) = false) (hf : Iv (fluS s ((2 : Nat) : Int)) rows k) :
    Calls Try.prog 27 #[.pointer (some ⟨r, 0, none⟩), .pointer (some ⟨p, 0, none⟩), .agg (axC a lv kv), vs] w (AfR A r p n w) := by
  have t0 : (bits BinOp.and IntKind.i64 a.d 7 == 0) = false := by rw [hm]; rfl
  have t1 : (bits BinOp.and IntKind.i64 a.d 7 == 1) = false := by rw [hm]; rfl
  have t2 : (bits BinOp.and IntKind.i64 a.d 7 == 2) = false := by rw [hm]; rfl
  have t3 : (bits BinOp.and IntKind.i64 a.d 7 == 3) = true := by rw [hm]; rfl
  have t5 : (bits BinOp.and IntKind.i64 a.d 7 == 5) = false := by rw [hm]; rfl
  have t6 : (bits BinOp.and IntKind.i64 a.d 7 == 6) = false := by rw [hm]; rfl
  have t7 : (bits BinOp.and IntKind.i64 a.d 7 == 7) = false := by rw [hm]; rfl
  clear hm
  have HB := Lib.hid B0
  have HAL := Lib.hid (fun o o' => lgd_all2 ((B0.lg.alloc o).alloc o') (by have := B0.rl; have := B0.nn; omega) (fun t ht => by have := B0.rs t ht; omega))
  have HX := Lib.hid hx
  have HF := Lib.hid hf
  have HUP := Lib.hid (show (fluS s ((2 : Nat) : Int)).down = false from hf.up)
  clear hf hx
  obtain ⟨sa, sc, rfl⟩ := texts_len B0.ts
  obtain ⟨la, lc, rfl⟩ := texts_len B0.tl
  obtain ⟨ka, kc, rfl, _⟩ := B0.kl
  clear B0
  generalize (rows.take k).length = sn at *
  obtain ⟨ln, hln⟩ : ∃ ln, a.l.length = ln := ⟨_, rfl⟩
  rw [hln] at HB ⊢
  clear hln
  generalize a.k.length = kn at *
  have HAX : axC a (.slice la ln lc) (.slice ka kn kc) = #[.int .i64 a.d, .string (sv a.s), .slice la ln lc, .int .i64 a.n, .slice ka kn kc] := rfl
  rw [HAX]
  go_enter Try.func27, Try.ntmps27
  go_wp2_with fail
  refine (HAL.out _ _).mono ?_
  rintro e w5 ⟨vn, A5, rfl, h1, h2, h3, h4, hb, ho, ho2⟩
  obtain ⟨na, nc, rfl⟩ := texts_len h3
  obtain ⟨rn, hrn⟩ : ∃ rn, rows.length = rn := ⟨_, rfl⟩
  rw [hrn] at h3 h4 ho ho2 ⊢
  have M0 := Lib.hid (Am.start (ac := (axC a (.slice la ln lc) (.slice ka kn kc))) (hc := #[.slice na rn nc, .slice sa sn sc, .slice none 0 0, .bool false]) HB.out.lg h2 h1 hb)
  have TN := Lib.hid (Tx.first (w := w) (w2 := (w.alloc (.cells (axC a (.slice la ln lc) (.slice ka kn kc)) Act7)).alloc (.cells hope0 Hope7)) (cs := #[.slice na rn nc, .slice sa sn sc, .slice none 0 0, .bool false]) (by simp) h3 h4)
  have TS := Lib.hid (Tx.old M0.out HB.out.ts HB.out.tvb)
  have TL := Lib.hid (Tx.old M0.out HB.out.tl HB.out.lvb)
  have CA := Lib.hid (M0.out.cap HB.out.lg)
  clear h1 h2 h3 h4 hb ho ho2 hrn
  have c0 : (w5.alloc (.cells #[.slice na rn nc, .slice sa sn sc, .slice none 0 0, .bool false] Hope7)).cell? ⟨w.heap.size, 0, none⟩ = some (.int .i64 a.d) := M0.out.ba.cell 0
  go_wp2_with fail
  clear c0
  refine (lgd_flush M0.out.lg HX.out rfl).mono ?_
  rintro e w6 ⟨rfl, hl, hf⟩
  have M1 := Lib.hid (M0.out.call hl hf)
  have TN1 := Lib.hid (TN.out.call hf)
  have TS1 := Lib.hid (TS.out.call hf)
  have TL1 := Lib.hid (TL.out.call hf)
  clear M0 TN TS TL
  clear hl hf
  go_wp2_with fail
  refine (down_at (lgd_dsk M1.out.lg) false HUP.out).mono ?_
  rintro e w9 ⟨rfl, rfl⟩
  have d1 := M1.out.bh.cell 1
  have f1 := M1.out.bh.frozen 1
  have M2 := Lib.hid (M1.out.put CA.out.1 1 (.slice sa sn sc))
  have TN2 := Lib.hid (TN1.out.put 1 (.slice sa sn sc))
  have TS2 := Lib.hid (TS1.out.put 1 (.slice sa sn sc))
  have TL2 := Lib.hid (TL1.out.put 1 (.slice sa sn sc))
  clear M1 TN1 TS1 TL1
  have g0 := M2.out.bh.cell 0
  have g1 := M2.out.bh.cell 1
  have g2 := M2.out.bh.cell 2
  have g3 := M2.out.bh.cell 3
  have r0 := M2.out.br.cell 0
  have q0 := M2.out.br.frozen 0
  have r1 := M2.out.br.cell 1
  have q1 := M2.out.br.frozen 1
  have r2 := M2.out.br.cell 2
  have q2 := M2.out.br.frozen 2
  have r3 := M2.out.br.cell 3
  have q3 := M2.out.br.frozen 3
  go_upto_region 28 with fail
  go_region
  go_wp2_with fail
  have HBK := Lib.hid (Blk.drewn (M2.out.res CA.out.2 (.slice na rn nc) (.slice sa sn sc) (.slice none 0 0) (.bool false)).2.2)
  refine ret_hope (g := w.heap.size + 1) (cs := #[.slice na rn nc, .slice sa sn sc, .slice none 0 0, .bool false]) rfl rfl rfl rfl rfl HBK.out ?_
  exact AfR.up (va := .slice na rn nc) (vx := .slice sa sn sc) (vf := .slice none 0 0) (b := false) M2.out CA.out.2 HF.out (by have := HB.out.rl; omega) HB.out.rs TS2.out ⟨⟨_, _, _, rfl⟩, ⟨_, _, _, rfl⟩, ⟨_, _, _, rfl⟩, ⟨_, _, _, rfl⟩⟩
set_option maxHeartbeats 8000000 in
theorem aft_flush_dn (a : Ax) (B0 : Bf A r p n s rows k w vs lv kv a) (hm : bits BinOp.and IntKind.i64 a.d 7 = 3) {x : Int} (hx : fluE s ((2 : Nat) : Int) = x) (h0 : (x == 0) = false) (hf : Fin_ (fluS s ((2 : Nat) : Int)) rows (rows.take k)) :
    Calls Try.prog 27 #[.pointer (some ⟨r, 0, none⟩), .pointer (some ⟨p, 0, none⟩), .agg (axC a lv kv), vs] w (AfR A r p n w) := by
  have t0 : (bits BinOp.and IntKind.i64 a.d 7 == 0) = false := by rw [hm]; rfl
  have t1 : (bits BinOp.and IntKind.i64 a.d 7 == 1) = false := by rw [hm]; rfl
  have t2 : (bits BinOp.and IntKind.i64 a.d 7 == 2) = false := by rw [hm]; rfl
  have t3 : (bits BinOp.and IntKind.i64 a.d 7 == 3) = true := by rw [hm]; rfl
  have t5 : (bits BinOp.and IntKind.i64 a.d 7 == 5) = false := by rw [hm]; rfl
  have t6 : (bits BinOp.and IntKind.i64 a.d 7 == 6) = false := by rw [hm]; rfl
  have t7 : (bits BinOp.and IntKind.i64 a.d 7 == 7) = false := by rw [hm]; rfl
  clear hm
  have HB := Lib.hid B0
  have HAL := Lib.hid (fun o o' => lgd_all2 ((B0.lg.alloc o).alloc o') (by have := B0.rl; have := B0.nn; omega) (fun t ht => by have := B0.rs t ht; omega))
  have HX := Lib.hid hx
  have HF := Lib.hid hf
  have HUP := Lib.hid (show (fluS s ((2 : Nat) : Int)).down = true from hf.dn)
  clear hf hx
  obtain ⟨sa, sc, rfl⟩ := texts_len B0.ts
  obtain ⟨la, lc, rfl⟩ := texts_len B0.tl
  obtain ⟨ka, kc, rfl, _⟩ := B0.kl
  clear B0
  generalize (rows.take k).length = sn at *
  obtain ⟨ln, hln⟩ : ∃ ln, a.l.length = ln := ⟨_, rfl⟩
  rw [hln] at HB ⊢
  clear hln
  generalize a.k.length = kn at *
  have HAX : axC a (.slice la ln lc) (.slice ka kn kc) = #[.int .i64 a.d, .string (sv a.s), .slice la ln lc, .int .i64 a.n, .slice ka kn kc] := rfl
  rw [HAX]
  go_enter Try.func27, Try.ntmps27
  go_wp2_with fail
  refine (HAL.out _ _).mono ?_
  rintro e w5 ⟨vn, A5, rfl, h1, h2, h3, h4, hb, ho, ho2⟩
  obtain ⟨na, nc, rfl⟩ := texts_len h3
  obtain ⟨rn, hrn⟩ : ∃ rn, rows.length = rn := ⟨_, rfl⟩
  rw [hrn] at h3 h4 ho ho2 ⊢
  have M0 := Lib.hid (Am.start (ac := (axC a (.slice la ln lc) (.slice ka kn kc))) (hc := #[.slice na rn nc, .slice sa sn sc, .slice none 0 0, .bool false]) HB.out.lg h2 h1 hb)
  have TN := Lib.hid (Tx.first (w := w) (w2 := (w.alloc (.cells (axC a (.slice la ln lc) (.slice ka kn kc)) Act7)).alloc (.cells hope0 Hope7)) (cs := #[.slice na rn nc, .slice sa sn sc, .slice none 0 0, .bool false]) (by simp) h3 h4)
  have TS := Lib.hid (Tx.old M0.out HB.out.ts HB.out.tvb)
  have TL := Lib.hid (Tx.old M0.out HB.out.tl HB.out.lvb)
  have CA := Lib.hid (M0.out.cap HB.out.lg)
  clear h1 h2 h3 h4 hb ho ho2 hrn
  have c0 : (w5.alloc (.cells #[.slice na rn nc, .slice sa sn sc, .slice none 0 0, .bool false] Hope7)).cell? ⟨w.heap.size, 0, none⟩ = some (.int .i64 a.d) := M0.out.ba.cell 0
  go_wp2_with fail
  clear c0
  refine (lgd_flush M0.out.lg HX.out rfl).mono ?_
  rintro e w6 ⟨rfl, hl, hf⟩
  have M1 := Lib.hid (M0.out.call hl hf)
  have TN1 := Lib.hid (TN.out.call hf)
  have TS1 := Lib.hid (TS.out.call hf)
  have TL1 := Lib.hid (TL.out.call hf)
  clear M0 TN TS TL
  clear hl hf
  go_wp2_with fail
  refine (down_at (lgd_dsk M1.out.lg) true HUP.out).mono ?_
  rintro e w9 ⟨rfl, rfl⟩
  have g0 := M1.out.bh.cell 0
  have g1 := M1.out.bh.cell 1
  have g2 := M1.out.bh.cell 2
  have g3 := M1.out.bh.cell 3
  have r0 := M1.out.br.cell 0
  have q0 := M1.out.br.frozen 0
  have r1 := M1.out.br.cell 1
  have q1 := M1.out.br.frozen 1
  have r2 := M1.out.br.cell 2
  have q2 := M1.out.br.frozen 2
  have r3 := M1.out.br.cell 3
  have q3 := M1.out.br.frozen 3
  go_upto_region 28 with fail
  go_region
  go_wp2_with fail
  have HBK := Lib.hid (Blk.drewn (M1.out.res CA.out.2 (.slice na rn nc) (.slice sa sn sc) (.slice none 0 0) (.bool false)).2.2)
  refine ret_hope (g := w.heap.size + 1) (cs := #[.slice na rn nc, .slice sa sn sc, .slice none 0 0, .bool false]) rfl rfl rfl rfl rfl HBK.out ?_
  exact AfR.dn (va := .slice na rn nc) (vx := .slice sa sn sc) (vf := .slice none 0 0) (b := false) M1.out.ad CA.out.2 HF.out (by have := HB.out.rl; have := HB.out.nn; omega) (fun t ht => by have := HB.out.rs t ht; omega) TN1.out TS1.out (fun e => by cases e) ⟨⟨_, _, _, rfl⟩, ⟨_, _, _, rfl⟩, ⟨_, _, _, rfl⟩, ⟨_, _, _, rfl⟩⟩
set_option maxHeartbeats 8000000 in
theorem aft_rew_ok (a : Ax) (B0 : Bf A r p n s rows k w vs lv kv a) (hm : bits BinOp.and IntKind.i64 a.d 7 = 5) (h0 : wrewE s 2 a.l = 0) :
    Calls Try.prog 27 #[.pointer (some ⟨r, 0, none⟩), .pointer (some ⟨p, 0, none⟩), .agg (axC a lv kv), vs] w (AfR A r p n w) := by
  have t0 : (bits BinOp.and IntKind.i64 a.d 7 == 0) = false := by rw [hm]; rfl
  have t1 : (bits BinOp.and IntKind.i64 a.d 7 == 1) = false := by rw [hm]; rfl
  have t2 : (bits BinOp.and IntKind.i64 a.d 7 == 2) = false := by rw [hm]; rfl
  have t3 : (bits BinOp.and IntKind.i64 a.d 7 == 3) = false := by rw [hm]; rfl
  have t5 : (bits BinOp.and IntKind.i64 a.d 7 == 5) = true := by rw [hm]; rfl
  have t6 : (bits BinOp.and IntKind.i64 a.d 7 == 6) = false := by rw [hm]; rfl
  have t7 : (bits BinOp.and IntKind.i64 a.d 7 == 7) = false := by rw [hm]; rfl
  clear hm
  have HB := Lib.hid B0
  have HAL := Lib.hid (fun o o' => lgd_all2 ((B0.lg.alloc o).alloc o') (by have := B0.rl; have := B0.nn; omega) (fun t ht => by have := B0.rs t ht; omega))
  have HRZ := Lib.hid (show (recs a.l).length ≤ 100000000 from by have := recs_le12 B0.sL; have := B0.ll; omega)
  have HLL := Lib.hid (show a.l.length ≤ 100000 from by have := B0.ll; omega)
  have HIV := Lib.hid ((rew_out B0.iv (small_of B0.sL)).1 h0)
  have HUP := Lib.hid (show (wrewS s 2 a.l).down = false from ((rew_out B0.iv (small_of B0.sL)).1 h0).up)
  have H0 := Lib.hid h0
  have HRR := Lib.hid (show wrewR s 2 rows a.l = a.l from by unfold wrewR; rw [if_pos h0])
  have HAL2 := Lib.hid (show a.l.length ≤ 1000000000 ∧ ∀ t ∈ a.l, t.length ≤ 1000000000 from ⟨by have := B0.ll; omega, fun t ht => by have := B0.sL t ht; omega⟩)
  clear h0
  obtain ⟨sa, sc, rfl⟩ := texts_len B0.ts
  obtain ⟨la, lc, rfl⟩ := texts_len B0.tl
  obtain ⟨ka, kc, rfl, _⟩ := B0.kl
  clear B0
  generalize (rows.take k).length = sn at *
  obtain ⟨ln, hln⟩ : ∃ ln, a.l.length = ln := ⟨_, rfl⟩
  rw [hln] at HB ⊢
  clear hln
  generalize a.k.length = kn at *
  have HAX : axC a (.slice la ln lc) (.slice ka kn kc) = #[.int .i64 a.d, .string (sv a.s), .slice la ln lc, .int .i64 a.n, .slice ka kn kc] := rfl
  rw [HAX]
  go_enter Try.func27, Try.ntmps27
  go_wp2_with fail
  refine (HAL.out _ _).mono ?_
  rintro e w5 ⟨vn, A5, rfl, h1, h2, h3, h4, hb, ho, ho2⟩
  obtain ⟨na, nc, rfl⟩ := texts_len h3
  obtain ⟨rn, hrn⟩ : ∃ rn, rows.length = rn := ⟨_, rfl⟩
  rw [hrn] at h3 h4 ho ho2 ⊢
  have M0 := Lib.hid (Am.start (ac := (axC a (.slice la ln lc) (.slice ka kn kc))) (hc := #[.slice na rn nc, .slice sa sn sc, .slice none 0 0, .bool false]) HB.out.lg h2 h1 hb)
  have TN := Lib.hid (Tx.first (w := w) (w2 := (w.alloc (.cells (axC a (.slice la ln lc) (.slice ka kn kc)) Act7)).alloc (.cells hope0 Hope7)) (cs := #[.slice na rn nc, .slice sa sn sc, .slice none 0 0, .bool false]) (by simp) h3 h4)
  have TS := Lib.hid (Tx.old M0.out HB.out.ts HB.out.tvb)
  have TL := Lib.hid (Tx.old M0.out HB.out.tl HB.out.lvb)
  have CA := Lib.hid (M0.out.cap HB.out.lg)
  clear h1 h2 h3 h4 hb ho ho2 hrn
  have c0 : (w5.alloc (.cells #[.slice na rn nc, .slice sa sn sc, .slice none 0 0, .bool false] Hope7)).cell? ⟨w.heap.size, 0, none⟩ = some (.int .i64 a.d) := M0.out.ba.cell 0
  have HTX := Lib.hid (show ∀ b, vblock (.slice la ln lc) = some b → ¬ _ from fun b e => (TL.out.2 b e).1)
  have c2 : (w5.alloc (.cells #[.slice na rn nc, .slice sa sn sc, .slice none 0 0, .bool false] Hope7)).cell? ⟨w.heap.size, 2, none⟩ = some (.slice la ln lc) := M0.out.ba.cell 2
  go_wp2_with fail
  clear c0 c2
  refine (lgd_rewrite M0.out.lg (by decide) TL.out.1 HTX.out HLL.out HRZ.out H0.out rfl HRR.out).mono ?_
  rintro e w6 ⟨rfl, hl, hf⟩
  have M1 := Lib.hid (M0.out.call hl hf)
  have TN1 := Lib.hid (TN.out.call hf)
  have TS1 := Lib.hid (TS.out.call hf)
  have TL1 := Lib.hid (TL.out.call hf)
  clear M0 TN TS TL
  clear hl hf
  have c2 := M1.out.ba.cell 2
  have c2 : w6.cell? ⟨w.heap.size, 2, none⟩ = some (.slice la ln lc) := c2
  have d2 := M1.out.bh.cell 2
  have f2 := M1.out.bh.frozen 2
  have d3 := M1.out.bh.cell 3
  have f3 := M1.out.bh.frozen 3
  go_wp2_with fail
  clear c2 d2 f2 d3 f3
  have M2 := Lib.hid (M1.out.put CA.out.1 2 (.slice la ln lc))
  have TN2 := Lib.hid (TN1.out.put 2 (.slice la ln lc))
  have TS2 := Lib.hid (TS1.out.put 2 (.slice la ln lc))
  have TL2 := Lib.hid (TL1.out.put 2 (.slice la ln lc))
  clear M1 TN1 TS1 TL1
  have M3 := Lib.hid (M2.out.put CA.out.1 3 (.bool false))
  have TN3 := Lib.hid (TN2.out.put 3 (.bool false))
  have TS3 := Lib.hid (TS2.out.put 3 (.bool false))
  have TL3 := Lib.hid (TL2.out.put 3 (.bool false))
  clear M2 TN2 TS2 TL2
  refine (lgd_all M3.out.lg HAL2.out.1 HAL2.out.2).mono ?_
  rintro e w7 ⟨vxA, BA, rfl, hB, hl, ht, hv, hb⟩
  obtain ⟨xa, xc, rfl⟩ := texts_len ht
  have UA := Lib.hid (Tx.new M3.out ht hv)
  have M4 := Lib.hid (M3.out.all hB hl hb)
  have TN4 := Lib.hid (TN3.out.all hB hb)
  have TS4 := Lib.hid (TS3.out.all hB hb)
  have TL4 := Lib.hid (TL3.out.all hB hb)
  clear M3 TN3 TS3 TL3
  clear hB hl ht hv hb
  go_wp2_with fail
  refine (lgd_all M4.out.lg HAL2.out.1 HAL2.out.2).mono ?_
  rintro e w8 ⟨vxB, BB, rfl, hB, hl, ht, hv, hb⟩
  obtain ⟨ya, yc, rfl⟩ := texts_len ht
  have UB := Lib.hid (Tx.new M4.out ht hv)
  have M5 := Lib.hid (M4.out.all hB hl hb)
  have TN5 := Lib.hid (TN4.out.all hB hb)
  have TS5 := Lib.hid (TS4.out.all hB hb)
  have TL5 := Lib.hid (TL4.out.all hB hb)
  have UA5 := Lib.hid (UA.out.all hB hb)
  clear M4 TN4 TS4 TL4 UA
  clear hB hl ht hv hb
  have d0 := M5.out.bh.cell 0
  have f0 := M5.out.bh.frozen 0
  go_wp2_with fail
  clear d0 f0
  have M6 := Lib.hid (M5.out.put CA.out.1 0 (.slice ya a.l.length yc))
  have TN6 := Lib.hid (TN5.out.put 0 (.slice ya a.l.length yc))
  have TS6 := Lib.hid (TS5.out.put 0 (.slice ya a.l.length yc))
  have TL6 := Lib.hid (TL5.out.put 0 (.slice ya a.l.length yc))
  have UA6 := Lib.hid (UA5.out.put 0 (.slice ya a.l.length yc))
  have UB6 := Lib.hid (UB.out.put 0 (.slice ya a.l.length yc))
  clear M5 TN5 TS5 TL5 UA5 UB
  refine (down_at (lgd_dsk M6.out.lg) false HUP.out).mono ?_
  rintro e w9 ⟨rfl, rfl⟩
  have d1 := M6.out.bh.cell 1
  have f1 := M6.out.bh.frozen 1
  have M7 := Lib.hid (M6.out.put CA.out.1 1 (.slice xa a.l.length xc))
  have TN7 := Lib.hid (TN6.out.put 1 (.slice xa a.l.length xc))
  have TS7 := Lib.hid (TS6.out.put 1 (.slice xa a.l.length xc))
  have TL7 := Lib.hid (TL6.out.put 1 (.slice xa a.l.length xc))
  have UA7 := Lib.hid (UA6.out.put 1 (.slice xa a.l.length xc))
  have UB7 := Lib.hid (UB6.out.put 1 (.slice xa a.l.length xc))
  clear M6 TN6 TS6 TL6 UA6 UB6
  have g0 := M7.out.bh.cell 0
  have g1 := M7.out.bh.cell 1
  have g2 := M7.out.bh.cell 2
  have g3 := M7.out.bh.cell 3
  have r0 := M7.out.br.cell 0
  have q0 := M7.out.br.frozen 0
  have r1 := M7.out.br.cell 1
  have q1 := M7.out.br.frozen 1
  have r2 := M7.out.br.cell 2
  have q2 := M7.out.br.frozen 2
  have r3 := M7.out.br.cell 3
  have q3 := M7.out.br.frozen 3
  go_upto_region 28 with fail
  go_region
  go_wp2_with fail
  have HBK := Lib.hid (Blk.drewn (M7.out.res CA.out.2 (.slice ya a.l.length yc) (.slice xa a.l.length xc) (.slice la ln lc) (.bool false)).2.2)
  refine ret_hope (g := w.heap.size + 1) (cs := #[.slice ya a.l.length yc, .slice xa a.l.length xc, .slice la ln lc, .bool false]) rfl rfl rfl rfl rfl HBK.out ?_
  exact AfR.up (va := .slice ya a.l.length yc) (vx := .slice xa a.l.length xc) (vf := .slice la ln lc) (b := false) M7.out CA.out.2 HIV.out (by have := HB.out.ll; have := HB.out.n12; omega) HB.out.sL (by rw [List.take_length]; exact UA7.out) ⟨⟨_, _, _, rfl⟩, ⟨_, _, _, rfl⟩, ⟨_, _, _, rfl⟩, ⟨_, _, _, rfl⟩⟩
set_option maxHeartbeats 8000000 in
theorem aft_rew_up (a : Ax) (B0 : Bf A r p n s rows k w vs lv kv a) (hm : bits BinOp.and IntKind.i64 a.d 7 = 5) {x : Int} (hx : wrewE s 2 a.l = x) (h0 : (x == 0) = false) (hf : Iv (wrewS s 2 a.l) rows k) :
    Calls Try.prog 27 #[.pointer (some ⟨r, 0, none⟩), .pointer (some ⟨p, 0, none⟩), .agg (axC a lv kv), vs] w (AfR A r p n w) := by
  have t0 : (bits BinOp.and IntKind.i64 a.d 7 == 0) = false := by rw [hm]; rfl
  have t1 : (bits BinOp.and IntKind.i64 a.d 7 == 1) = false := by rw [hm]; rfl
  have t2 : (bits BinOp.and IntKind.i64 a.d 7 == 2) = false := by rw [hm]; rfl
  have t3 : (bits BinOp.and IntKind.i64 a.d 7 == 3) = false := by rw [hm]; rfl
  have t5 : (bits BinOp.and IntKind.i64 a.d 7 == 5) = true := by rw [hm]; rfl
  have t6 : (bits BinOp.and IntKind.i64 a.d 7 == 6) = false := by rw [hm]; rfl
  have t7 : (bits BinOp.and IntKind.i64 a.d 7 == 7) = false := by rw [hm]; rfl
  clear hm
  have HB := Lib.hid B0
  have HAL := Lib.hid (fun o o' => lgd_all2 ((B0.lg.alloc o).alloc o') (by have := B0.rl; have := B0.nn; omega) (fun t ht => by have := B0.rs t ht; omega))
  have HRZ := Lib.hid (show (recs a.l).length ≤ 100000000 from by have := recs_le12 B0.sL; have := B0.ll; omega)
  have HLL := Lib.hid (show a.l.length ≤ 100000 from by have := B0.ll; omega)
  have HX := Lib.hid hx
  have HF := Lib.hid hf
  have HUP := Lib.hid (show (wrewS s 2 a.l).down = false from hf.up)
  have HRR := Lib.hid (show wrewR s 2 rows a.l = rows from by unfold wrewR; rw [hx, if_neg (by simpa using h0)])
  clear hf hx
  obtain ⟨sa, sc, rfl⟩ := texts_len B0.ts
  obtain ⟨la, lc, rfl⟩ := texts_len B0.tl
  obtain ⟨ka, kc, rfl, _⟩ := B0.kl
  clear B0
  generalize (rows.take k).length = sn at *
  obtain ⟨ln, hln⟩ : ∃ ln, a.l.length = ln := ⟨_, rfl⟩
  rw [hln] at HB ⊢
  clear hln
  generalize a.k.length = kn at *
  have HAX : axC a (.slice la ln lc) (.slice ka kn kc) = #[.int .i64 a.d, .string (sv a.s), .slice la ln lc, .int .i64 a.n, .slice ka kn kc] := rfl
  rw [HAX]
  go_enter Try.func27, Try.ntmps27
  go_wp2_with fail
  refine (HAL.out _ _).mono ?_
  rintro e w5 ⟨vn, A5, rfl, h1, h2, h3, h4, hb, ho, ho2⟩
  obtain ⟨na, nc, rfl⟩ := texts_len h3
  obtain ⟨rn, hrn⟩ : ∃ rn, rows.length = rn := ⟨_, rfl⟩
  rw [hrn] at h3 h4 ho ho2 ⊢
  have M0 := Lib.hid (Am.start (ac := (axC a (.slice la ln lc) (.slice ka kn kc))) (hc := #[.slice na rn nc, .slice sa sn sc, .slice none 0 0, .bool false]) HB.out.lg h2 h1 hb)
  have TN := Lib.hid (Tx.first (w := w) (w2 := (w.alloc (.cells (axC a (.slice la ln lc) (.slice ka kn kc)) Act7)).alloc (.cells hope0 Hope7)) (cs := #[.slice na rn nc, .slice sa sn sc, .slice none 0 0, .bool false]) (by simp) h3 h4)
  have TS := Lib.hid (Tx.old M0.out HB.out.ts HB.out.tvb)
  have TL := Lib.hid (Tx.old M0.out HB.out.tl HB.out.lvb)
  have CA := Lib.hid (M0.out.cap HB.out.lg)
  clear h1 h2 h3 h4 hb ho ho2 hrn
  have c0 : (w5.alloc (.cells #[.slice na rn nc, .slice sa sn sc, .slice none 0 0, .bool false] Hope7)).cell? ⟨w.heap.size, 0, none⟩ = some (.int .i64 a.d) := M0.out.ba.cell 0
  have HTX := Lib.hid (show ∀ b, vblock (.slice la ln lc) = some b → ¬ _ from fun b e => (TL.out.2 b e).1)
  have c2 : (w5.alloc (.cells #[.slice na rn nc, .slice sa sn sc, .slice none 0 0, .bool false] Hope7)).cell? ⟨w.heap.size, 2, none⟩ = some (.slice la ln lc) := M0.out.ba.cell 2
  go_wp2_with fail
  clear c0 c2
  refine (lgd_rewrite M0.out.lg (by decide) TL.out.1 HTX.out HLL.out HRZ.out HX.out rfl HRR.out).mono ?_
  rintro e w6 ⟨rfl, hl, hf⟩
  have M1 := Lib.hid (M0.out.call hl hf)
  have TN1 := Lib.hid (TN.out.call hf)
  have TS1 := Lib.hid (TS.out.call hf)
  have TL1 := Lib.hid (TL.out.call hf)
  clear M0 TN TS TL
  clear hl hf
  have c2 := M1.out.ba.cell 2
  have c2 : w6.cell? ⟨w.heap.size, 2, none⟩ = some (.slice la ln lc) := c2
  have d2 := M1.out.bh.cell 2
  have f2 := M1.out.bh.frozen 2
  have d3 := M1.out.bh.cell 3
  have f3 := M1.out.bh.frozen 3
  go_wp2_with fail
  clear c2 d2 f2 d3 f3
  have M2 := Lib.hid (M1.out.put CA.out.1 2 (.slice la ln lc))
  have TN2 := Lib.hid (TN1.out.put 2 (.slice la ln lc))
  have TS2 := Lib.hid (TS1.out.put 2 (.slice la ln lc))
  have TL2 := Lib.hid (TL1.out.put 2 (.slice la ln lc))
  clear M1 TN1 TS1 TL1
  have M3 := Lib.hid (M2.out.put CA.out.1 3 (.bool (x == 9)))
  have TN3 := Lib.hid (TN2.out.put 3 (.bool (x == 9)))
  have TS3 := Lib.hid (TS2.out.put 3 (.bool (x == 9)))
  have TL3 := Lib.hid (TL2.out.put 3 (.bool (x == 9)))
  clear M2 TN2 TS2 TL2
  refine (down_at (lgd_dsk M3.out.lg) false HUP.out).mono ?_
  rintro e w9 ⟨rfl, rfl⟩
  have d1 := M3.out.bh.cell 1
  have f1 := M3.out.bh.frozen 1
  have M4 := Lib.hid (M3.out.put CA.out.1 1 (.slice sa sn sc))
  have TN4 := Lib.hid (TN3.out.put 1 (.slice sa sn sc))
  have TS4 := Lib.hid (TS3.out.put 1 (.slice sa sn sc))
  have TL4 := Lib.hid (TL3.out.put 1 (.slice sa sn sc))
  clear M3 TN3 TS3 TL3
  have g0 := M4.out.bh.cell 0
  have g1 := M4.out.bh.cell 1
  have g2 := M4.out.bh.cell 2
  have g3 := M4.out.bh.cell 3
  have r0 := M4.out.br.cell 0
  have q0 := M4.out.br.frozen 0
  have r1 := M4.out.br.cell 1
  have q1 := M4.out.br.frozen 1
  have r2 := M4.out.br.cell 2
  have q2 := M4.out.br.frozen 2
  have r3 := M4.out.br.cell 3
  have q3 := M4.out.br.frozen 3
  go_upto_region 28 with fail
  go_region
  go_wp2_with fail
  have HBK := Lib.hid (Blk.drewn (M4.out.res CA.out.2 (.slice na rn nc) (.slice sa sn sc) (.slice la ln lc) (.bool (x == 9))).2.2)
  refine ret_hope (g := w.heap.size + 1) (cs := #[.slice na rn nc, .slice sa sn sc, .slice la ln lc, .bool (x == 9)]) rfl rfl rfl rfl rfl HBK.out ?_
  exact AfR.up (va := .slice na rn nc) (vx := .slice sa sn sc) (vf := .slice la ln lc) (b := (x == 9)) M4.out CA.out.2 HF.out (by have := HB.out.rl; omega) HB.out.rs TS4.out ⟨⟨_, _, _, rfl⟩, ⟨_, _, _, rfl⟩, ⟨_, _, _, rfl⟩, ⟨_, _, _, rfl⟩⟩
set_option maxHeartbeats 8000000 in
theorem aft_rew_dn (a : Ax) (B0 : Bf A r p n s rows k w vs lv kv a) (hm : bits BinOp.and IntKind.i64 a.d 7 = 5) {x : Int} (hx : wrewE s 2 a.l = x) (h0 : (x == 0) = false) (hf : Fin_ (wrewS s 2 a.l) rows (rows.take k)) :
    Calls Try.prog 27 #[.pointer (some ⟨r, 0, none⟩), .pointer (some ⟨p, 0, none⟩), .agg (axC a lv kv), vs] w (AfR A r p n w) := by
  have t0 : (bits BinOp.and IntKind.i64 a.d 7 == 0) = false := by rw [hm]; rfl
  have t1 : (bits BinOp.and IntKind.i64 a.d 7 == 1) = false := by rw [hm]; rfl
  have t2 : (bits BinOp.and IntKind.i64 a.d 7 == 2) = false := by rw [hm]; rfl
  have t3 : (bits BinOp.and IntKind.i64 a.d 7 == 3) = false := by rw [hm]; rfl
  have t5 : (bits BinOp.and IntKind.i64 a.d 7 == 5) = true := by rw [hm]; rfl
  have t6 : (bits BinOp.and IntKind.i64 a.d 7 == 6) = false := by rw [hm]; rfl
  have t7 : (bits BinOp.and IntKind.i64 a.d 7 == 7) = false := by rw [hm]; rfl
  clear hm
  have HB := Lib.hid B0
  have HAL := Lib.hid (fun o o' => lgd_all2 ((B0.lg.alloc o).alloc o') (by have := B0.rl; have := B0.nn; omega) (fun t ht => by have := B0.rs t ht; omega))
  have HRZ := Lib.hid (show (recs a.l).length ≤ 100000000 from by have := recs_le12 B0.sL; have := B0.ll; omega)
  have HLL := Lib.hid (show a.l.length ≤ 100000 from by have := B0.ll; omega)
  have HX := Lib.hid hx
  have HF := Lib.hid hf
  have HUP := Lib.hid (show (wrewS s 2 a.l).down = true from hf.dn)
  have HRR := Lib.hid (show wrewR s 2 rows a.l = rows from by unfold wrewR; rw [hx, if_neg (by simpa using h0)])
  clear hf hx
  obtain ⟨sa, sc, rfl⟩ := texts_len B0.ts
  obtain ⟨la, lc, rfl⟩ := texts_len B0.tl
  obtain ⟨ka, kc, rfl, _⟩ := B0.kl
  clear B0
  generalize (rows.take k).length = sn at *
  obtain ⟨ln, hln⟩ : ∃ ln, a.l.length = ln := ⟨_, rfl⟩
  rw [hln] at HB ⊢
  clear hln
  generalize a.k.length = kn at *
  have HAX : axC a (.slice la ln lc) (.slice ka kn kc) = #[.int .i64 a.d, .string (sv a.s), .slice la ln lc, .int .i64 a.n, .slice ka kn kc] := rfl
  rw [HAX]
  go_enter Try.func27, Try.ntmps27
  go_wp2_with fail
  refine (HAL.out _ _).mono ?_
  rintro e w5 ⟨vn, A5, rfl, h1, h2, h3, h4, hb, ho, ho2⟩
  obtain ⟨na, nc, rfl⟩ := texts_len h3
  obtain ⟨rn, hrn⟩ : ∃ rn, rows.length = rn := ⟨_, rfl⟩
  rw [hrn] at h3 h4 ho ho2 ⊢
  have M0 := Lib.hid (Am.start (ac := (axC a (.slice la ln lc) (.slice ka kn kc))) (hc := #[.slice na rn nc, .slice sa sn sc, .slice none 0 0, .bool false]) HB.out.lg h2 h1 hb)
  have TN := Lib.hid (Tx.first (w := w) (w2 := (w.alloc (.cells (axC a (.slice la ln lc) (.slice ka kn kc)) Act7)).alloc (.cells hope0 Hope7)) (cs := #[.slice na rn nc, .slice sa sn sc, .slice none 0 0, .bool false]) (by simp) h3 h4)
  have TS := Lib.hid (Tx.old M0.out HB.out.ts HB.out.tvb)
  have TL := Lib.hid (Tx.old M0.out HB.out.tl HB.out.lvb)
  have CA := Lib.hid (M0.out.cap HB.out.lg)
  clear h1 h2 h3 h4 hb ho ho2 hrn
  have c0 : (w5.alloc (.cells #[.slice na rn nc, .slice sa sn sc, .slice none 0 0, .bool false] Hope7)).cell? ⟨w.heap.size, 0, none⟩ = some (.int .i64 a.d) := M0.out.ba.cell 0
  have HTX := Lib.hid (show ∀ b, vblock (.slice la ln lc) = some b → ¬ _ from fun b e => (TL.out.2 b e).1)
  have c2 : (w5.alloc (.cells #[.slice na rn nc, .slice sa sn sc, .slice none 0 0, .bool false] Hope7)).cell? ⟨w.heap.size, 2, none⟩ = some (.slice la ln lc) := M0.out.ba.cell 2
  go_wp2_with fail
  clear c0 c2
  refine (lgd_rewrite M0.out.lg (by decide) TL.out.1 HTX.out HLL.out HRZ.out HX.out rfl HRR.out).mono ?_
  rintro e w6 ⟨rfl, hl, hf⟩
  have M1 := Lib.hid (M0.out.call hl hf)
  have TN1 := Lib.hid (TN.out.call hf)
  have TS1 := Lib.hid (TS.out.call hf)
  have TL1 := Lib.hid (TL.out.call hf)
  clear M0 TN TS TL
  clear hl hf
  have c2 := M1.out.ba.cell 2
  have c2 : w6.cell? ⟨w.heap.size, 2, none⟩ = some (.slice la ln lc) := c2
  have d2 := M1.out.bh.cell 2
  have f2 := M1.out.bh.frozen 2
  have d3 := M1.out.bh.cell 3
  have f3 := M1.out.bh.frozen 3
  go_wp2_with fail
  clear c2 d2 f2 d3 f3
  have M2 := Lib.hid (M1.out.put CA.out.1 2 (.slice la ln lc))
  have TN2 := Lib.hid (TN1.out.put 2 (.slice la ln lc))
  have TS2 := Lib.hid (TS1.out.put 2 (.slice la ln lc))
  have TL2 := Lib.hid (TL1.out.put 2 (.slice la ln lc))
  clear M1 TN1 TS1 TL1
  have M3 := Lib.hid (M2.out.put CA.out.1 3 (.bool (x == 9)))
  have TN3 := Lib.hid (TN2.out.put 3 (.bool (x == 9)))
  have TS3 := Lib.hid (TS2.out.put 3 (.bool (x == 9)))
  have TL3 := Lib.hid (TL2.out.put 3 (.bool (x == 9)))
  clear M2 TN2 TS2 TL2
  refine (down_at (lgd_dsk M3.out.lg) true HUP.out).mono ?_
  rintro e w9 ⟨rfl, rfl⟩
  have g0 := M3.out.bh.cell 0
  have g1 := M3.out.bh.cell 1
  have g2 := M3.out.bh.cell 2
  have g3 := M3.out.bh.cell 3
  have r0 := M3.out.br.cell 0
  have q0 := M3.out.br.frozen 0
  have r1 := M3.out.br.cell 1
  have q1 := M3.out.br.frozen 1
  have r2 := M3.out.br.cell 2
  have q2 := M3.out.br.frozen 2
  have r3 := M3.out.br.cell 3
  have q3 := M3.out.br.frozen 3
  go_upto_region 28 with fail
  go_region
  go_wp2_with fail
  have HBK := Lib.hid (Blk.drewn (M3.out.res CA.out.2 (.slice na rn nc) (.slice sa sn sc) (.slice la ln lc) (.bool (x == 9))).2.2)
  refine ret_hope (g := w.heap.size + 1) (cs := #[.slice na rn nc, .slice sa sn sc, .slice la ln lc, .bool (x == 9)]) rfl rfl rfl rfl rfl HBK.out ?_
  exact AfR.dn (va := .slice na rn nc) (vx := .slice sa sn sc) (vf := .slice la ln lc) (b := (x == 9)) M3.out.ad CA.out.2 HF.out (by have := HB.out.rl; have := HB.out.nn; omega) (fun t ht => by have := HB.out.rs t ht; omega) TN3.out TS3.out (fun e => ⟨_, TL3.out, by have := HB.out.ll; omega⟩) ⟨⟨_, _, _, rfl⟩, ⟨_, _, _, rfl⟩, ⟨_, _, _, rfl⟩, ⟨_, _, _, rfl⟩⟩
set_option maxHeartbeats 8000000 in
theorem aft_app_up0 (a : Ax) (B0 : Bf A r p n s rows k w vs lv kv a) (hm : bits BinOp.and IntKind.i64 a.d 7 = 0) {x : Int} {s' : St} {rows' : List Bs} {k' : Nat} (hx : wappE s 2 a.s = x) (h9 : (x == 9) = false) (hs' : wappS s 2 a.s = s') (hr' : wappR s 2 rows a.s = rows') (hf : Iv s' rows' k') (hn : rows'.length ≤ n) (ht : ∀ t ∈ rows', t.length ≤ 2000) (hk : rows'.take k' = rows.take k) :
    Calls Try.prog 27 #[.pointer (some ⟨r, 0, none⟩), .pointer (some ⟨p, 0, none⟩), .agg (axC a lv kv), vs] w (AfR A r p n w) := by
  have t0 : (bits BinOp.and IntKind.i64 a.d 7 == 0) = true := by rw [hm]; rfl
  have t1 : (bits BinOp.and IntKind.i64 a.d 7 == 1) = false := by rw [hm]; rfl
  have t2 : (bits BinOp.and IntKind.i64 a.d 7 == 2) = false := by rw [hm]; rfl
  have t3 : (bits BinOp.and IntKind.i64 a.d 7 == 3) = false := by rw [hm]; rfl
  have t5 : (bits BinOp.and IntKind.i64 a.d 7 == 5) = false := by rw [hm]; rfl
  have t6 : (bits BinOp.and IntKind.i64 a.d 7 == 6) = false := by rw [hm]; rfl
  have t7 : (bits BinOp.and IntKind.i64 a.d 7 == 7) = false := by rw [hm]; rfl
  clear hm
  have HB := Lib.hid B0
  have HAL := Lib.hid (fun o o' => lgd_all2 ((B0.lg.alloc o).alloc o') (by have := B0.rl; have := B0.nn; omega) (fun t ht => by have := B0.rs t ht; omega))
  have HX := Lib.hid hx
  have HS := Lib.hid hs'
  have HR := Lib.hid hr'
  have HF := Lib.hid hf
  have HN := Lib.hid hn
  have HT := Lib.hid ht
  have HK := Lib.hid hk
  have HUP := Lib.hid (show s'.down = false from hf.up)
  have HAL2 := Lib.hid (show rows'.length ≤ 1000000000 ∧ ∀ t ∈ rows', t.length ≤ 1000000000 from ⟨by have := B0.nn; omega, fun t h => by have := ht t h; omega⟩)
  clear hx hs' hr' hf hn ht hk
  obtain ⟨sa, sc, rfl⟩ := texts_len B0.ts
  obtain ⟨la, lc, rfl⟩ := texts_len B0.tl
  obtain ⟨ka, kc, rfl, _⟩ := B0.kl
  clear B0
  generalize (rows.take k).length = sn at *
  obtain ⟨ln, hln⟩ : ∃ ln, a.l.length = ln := ⟨_, rfl⟩
  rw [hln] at HB ⊢
  clear hln
  generalize a.k.length = kn at *
  have HAX : axC a (.slice la ln lc) (.slice ka kn kc) = #[.int .i64 a.d, .string (sv a.s), .slice la ln lc, .int .i64 a.n, .slice ka kn kc] := rfl
  rw [HAX]
  go_enter Try.func27, Try.ntmps27
  go_wp2_with fail
  refine (HAL.out _ _).mono ?_
  rintro e w5 ⟨vn, A5, rfl, h1, h2, h3, h4, hb, ho, ho2⟩
  obtain ⟨na, nc, rfl⟩ := texts_len h3
  obtain ⟨rn, hrn⟩ : ∃ rn, rows.length = rn := ⟨_, rfl⟩
  rw [hrn] at h3 h4 ho ho2 ⊢
  have M0 := Lib.hid (Am.start (ac := (axC a (.slice la ln lc) (.slice ka kn kc))) (hc := #[.slice na rn nc, .slice sa sn sc, .slice none 0 0, .bool false]) HB.out.lg h2 h1 hb)
  have TN := Lib.hid (Tx.first (w := w) (w2 := (w.alloc (.cells (axC a (.slice la ln lc) (.slice ka kn kc)) Act7)).alloc (.cells hope0 Hope7)) (cs := #[.slice na rn nc, .slice sa sn sc, .slice none 0 0, .bool false]) (by simp) h3 h4)
  have TS := Lib.hid (Tx.old M0.out HB.out.ts HB.out.tvb)
  have TL := Lib.hid (Tx.old M0.out HB.out.tl HB.out.lvb)
  have CA := Lib.hid (M0.out.cap HB.out.lg)
  clear h1 h2 h3 h4 hb ho ho2 hrn
  have c0 : (w5.alloc (.cells #[.slice na rn nc, .slice sa sn sc, .slice none 0 0, .bool false] Hope7)).cell? ⟨w.heap.size, 0, none⟩ = some (.int .i64 a.d) := M0.out.ba.cell 0
  have HLS := Lib.hid (show a.s.length ≤ 100000000 ∧ rows.length ≤ 1000000 from ⟨by have := HB.out.sl; omega, by have := HB.out.rl; have := HB.out.nn; omega⟩)
  have c1 : (w5.alloc (.cells #[.slice na rn nc, .slice sa sn sc, .slice none 0 0, .bool false] Hope7)).cell? ⟨w.heap.size, 1, none⟩ = some (.string (sv a.s)) := M0.out.ba.cell 1
  go_wp2_with fail
  clear c0 c1
  refine (lgd_append M0.out.lg a.s HLS.out.1 HLS.out.2 HX.out HS.out HR.out).mono ?_
  rintro e w6 ⟨rfl, hl, hf⟩
  have M1 := Lib.hid (M0.out.call hl hf)
  have TN1 := Lib.hid (TN.out.call hf)
  have TS1 := Lib.hid (TS.out.call hf)
  have TL1 := Lib.hid (TL.out.call hf)
  clear M0 TN TS TL
  clear hl hf
  go_wp2_with fail
  refine (lgd_all M1.out.lg HAL2.out.1 HAL2.out.2).mono ?_
  rintro e w7 ⟨vxA, BA, rfl, hB, hl, ht, hv, hb⟩
  obtain ⟨xa, xc, rfl⟩ := texts_len ht
  have UA := Lib.hid (Tx.new M1.out ht hv)
  have M2 := Lib.hid (M1.out.all hB hl hb)
  have TN2 := Lib.hid (TN1.out.all hB hb)
  have TS2 := Lib.hid (TS1.out.all hB hb)
  have TL2 := Lib.hid (TL1.out.all hB hb)
  clear M1 TN1 TS1 TL1
  clear hB hl ht hv hb
  have d0 := M2.out.bh.cell 0
  have f0 := M2.out.bh.frozen 0
  go_wp2_with fail
  clear d0 f0
  have M3 := Lib.hid (M2.out.put CA.out.1 0 (.slice xa rows'.length xc))
  have TN3 := Lib.hid (TN2.out.put 0 (.slice xa rows'.length xc))
  have TS3 := Lib.hid (TS2.out.put 0 (.slice xa rows'.length xc))
  have TL3 := Lib.hid (TL2.out.put 0 (.slice xa rows'.length xc))
  have UA3 := Lib.hid (UA.out.put 0 (.slice xa rows'.length xc))
  clear M2 TN2 TS2 TL2 UA
  refine (down_at (lgd_dsk M3.out.lg) false HUP.out).mono ?_
  rintro e w9 ⟨rfl, rfl⟩
  have d1 := M3.out.bh.cell 1
  have f1 := M3.out.bh.frozen 1
  have M4 := Lib.hid (M3.out.put CA.out.1 1 (.slice sa sn sc))
  have TN4 := Lib.hid (TN3.out.put 1 (.slice sa sn sc))
  have TS4 := Lib.hid (TS3.out.put 1 (.slice sa sn sc))
  have TL4 := Lib.hid (TL3.out.put 1 (.slice sa sn sc))
  have UA4 := Lib.hid (UA3.out.put 1 (.slice sa sn sc))
  clear M3 TN3 TS3 TL3 UA3
  have g0 := M4.out.bh.cell 0
  have g1 := M4.out.bh.cell 1
  have g2 := M4.out.bh.cell 2
  have g3 := M4.out.bh.cell 3
  have r0 := M4.out.br.cell 0
  have q0 := M4.out.br.frozen 0
  have r1 := M4.out.br.cell 1
  have q1 := M4.out.br.frozen 1
  have r2 := M4.out.br.cell 2
  have q2 := M4.out.br.frozen 2
  have r3 := M4.out.br.cell 3
  have q3 := M4.out.br.frozen 3
  go_upto_region 28 with fail
  go_region
  go_wp2_with fail
  have HBK := Lib.hid (Blk.drewn (M4.out.res CA.out.2 (.slice xa rows'.length xc) (.slice sa sn sc) (.slice none 0 0) (.bool false)).2.2)
  refine ret_hope (g := w.heap.size + 1) (cs := #[.slice xa rows'.length xc, .slice sa sn sc, .slice none 0 0, .bool false]) rfl rfl rfl rfl rfl HBK.out ?_
  exact AfR.up (va := .slice xa rows'.length xc) (vx := .slice sa sn sc) (vf := .slice none 0 0) (b := false) M4.out CA.out.2 HF.out HN.out HT.out (by rw [HK.out]; exact TS4.out) ⟨⟨_, _, _, rfl⟩, ⟨_, _, _, rfl⟩, ⟨_, _, _, rfl⟩, ⟨_, _, _, rfl⟩⟩
set_option maxHeartbeats 8000000 in
theorem aft_app_up1 (a : Ax) (B0 : Bf A r p n s rows k w vs lv kv a) (hm : bits BinOp.and IntKind.i64 a.d 7 = 1) {x : Int} {s' : St} {rows' : List Bs} {k' : Nat} (hx : wappE s 2 a.s = x) (h9 : (x == 9) = false) (hs' : wappS s 2 a.s = s') (hr' : wappR s 2 rows a.s = rows') (hf : Iv s' rows' k') (hn : rows'.length ≤ n) (ht : ∀ t ∈ rows', t.length ≤ 2000) (hk : rows'.take k' = rows.take k) :
    Calls Try.prog 27 #[.pointer (some ⟨r, 0, none⟩), .pointer (some ⟨p, 0, none⟩), .agg (axC a lv kv), vs] w (AfR A r p n w) := by
  have t0 : (bits BinOp.and IntKind.i64 a.d 7 == 0) = false := by rw [hm]; rfl
  have t1 : (bits BinOp.and IntKind.i64 a.d 7 == 1) = true := by rw [hm]; rfl
  have t2 : (bits BinOp.and IntKind.i64 a.d 7 == 2) = false := by rw [hm]; rfl
  have t3 : (bits BinOp.and IntKind.i64 a.d 7 == 3) = false := by rw [hm]; rfl
  have t5 : (bits BinOp.and IntKind.i64 a.d 7 == 5) = false := by rw [hm]; rfl
  have t6 : (bits BinOp.and IntKind.i64 a.d 7 == 6) = false := by rw [hm]; rfl
  have t7 : (bits BinOp.and IntKind.i64 a.d 7 == 7) = false := by rw [hm]; rfl
  clear hm
  have HB := Lib.hid B0
  have HAL := Lib.hid (fun o o' => lgd_all2 ((B0.lg.alloc o).alloc o') (by have := B0.rl; have := B0.nn; omega) (fun t ht => by have := B0.rs t ht; omega))
  have HX := Lib.hid hx
  have HS := Lib.hid hs'
  have HR := Lib.hid hr'
  have HF := Lib.hid hf
  have HN := Lib.hid hn
  have HT := Lib.hid ht
  have HK := Lib.hid hk
  have HUP := Lib.hid (show s'.down = false from hf.up)
  have HAL2 := Lib.hid (show rows'.length ≤ 1000000000 ∧ ∀ t ∈ rows', t.length ≤ 1000000000 from ⟨by have := B0.nn; omega, fun t h => by have := ht t h; omega⟩)
  clear hx hs' hr' hf hn ht hk
  obtain ⟨sa, sc, rfl⟩ := texts_len B0.ts
  obtain ⟨la, lc, rfl⟩ := texts_len B0.tl
  obtain ⟨ka, kc, rfl, _⟩ := B0.kl
  clear B0
  generalize (rows.take k).length = sn at *
  obtain ⟨ln, hln⟩ : ∃ ln, a.l.length = ln := ⟨_, rfl⟩
  rw [hln] at HB ⊢
  clear hln
  generalize a.k.length = kn at *
  have HAX : axC a (.slice la ln lc) (.slice ka kn kc) = #[.int .i64 a.d, .string (sv a.s), .slice la ln lc, .int .i64 a.n, .slice ka kn kc] := rfl
  rw [HAX]
  go_enter Try.func27, Try.ntmps27
  go_wp2_with fail
  refine (HAL.out _ _).mono ?_
  rintro e w5 ⟨vn, A5, rfl, h1, h2, h3, h4, hb, ho, ho2⟩
  obtain ⟨na, nc, rfl⟩ := texts_len h3
  obtain ⟨rn, hrn⟩ : ∃ rn, rows.length = rn := ⟨_, rfl⟩
  rw [hrn] at h3 h4 ho ho2 ⊢
  have M0 := Lib.hid (Am.start (ac := (axC a (.slice la ln lc) (.slice ka kn kc))) (hc := #[.slice na rn nc, .slice sa sn sc, .slice none 0 0, .bool false]) HB.out.lg h2 h1 hb)
  have TN := Lib.hid (Tx.first (w := w) (w2 := (w.alloc (.cells (axC a (.slice la ln lc) (.slice ka kn kc)) Act7)).alloc (.cells hope0 Hope7)) (cs := #[.slice na rn nc, .slice sa sn sc, .slice none 0 0, .bool false]) (by simp) h3 h4)
  have TS := Lib.hid (Tx.old M0.out HB.out.ts HB.out.tvb)
  have TL := Lib.hid (Tx.old M0.out HB.out.tl HB.out.lvb)
  have CA := Lib.hid (M0.out.cap HB.out.lg)
  clear h1 h2 h3 h4 hb ho ho2 hrn
  have c0 : (w5.alloc (.cells #[.slice na rn nc, .slice sa sn sc, .slice none 0 0, .bool false] Hope7)).cell? ⟨w.heap.size, 0, none⟩ = some (.int .i64 a.d) := M0.out.ba.cell 0
  have HLS := Lib.hid (show a.s.length ≤ 100000000 ∧ rows.length ≤ 1000000 from ⟨by have := HB.out.sl; omega, by have := HB.out.rl; have := HB.out.nn; omega⟩)
  have c1 : (w5.alloc (.cells #[.slice na rn nc, .slice sa sn sc, .slice none 0 0, .bool false] Hope7)).cell? ⟨w.heap.size, 1, none⟩ = some (.string (sv a.s)) := M0.out.ba.cell 1
  go_wp2_with fail
  clear c0 c1
  refine (lgd_append M0.out.lg a.s HLS.out.1 HLS.out.2 HX.out HS.out HR.out).mono ?_
  rintro e w6 ⟨rfl, hl, hf⟩
  have M1 := Lib.hid (M0.out.call hl hf)
  have TN1 := Lib.hid (TN.out.call hf)
  have TS1 := Lib.hid (TS.out.call hf)
  have TL1 := Lib.hid (TL.out.call hf)
  clear M0 TN TS TL
  clear hl hf
  go_wp2_with fail
  refine (lgd_all M1.out.lg HAL2.out.1 HAL2.out.2).mono ?_
  rintro e w7 ⟨vxA, BA, rfl, hB, hl, ht, hv, hb⟩
  obtain ⟨xa, xc, rfl⟩ := texts_len ht
  have UA := Lib.hid (Tx.new M1.out ht hv)
  have M2 := Lib.hid (M1.out.all hB hl hb)
  have TN2 := Lib.hid (TN1.out.all hB hb)
  have TS2 := Lib.hid (TS1.out.all hB hb)
  have TL2 := Lib.hid (TL1.out.all hB hb)
  clear M1 TN1 TS1 TL1
  clear hB hl ht hv hb
  have d0 := M2.out.bh.cell 0
  have f0 := M2.out.bh.frozen 0
  go_wp2_with fail
  clear d0 f0
  have M3 := Lib.hid (M2.out.put CA.out.1 0 (.slice xa rows'.length xc))
  have TN3 := Lib.hid (TN2.out.put 0 (.slice xa rows'.length xc))
  have TS3 := Lib.hid (TS2.out.put 0 (.slice xa rows'.length xc))
  have TL3 := Lib.hid (TL2.out.put 0 (.slice xa rows'.length xc))
  have UA3 := Lib.hid (UA.out.put 0 (.slice xa rows'.length xc))
  clear M2 TN2 TS2 TL2 UA
  refine (down_at (lgd_dsk M3.out.lg) false HUP.out).mono ?_
  rintro e w9 ⟨rfl, rfl⟩
  have d1 := M3.out.bh.cell 1
  have f1 := M3.out.bh.frozen 1
  have M4 := Lib.hid (M3.out.put CA.out.1 1 (.slice sa sn sc))
  have TN4 := Lib.hid (TN3.out.put 1 (.slice sa sn sc))
  have TS4 := Lib.hid (TS3.out.put 1 (.slice sa sn sc))
  have TL4 := Lib.hid (TL3.out.put 1 (.slice sa sn sc))
  have UA4 := Lib.hid (UA3.out.put 1 (.slice sa sn sc))
  clear M3 TN3 TS3 TL3 UA3
  have g0 := M4.out.bh.cell 0
  have g1 := M4.out.bh.cell 1
  have g2 := M4.out.bh.cell 2
  have g3 := M4.out.bh.cell 3
  have r0 := M4.out.br.cell 0
  have q0 := M4.out.br.frozen 0
  have r1 := M4.out.br.cell 1
  have q1 := M4.out.br.frozen 1
  have r2 := M4.out.br.cell 2
  have q2 := M4.out.br.frozen 2
  have r3 := M4.out.br.cell 3
  have q3 := M4.out.br.frozen 3
  go_upto_region 28 with fail
  go_region
  go_wp2_with fail
  have HBK := Lib.hid (Blk.drewn (M4.out.res CA.out.2 (.slice xa rows'.length xc) (.slice sa sn sc) (.slice none 0 0) (.bool false)).2.2)
  refine ret_hope (g := w.heap.size + 1) (cs := #[.slice xa rows'.length xc, .slice sa sn sc, .slice none 0 0, .bool false]) rfl rfl rfl rfl rfl HBK.out ?_
  exact AfR.up (va := .slice xa rows'.length xc) (vx := .slice sa sn sc) (vf := .slice none 0 0) (b := false) M4.out CA.out.2 HF.out HN.out HT.out (by rw [HK.out]; exact TS4.out) ⟨⟨_, _, _, rfl⟩, ⟨_, _, _, rfl⟩, ⟨_, _, _, rfl⟩, ⟨_, _, _, rfl⟩⟩
set_option maxHeartbeats 8000000 in
theorem aft_app_up2 (a : Ax) (B0 : Bf A r p n s rows k w vs lv kv a) (hm : bits BinOp.and IntKind.i64 a.d 7 = 2) {x : Int} {s' : St} {rows' : List Bs} {k' : Nat} (hx : wappE s 2 a.s = x) (h9 : (x == 9) = false) (hs' : wappS s 2 a.s = s') (hr' : wappR s 2 rows a.s = rows') (hf : Iv s' rows' k') (hn : rows'.length ≤ n) (ht : ∀ t ∈ rows', t.length ≤ 2000) (hk : rows'.take k' = rows.take k) :
    Calls Try.prog 27 #[.pointer (some ⟨r, 0, none⟩), .pointer (some ⟨p, 0, none⟩), .agg (axC a lv kv), vs] w (AfR A r p n w) := by
  have t0 : (bits BinOp.and IntKind.i64 a.d 7 == 0) = false := by rw [hm]; rfl
  have t1 : (bits BinOp.and IntKind.i64 a.d 7 == 1) = false := by rw [hm]; rfl
  have t2 : (bits BinOp.and IntKind.i64 a.d 7 == 2) = true := by rw [hm]; rfl
  have t3 : (bits BinOp.and IntKind.i64 a.d 7 == 3) = false := by rw [hm]; rfl
  have t5 : (bits BinOp.and IntKind.i64 a.d 7 == 5) = false := by rw [hm]; rfl
  have t6 : (bits BinOp.and IntKind.i64 a.d 7 == 6) = false := by rw [hm]; rfl
  have t7 : (bits BinOp.and IntKind.i64 a.d 7 == 7) = false := by rw [hm]; rfl
  clear hm
  have HB := Lib.hid B0
  have HAL := Lib.hid (fun o o' => lgd_all2 ((B0.lg.alloc o).alloc o') (by have := B0.rl; have := B0.nn; omega) (fun t ht => by have := B0.rs t ht; omega))
  have HX := Lib.hid hx
  have HS := Lib.hid hs'
  have HR := Lib.hid hr'
  have HF := Lib.hid hf
  have HN := Lib.hid hn
  have HT := Lib.hid ht
  have HK := Lib.hid hk
  have HUP := Lib.hid (show s'.down = false from hf.up)
  have HAL2 := Lib.hid (show rows'.length ≤ 1000000000 ∧ ∀ t ∈ rows', t.length ≤ 1000000000 from ⟨by have := B0.nn; omega, fun t h => by have := ht t h; omega⟩)
  clear hx hs' hr' hf hn ht hk
  obtain ⟨sa, sc, rfl⟩ := texts_len B0.ts
  obtain ⟨la, lc, rfl⟩ := texts_len B0.tl
  obtain ⟨ka, kc, rfl, _⟩ := B0.kl
  clear B0
  generalize (rows.take k).length = sn at *
  obtain ⟨ln, hln⟩ : ∃ ln, a.l.length = ln := ⟨_, rfl⟩
  rw [hln] at HB ⊢
  clear hln
  generalize a.k.length = kn at *
  have HAX : axC a (.slice la ln lc) (.slice ka kn kc) = #[.int .i64 a.d, .string (sv a.s), .slice la ln lc, .int .i64 a.n, .slice ka kn kc] := rfl
  rw [HAX]
  go_enter Try.func27, Try.ntmps27
  go_wp2_with fail
  refine (HAL.out _ _).mono ?_
  rintro e w5 ⟨vn, A5, rfl, h1, h2, h3, h4, hb, ho, ho2⟩
  obtain ⟨na, nc, rfl⟩ := texts_len h3
  obtain ⟨rn, hrn⟩ : ∃ rn, rows.length = rn := ⟨_, rfl⟩
  rw [hrn] at h3 h4 ho ho2 ⊢
  have M0 := Lib.hid (Am.start (ac := (axC a (.slice la ln lc) (.slice ka kn kc))) (hc := #[.slice na rn nc, .slice sa sn sc, .slice none 0 0, .bool false]) HB.out.lg h2 h1 hb)
  have TN := Lib.hid (Tx.first (w := w) (w2 := (w.alloc (.cells (axC a (.slice la ln lc) (.slice ka kn kc)) Act7)).alloc (.cells hope0 Hope7)) (cs := #[.slice na rn nc, .slice sa sn sc, .slice none 0 0, .bool false]) (by simp) h3 h4)
  have TS := Lib.hid (Tx.old M0.out HB.out.ts HB.out.tvb)
  have TL := Lib.hid (Tx.old M0.out HB.out.tl HB.out.lvb)
  have CA := Lib.hid (M0.out.cap HB.out.lg)
  clear h1 h2 h3 h4 hb ho ho2 hrn
  have c0 : (w5.alloc (.cells #[.slice na rn nc, .slice sa sn sc, .slice none 0 0, .bool false] Hope7)).cell? ⟨w.heap.size, 0, none⟩ = some (.int .i64 a.d) := M0.out.ba.cell 0
  have HLS := Lib.hid (show a.s.length ≤ 100000000 ∧ rows.length ≤ 1000000 from ⟨by have := HB.out.sl; omega, by have := HB.out.rl; have := HB.out.nn; omega⟩)
  have c1 : (w5.alloc (.cells #[.slice na rn nc, .slice sa sn sc, .slice none 0 0, .bool false] Hope7)).cell? ⟨w.heap.size, 1, none⟩ = some (.string (sv a.s)) := M0.out.ba.cell 1
  go_wp2_with fail
  clear c0 c1
  refine (lgd_append M0.out.lg a.s HLS.out.1 HLS.out.2 HX.out HS.out HR.out).mono ?_
  rintro e w6 ⟨rfl, hl, hf⟩
  have M1 := Lib.hid (M0.out.call hl hf)
  have TN1 := Lib.hid (TN.out.call hf)
  have TS1 := Lib.hid (TS.out.call hf)
  have TL1 := Lib.hid (TL.out.call hf)
  clear M0 TN TS TL
  clear hl hf
  go_wp2_with fail
  refine (lgd_all M1.out.lg HAL2.out.1 HAL2.out.2).mono ?_
  rintro e w7 ⟨vxA, BA, rfl, hB, hl, ht, hv, hb⟩
  obtain ⟨xa, xc, rfl⟩ := texts_len ht
  have UA := Lib.hid (Tx.new M1.out ht hv)
  have M2 := Lib.hid (M1.out.all hB hl hb)
  have TN2 := Lib.hid (TN1.out.all hB hb)
  have TS2 := Lib.hid (TS1.out.all hB hb)
  have TL2 := Lib.hid (TL1.out.all hB hb)
  clear M1 TN1 TS1 TL1
  clear hB hl ht hv hb
  have d0 := M2.out.bh.cell 0
  have f0 := M2.out.bh.frozen 0
  go_wp2_with fail
  clear d0 f0
  have M3 := Lib.hid (M2.out.put CA.out.1 0 (.slice xa rows'.length xc))
  have TN3 := Lib.hid (TN2.out.put 0 (.slice xa rows'.length xc))
  have TS3 := Lib.hid (TS2.out.put 0 (.slice xa rows'.length xc))
  have TL3 := Lib.hid (TL2.out.put 0 (.slice xa rows'.length xc))
  have UA3 := Lib.hid (UA.out.put 0 (.slice xa rows'.length xc))
  clear M2 TN2 TS2 TL2 UA
  refine (down_at (lgd_dsk M3.out.lg) false HUP.out).mono ?_
  rintro e w9 ⟨rfl, rfl⟩
  have d1 := M3.out.bh.cell 1
  have f1 := M3.out.bh.frozen 1
  have M4 := Lib.hid (M3.out.put CA.out.1 1 (.slice sa sn sc))
  have TN4 := Lib.hid (TN3.out.put 1 (.slice sa sn sc))
  have TS4 := Lib.hid (TS3.out.put 1 (.slice sa sn sc))
  have TL4 := Lib.hid (TL3.out.put 1 (.slice sa sn sc))
  have UA4 := Lib.hid (UA3.out.put 1 (.slice sa sn sc))
  clear M3 TN3 TS3 TL3 UA3
  have g0 := M4.out.bh.cell 0
  have g1 := M4.out.bh.cell 1
  have g2 := M4.out.bh.cell 2
  have g3 := M4.out.bh.cell 3
  have r0 := M4.out.br.cell 0
  have q0 := M4.out.br.frozen 0
  have r1 := M4.out.br.cell 1
  have q1 := M4.out.br.frozen 1
  have r2 := M4.out.br.cell 2
  have q2 := M4.out.br.frozen 2
  have r3 := M4.out.br.cell 3
  have q3 := M4.out.br.frozen 3
  go_upto_region 28 with fail
  go_region
  go_wp2_with fail
  have HBK := Lib.hid (Blk.drewn (M4.out.res CA.out.2 (.slice xa rows'.length xc) (.slice sa sn sc) (.slice none 0 0) (.bool false)).2.2)
  refine ret_hope (g := w.heap.size + 1) (cs := #[.slice xa rows'.length xc, .slice sa sn sc, .slice none 0 0, .bool false]) rfl rfl rfl rfl rfl HBK.out ?_
  exact AfR.up (va := .slice xa rows'.length xc) (vx := .slice sa sn sc) (vf := .slice none 0 0) (b := false) M4.out CA.out.2 HF.out HN.out HT.out (by rw [HK.out]; exact TS4.out) ⟨⟨_, _, _, rfl⟩, ⟨_, _, _, rfl⟩, ⟨_, _, _, rfl⟩, ⟨_, _, _, rfl⟩⟩
set_option maxHeartbeats 8000000 in
theorem aft_app_dn0 (a : Ax) (B0 : Bf A r p n s rows k w vs lv kv a) (hm : bits BinOp.and IntKind.i64 a.d 7 = 0) (hx : wappE s 2 a.s = 9) (hf : Fin_ (wappS s 2 a.s) (rows ++ [a.s]) (rows.take k)) :
    Calls Try.prog 27 #[.pointer (some ⟨r, 0, none⟩), .pointer (some ⟨p, 0, none⟩), .agg (axC a lv kv), vs] w (AfR A r p n w) := by
  have t0 : (bits BinOp.and IntKind.i64 a.d 7 == 0) = true := by rw [hm]; rfl
  have t1 : (bits BinOp.and IntKind.i64 a.d 7 == 1) = false := by rw [hm]; rfl
  have t2 : (bits BinOp.and IntKind.i64 a.d 7 == 2) = false := by rw [hm]; rfl
  have t3 : (bits BinOp.and IntKind.i64 a.d 7 == 3) = false := by rw [hm]; rfl
  have t5 : (bits BinOp.and IntKind.i64 a.d 7 == 5) = false := by rw [hm]; rfl
  have t6 : (bits BinOp.and IntKind.i64 a.d 7 == 6) = false := by rw [hm]; rfl
  have t7 : (bits BinOp.and IntKind.i64 a.d 7 == 7) = false := by rw [hm]; rfl
  clear hm
  have HB := Lib.hid B0
  have HAL := Lib.hid (fun o o' => lgd_all2 ((B0.lg.alloc o).alloc o') (by have := B0.rl; have := B0.nn; omega) (fun t ht => by have := B0.rs t ht; omega))
  have HX := Lib.hid hx
  have HF := Lib.hid hf
  have HUP := Lib.hid (show (wappS s 2 a.s).down = true from hf.dn)
  clear hx hf
  obtain ⟨sa, sc, rfl⟩ := texts_len B0.ts
  obtain ⟨la, lc, rfl⟩ := texts_len B0.tl
  obtain ⟨ka, kc, rfl, _⟩ := B0.kl
  clear B0
  generalize (rows.take k).length = sn at *
  obtain ⟨ln, hln⟩ : ∃ ln, a.l.length = ln := ⟨_, rfl⟩
  rw [hln] at HB ⊢
  clear hln
  generalize a.k.length = kn at *
  have HAX : axC a (.slice la ln lc) (.slice ka kn kc) = #[.int .i64 a.d, .string (sv a.s), .slice la ln lc, .int .i64 a.n, .slice ka kn kc] := rfl
  rw [HAX]
  go_enter Try.func27, Try.ntmps27
  go_wp2_with fail
  refine (HAL.out _ _).mono ?_
  rintro e w5 ⟨vn, A5, rfl, h1, h2, h3, h4, hb, ho, ho2⟩
  obtain ⟨na, nc, rfl⟩ := texts_len h3
  obtain ⟨rn, hrn⟩ : ∃ rn, rows.length = rn := ⟨_, rfl⟩
  rw [hrn] at h3 h4 ho ho2 ⊢
  have M0 := Lib.hid (Am.start (ac := (axC a (.slice la ln lc) (.slice ka kn kc))) (hc := #[.slice na rn nc, .slice sa sn sc, .slice none 0 0, .bool false]) HB.out.lg h2 h1 hb)
  have TN := Lib.hid (Tx.first (w := w) (w2 := (w.alloc (.cells (axC a (.slice la ln lc) (.slice ka kn kc)) Act7)).alloc (.cells hope0 Hope7)) (cs := #[.slice na rn nc, .slice sa sn sc, .slice none 0 0, .bool false]) (by simp) h3 h4)
  have TS := Lib.hid (Tx.old M0.out HB.out.ts HB.out.tvb)
  have TL := Lib.hid (Tx.old M0.out HB.out.tl HB.out.lvb)
  have CA := Lib.hid (M0.out.cap HB.out.lg)
  have HO := Lib.hid ho
  have HO2 := Lib.hid ho2
  have HRN := Lib.hid hrn
  have HBW := Lib.hid hb.size
  clear h1 h2 h3 h4 hb ho ho2 hrn
  have c0 : (w5.alloc (.cells #[.slice na rn nc, .slice sa sn sc, .slice none 0 0, .bool false] Hope7)).cell? ⟨w.heap.size, 0, none⟩ = some (.int .i64 a.d) := M0.out.ba.cell 0
  have HLS := Lib.hid (show a.s.length ≤ 100000000 ∧ rows.length ≤ 1000000 from ⟨by have := HB.out.sl; omega, by have := HB.out.rl; have := HB.out.nn; omega⟩)
  have c1 : (w5.alloc (.cells #[.slice na rn nc, .slice sa sn sc, .slice none 0 0, .bool false] Hope7)).cell? ⟨w.heap.size, 1, none⟩ = some (.string (sv a.s)) := M0.out.ba.cell 1
  go_wp2_with fail
  clear c0 c1
  refine (lgd_append M0.out.lg a.s HLS.out.1 HLS.out.2 HX.out rfl rfl).mono ?_
  rintro e w6 ⟨rfl, hl, hf⟩
  have HAF := Lib.hid hf
  have M1 := Lib.hid (M0.out.call hl hf)
  have TN1 := Lib.hid (TN.out.call hf)
  have TS1 := Lib.hid (TS.out.call hf)
  have TL1 := Lib.hid (TL.out.call hf)
  clear M0 TN TS TL
  clear hl hf
  have c1 : w6.cell? ⟨w.heap.size, 1, none⟩ = some (.string (sv a.s)) := M1.out.ba.cell 1
  have d0 : w6.cell? ⟨w5.heap.size, 0, none⟩ = some (.slice na rn nc) := M1.out.bh.cell 0
  have HOV := Lib.hid (show ∀ b, (Value.slice na rn nc).ownBlock = some b → ¬ (fun b => A5 b ∧ ¬ b = w5.heap.size) b ∧ w.heap.size + 1 < b ∧ b < w5.heap.size from fun b e => ⟨fun x => HO2.out b e x.1, by have := HO.out.lt b e; simp at this; omega, (HO.out.lt b e).2⟩)
  have HO6 := Lib.hid (owns_base (owns_block (HO.out.alloc (.cells #[.slice na rn nc, .slice sa sn sc, .slice none 0 0, .bool false] Hope7)) (fun b e => HAF.out.block b (by have := HOV.out b e; simp; omega) (HOV.out b e).1)))
  have hrl : rn ≤ 1000000 := by rw [← HRN.out]; exact HLS.out.2
  obtain ⟨i0, hi, hz0, hz1, hz2⟩ := info_parts infoStr
  clear HAL HLS
  go_wp2_with (at_builtin; refine wpList_append_src rfl (.tmp 30) (.tmp 33) 38 38 rfl 9 i0 (.string ⟨#[]⟩) 1 16 Try.underlying38 hi hz0 hz1 hz2 rfl (by decide) _ _ _ rfl (HO6.out.alloc _) _ 1 (by decide) [.string (sv a.s)] rfl (Src.ofSlice _ Try.underlying38 ⟨w6.heap.size, 0, none⟩ 1 1 _ rfl ?d1 ?d2) ?d3 ?d4 ?_)
  case d1 =>
    intro j u hj
    rw [add_zero_addr, (Blk.new w6 9 #[.string (sv a.s)]).cell]
    match j, hj with
    | 0, hj => simpa using hj
  case d2 =>
    intro u hu
    rw [List.mem_singleton] at hu
    subst hu
    rfl
  case d3 => unfold maxLen; omega
  case d4 => omega
  intro v' w7 hown hgrow hwh
  clear c1 d0
  have M2 := Lib.hid (M1.out.all (fun b e => e) (M1.out.lg.below (below_alloc w6 (.cells #[.string (sv a.s)] 9))) (below_alloc w6 (.cells #[.string (sv a.s)] 9)))
  have TN2 := Lib.hid (TN1.out.all (fun b e => e) (below_alloc w6 (.cells #[.string (sv a.s)] 9)))
  have TS2 := Lib.hid (TS1.out.all (fun b e => e) (below_alloc w6 (.cells #[.string (sv a.s)] 9)))
  have TL2 := Lib.hid (TL1.out.all (fun b e => e) (below_alloc w6 (.cells #[.string (sv a.s)] 9)))
  clear M1 TN1 TS1 TL1
  have hown' : w7.ownsRow 0 9 1 v' (rows ++ [a.s]).length (Lw.sc rows ++ [.string (sv a.s)]) := by rw [List.length_append, HRN.out]; exact hown
  obtain ⟨D, tk, ow⟩ := M2.out.ad.grow (v := .slice na rn nc) (v' := v') HOV.out hgrow (fun b e => by have := hwh b e; simpa using this) HB.out.lg.new
  have TV := Lib.hid (show Tx (fun b => (A5 b ∧ ¬ b = w5.heap.size) ∧ ¬ v'.ownBlock = some b) w.heap.size w5.heap.size w7 v' (rows ++ [a.s]) from ⟨texts_own (by rw [Lw.sc_append]; exact hown') (by have := HRN.out; simp; omega) (fun t ht => by have h1 := HB.out.rs; have h2 := HB.out.sl; rcases List.mem_append.1 ht with x | x; have := h1 t x; omega; rw [List.mem_singleton] at x; subst x; omega), fun b e => ⟨fun x => x.2 (vblock_own e), ow b (vblock_own e)⟩⟩)
  have TSX := Lib.hid (tk _ _ TS2.out (fun b e e' => by have := Texts.lt HB.out.ts e; have := (HOV.out b e').2.1; omega))
  obtain ⟨v2a, v2c, hvv⟩ := owns_slice hown
  have DD := Lib.hid D
  have HGS := Lib.hid hgrow.size
  clear D tk ow hown hown' hgrow hwh hrl
  subst hvv
  have d0 := DD.out.bh.cell 0
  have f0 := DD.out.bh.frozen 0
  go_wp2_with fail
  clear d0 f0
  have DE := Lib.hid (DD.out.put CA.out.1 0 (.slice v2a (rn + 1) v2c))
  have TW := Lib.hid (TV.out.put 0 (.slice v2a (rn + 1) v2c))
  have TY := Lib.hid (TSX.out.put 0 (.slice v2a (rn + 1) v2c))
  refine (down_at DE.out.dk true HUP.out).mono ?_
  rintro e w9 ⟨rfl, rfl⟩
  have g0 := DE.out.bh.cell 0
  have g1 := DE.out.bh.cell 1
  have g2 := DE.out.bh.cell 2
  have g3 := DE.out.bh.cell 3
  have r0 := DE.out.br.cell 0
  have q0 := DE.out.br.frozen 0
  have r1 := DE.out.br.cell 1
  have q1 := DE.out.br.frozen 1
  have r2 := DE.out.br.cell 2
  have q2 := DE.out.br.frozen 2
  have r3 := DE.out.br.cell 3
  have q3 := DE.out.br.frozen 3
  go_upto_region 28 with fail
  go_region
  go_wp2_with fail
  have HBK := Lib.hid (Blk.drewn (DE.out.res CA.out.2 (.slice v2a (rn + 1) v2c) (.slice sa sn sc) (.slice none 0 0) (.bool false)).2.2)
  refine ret_hope (g := w.heap.size + 1) (cs := #[.slice v2a (rn + 1) v2c, .slice sa sn sc, .slice none 0 0, .bool false]) rfl rfl rfl rfl rfl HBK.out ?_
  exact AfR.dn (va := .slice v2a (rn + 1) v2c) (vx := .slice sa sn sc) (vf := .slice none 0 0) (b := false) DE.out CA.out.2 HF.out (by have := HB.out.rl; have := HB.out.nn; simp; omega) (fun t ht => by have h1 := HB.out.rs; have h2 := HB.out.sl; rcases List.mem_append.1 ht with x | x; have := h1 t x; omega; rw [List.mem_singleton] at x; subst x; omega) TW.out TY.out (fun e => by cases e) ⟨⟨_, _, _, rfl⟩, ⟨_, _, _, rfl⟩, ⟨_, _, _, rfl⟩, ⟨_, _, _, rfl⟩⟩
set_option maxHeartbeats 8000000 in
theorem aft_app_dn1 (a : Ax) (B0 : Bf A r p n s rows k w vs lv kv a) (hm : bits BinOp.and IntKind.i64 a.d 7 = 1) (hx : wappE s 2 a.s = 9) (hf : Fin_ (wappS s 2 a.s) (rows ++ [a.s]) (rows.take k)) :
    Calls Try.prog 27 #[.pointer (some ⟨r, 0, none⟩), .pointer (some ⟨p, 0, none⟩), .agg (axC a lv kv), vs] w (AfR A r p n w) := by
  have t0 : (bits BinOp.and IntKind.i64 a.d 7 == 0) = false := by rw [hm]; rfl
  have t1 : (bits BinOp.and IntKind.i64 a.d 7 == 1) = true := by rw [hm]; rfl
  have t2 : (bits BinOp.and IntKind.i64 a.d 7 == 2) = false := by rw [hm]; rfl
  have t3 : (bits BinOp.and IntKind.i64 a.d 7 == 3) = false := by rw [hm]; rfl
  have t5 : (bits BinOp.and IntKind.i64 a.d 7 == 5) = false := by rw [hm]; rfl
  have t6 : (bits BinOp.and IntKind.i64 a.d 7 == 6) = false := by rw [hm]; rfl
  have t7 : (bits BinOp.and IntKind.i64 a.d 7 == 7) = false := by rw [hm]; rfl
  clear hm
  have HB := Lib.hid B0
  have HAL := Lib.hid (fun o o' => lgd_all2 ((B0.lg.alloc o).alloc o') (by have := B0.rl; have := B0.nn; omega) (fun t ht => by have := B0.rs t ht; omega))
  have HX := Lib.hid hx
  have HF := Lib.hid hf
  have HUP := Lib.hid (show (wappS s 2 a.s).down = true from hf.dn)
  clear hx hf
  obtain ⟨sa, sc, rfl⟩ := texts_len B0.ts
  obtain ⟨la, lc, rfl⟩ := texts_len B0.tl
  obtain ⟨ka, kc, rfl, _⟩ := B0.kl
  clear B0
  generalize (rows.take k).length = sn at *
  obtain ⟨ln, hln⟩ : ∃ ln, a.l.length = ln := ⟨_, rfl⟩
  rw [hln] at HB ⊢
  clear hln
  generalize a.k.length = kn at *
  have HAX : axC a (.slice la ln lc) (.slice ka kn kc) = #[.int .i64 a.d, .string (sv a.s), .slice la ln lc, .int .i64 a.n, .slice ka kn kc] := rfl
  rw [HAX]
  go_enter Try.func27, Try.ntmps27
  go_wp2_with fail
  refine (HAL.out _ _).mono ?_
  rintro e w5 ⟨vn, A5, rfl, h1, h2, h3, h4, hb, ho, ho2⟩
  obtain ⟨na, nc, rfl⟩ := texts_len h3
  obtain ⟨rn, hrn⟩ : ∃ rn, rows.length = rn := ⟨_, rfl⟩
  rw [hrn] at h3 h4 ho ho2 ⊢
  have M0 := Lib.hid (Am.start (ac := (axC a (.slice la ln lc) (.slice ka kn kc))) (hc := #[.slice na rn nc, .slice sa sn sc, .slice none 0 0, .bool false]) HB.out.lg h2 h1 hb)
  have TN := Lib.hid (Tx.first (w := w) (w2 := (w.alloc (.cells (axC a (.slice la ln lc) (.slice ka kn kc)) Act7)).alloc (.cells hope0 Hope7)) (cs := #[.slice na rn nc, .slice sa sn sc, .slice none 0 0, .bool false]) (by simp) h3 h4)
  have TS := Lib.hid (Tx.old M0.out HB.out.ts HB.out.tvb)
  have TL := Lib.hid (Tx.old M0.out HB.out.tl HB.out.lvb)
  have CA := Lib.hid (M0.out.cap HB.out.lg)
  have HO := Lib.hid ho
  have HO2 := Lib.hid ho2
  have HRN := Lib.hid hrn
  have HBW := Lib.hid hb.size
  clear h1 h2 h3 h4 hb ho ho2 hrn
  have c0 : (w5.alloc (.cells #[.slice na rn nc, .slice sa sn sc, .slice none 0 0, .bool false] Hope7)).cell? ⟨w.heap.size, 0, none⟩ = some (.int .i64 a.d) := M0.out.ba.cell 0
  have HLS := Lib.hid (show a.s.length ≤ 100000000 ∧ rows.length ≤ 1000000 from ⟨by have := HB.out.sl; omega, by have := HB.out.rl; have := HB.out.nn; omega⟩)
  have c1 : (w5.alloc (.cells #[.slice na rn nc, .slice sa sn sc, .slice none 0 0, .bool false] Hope7)).cell? ⟨w.heap.size, 1, none⟩ = some (.string (sv a.s)) := M0.out.ba.cell 1
  go_wp2_with fail
  clear c0 c1
  refine (lgd_append M0.out.lg a.s HLS.out.1 HLS.out.2 HX.out rfl rfl).mono ?_
  rintro e w6 ⟨rfl, hl, hf⟩
  have HAF := Lib.hid hf
  have M1 := Lib.hid (M0.out.call hl hf)
  have TN1 := Lib.hid (TN.out.call hf)
  have TS1 := Lib.hid (TS.out.call hf)
  have TL1 := Lib.hid (TL.out.call hf)
  clear M0 TN TS TL
  clear hl hf
  have c1 : w6.cell? ⟨w.heap.size, 1, none⟩ = some (.string (sv a.s)) := M1.out.ba.cell 1
  have d0 : w6.cell? ⟨w5.heap.size, 0, none⟩ = some (.slice na rn nc) := M1.out.bh.cell 0
  have HOV := Lib.hid (show ∀ b, (Value.slice na rn nc).ownBlock = some b → ¬ (fun b => A5 b ∧ ¬ b = w5.heap.size) b ∧ w.heap.size + 1 < b ∧ b < w5.heap.size from fun b e => ⟨fun x => HO2.out b e x.1, by have := HO.out.lt b e; simp at this; omega, (HO.out.lt b e).2⟩)
  have HO6 := Lib.hid (owns_base (owns_block (HO.out.alloc (.cells #[.slice na rn nc, .slice sa sn sc, .slice none 0 0, .bool false] Hope7)) (fun b e => HAF.out.block b (by have := HOV.out b e; simp; omega) (HOV.out b e).1)))
  have hrl : rn ≤ 1000000 := by rw [← HRN.out]; exact HLS.out.2
  obtain ⟨i0, hi, hz0, hz1, hz2⟩ := info_parts infoStr
  clear HAL HLS
  go_wp2_with (at_builtin; refine wpList_append_src rfl (.tmp 30) (.tmp 33) 38 38 rfl 9 i0 (.string ⟨#[]⟩) 1 16 Try.underlying38 hi hz0 hz1 hz2 rfl (by decide) _ _ _ rfl (HO6.out.alloc _) _ 1 (by decide) [.string (sv a.s)] rfl (Src.ofSlice _ Try.underlying38 ⟨w6.heap.size, 0, none⟩ 1 1 _ rfl ?d1 ?d2) ?d3 ?d4 ?_)
  case d1 =>
    intro j u hj
    rw [add_zero_addr, (Blk.new w6 9 #[.string (sv a.s)]).cell]
    match j, hj with
    | 0, hj => simpa using hj
  case d2 =>
    intro u hu
    rw [List.mem_singleton] at hu
    subst hu
    rfl
  case d3 => unfold maxLen; omega
  case d4 => omega
  intro v' w7 hown hgrow hwh
  clear c1 d0
  have M2 := Lib.hid (M1.out.all (fun b e => e) (M1.out.lg.below (below_alloc w6 (.cells #[.string (sv a.s)] 9))) (below_alloc w6 (.cells #[.string (sv a.s)] 9)))
  have TN2 := Lib.hid (TN1.out.all (fun b e => e) (below_alloc w6 (.cells #[.string (sv a.s)] 9)))
  have TS2 := Lib.hid (TS1.out.all (fun b e => e) (below_alloc w6 (.cells #[.string (sv a.s)] 9)))
  have TL2 := Lib.hid (TL1.out.all (fun b e => e) (below_alloc w6 (.cells #[.string (sv a.s)] 9)))
  clear M1 TN1 TS1 TL1
  have hown' : w7.ownsRow 0 9 1 v' (rows ++ [a.s]).length (Lw.sc rows ++ [.string (sv a.s)]) := by rw [List.length_append, HRN.out]; exact hown
  obtain ⟨D, tk, ow⟩ := M2.out.ad.grow (v := .slice na rn nc) (v' := v') HOV.out hgrow (fun b e => by have := hwh b e; simpa using this) HB.out.lg.new
  have TV := Lib.hid (show Tx (fun b => (A5 b ∧ ¬ b = w5.heap.size) ∧ ¬ v'.ownBlock = some b) w.heap.size w5.heap.size w7 v' (rows ++ [a.s]) from ⟨texts_own (by rw [Lw.sc_append]; exact hown') (by have := HRN.out; simp; omega) (fun t ht => by have h1 := HB.out.rs; have h2 := HB.out.sl; rcases List.mem_append.1 ht with x | x; have := h1 t x; omega; rw [List.mem_singleton] at x; subst x; omega), fun b e => ⟨fun x => x.2 (vblock_own e), ow b (vblock_own e)⟩⟩)
  have TSX := Lib.hid (tk _ _ TS2.out (fun b e e' => by have := Texts.lt HB.out.ts e; have := (HOV.out b e').2.1; omega))
  obtain ⟨v2a, v2c, hvv⟩ := owns_slice hown
  have DD := Lib.hid D
  have HGS := Lib.hid hgrow.size
  clear D tk ow hown hown' hgrow hwh hrl
  subst hvv
  have d0 := DD.out.bh.cell 0
  have f0 := DD.out.bh.frozen 0
  go_wp2_with fail
  clear d0 f0
  have DE := Lib.hid (DD.out.put CA.out.1 0 (.slice v2a (rn + 1) v2c))
  have TW := Lib.hid (TV.out.put 0 (.slice v2a (rn + 1) v2c))
  have TY := Lib.hid (TSX.out.put 0 (.slice v2a (rn + 1) v2c))
  refine (down_at DE.out.dk true HUP.out).mono ?_
  rintro e w9 ⟨rfl, rfl⟩
  have g0 := DE.out.bh.cell 0
  have g1 := DE.out.bh.cell 1
  have g2 := DE.out.bh.cell 2
  have g3 := DE.out.bh.cell 3
  have r0 := DE.out.br.cell 0
  have q0 := DE.out.br.frozen 0
  have r1 := DE.out.br.cell 1
  have q1 := DE.out.br.frozen 1
  have r2 := DE.out.br.cell 2
  have q2 := DE.out.br.frozen 2
  have r3 := DE.out.br.cell 3
  have q3 := DE.out.br.frozen 3
  go_upto_region 28 with fail
  go_region
  go_wp2_with fail
  have HBK := Lib.hid (Blk.drewn (DE.out.res CA.out.2 (.slice v2a (rn + 1) v2c) (.slice sa sn sc) (.slice none 0 0) (.bool false)).2.2)
  refine ret_hope (g := w.heap.size + 1) (cs := #[.slice v2a (rn + 1) v2c, .slice sa sn sc, .slice none 0 0, .bool false]) rfl rfl rfl rfl rfl HBK.out ?_
  exact AfR.dn (va := .slice v2a (rn + 1) v2c) (vx := .slice sa sn sc) (vf := .slice none 0 0) (b := false) DE.out CA.out.2 HF.out (by have := HB.out.rl; have := HB.out.nn; simp; omega) (fun t ht => by have h1 := HB.out.rs; have h2 := HB.out.sl; rcases List.mem_append.1 ht with x | x; have := h1 t x; omega; rw [List.mem_singleton] at x; subst x; omega) TW.out TY.out (fun e => by cases e) ⟨⟨_, _, _, rfl⟩, ⟨_, _, _, rfl⟩, ⟨_, _, _, rfl⟩, ⟨_, _, _, rfl⟩⟩
set_option maxHeartbeats 8000000 in
theorem aft_app_dn2 (a : Ax) (B0 : Bf A r p n s rows k w vs lv kv a) (hm : bits BinOp.and IntKind.i64 a.d 7 = 2) (hx : wappE s 2 a.s = 9) (hf : Fin_ (wappS s 2 a.s) (rows ++ [a.s]) (rows.take k)) :
    Calls Try.prog 27 #[.pointer (some ⟨r, 0, none⟩), .pointer (some ⟨p, 0, none⟩), .agg (axC a lv kv), vs] w (AfR A r p n w) := by
  have t0 : (bits BinOp.and IntKind.i64 a.d 7 == 0) = false := by rw [hm]; rfl
  have t1 : (bits BinOp.and IntKind.i64 a.d 7 == 1) = false := by rw [hm]; rfl
  have t2 : (bits BinOp.and IntKind.i64 a.d 7 == 2) = true := by rw [hm]; rfl
  have t3 : (bits BinOp.and IntKind.i64 a.d 7 == 3) = false := by rw [hm]; rfl
  have t5 : (bits BinOp.and IntKind.i64 a.d 7 == 5) = false := by rw [hm]; rfl
  have t6 : (bits BinOp.and IntKind.i64 a.d 7 == 6) = false := by rw [hm]; rfl
  have t7 : (bits BinOp.and IntKind.i64 a.d 7 == 7) = false := by rw [hm]; rfl
  clear hm
  have HB := Lib.hid B0
  have HAL := Lib.hid (fun o o' => lgd_all2 ((B0.lg.alloc o).alloc o') (by have := B0.rl; have := B0.nn; omega) (fun t ht => by have := B0.rs t ht; omega))
  have HX := Lib.hid hx
  have HF := Lib.hid hf
  have HUP := Lib.hid (show (wappS s 2 a.s).down = true from hf.dn)
  clear hx hf
  obtain ⟨sa, sc, rfl⟩ := texts_len B0.ts
  obtain ⟨la, lc, rfl⟩ := texts_len B0.tl
  obtain ⟨ka, kc, rfl, _⟩ := B0.kl
  clear B0
  generalize (rows.take k).length = sn at *
  obtain ⟨ln, hln⟩ : ∃ ln, a.l.length = ln := ⟨_, rfl⟩
  rw [hln] at HB ⊢
  clear hln
  generalize a.k.length = kn at *
  have HAX : axC a (.slice la ln lc) (.slice ka kn kc) = #[.int .i64 a.d, .string (sv a.s), .slice la ln lc, .int .i64 a.n, .slice ka kn kc] := rfl
  rw [HAX]
  go_enter Try.func27, Try.ntmps27
  go_wp2_with fail
  refine (HAL.out _ _).mono ?_
  rintro e w5 ⟨vn, A5, rfl, h1, h2, h3, h4, hb, ho, ho2⟩
  obtain ⟨na, nc, rfl⟩ := texts_len h3
  obtain ⟨rn, hrn⟩ : ∃ rn, rows.length = rn := ⟨_, rfl⟩
  rw [hrn] at h3 h4 ho ho2 ⊢
  have M0 := Lib.hid (Am.start (ac := (axC a (.slice la ln lc) (.slice ka kn kc))) (hc := #[.slice na rn nc, .slice sa sn sc, .slice none 0 0, .bool false]) HB.out.lg h2 h1 hb)
  have TN := Lib.hid (Tx.first (w := w) (w2 := (w.alloc (.cells (axC a (.slice la ln lc) (.slice ka kn kc)) Act7)).alloc (.cells hope0 Hope7)) (cs := #[.slice na rn nc, .slice sa sn sc, .slice none 0 0, .bool false]) (by simp) h3 h4)
  have TS := Lib.hid (Tx.old M0.out HB.out.ts HB.out.tvb)
  have TL := Lib.hid (Tx.old M0.out HB.out.tl HB.out.lvb)
  have CA := Lib.hid (M0.out.cap HB.out.lg)
  have HO := Lib.hid ho
  have HO2 := Lib.hid ho2
  have HRN := Lib.hid hrn
  have HBW := Lib.hid hb.size
  clear h1 h2 h3 h4 hb ho ho2 hrn
  have c0 : (w5.alloc (.cells #[.slice na rn nc, .slice sa sn sc, .slice none 0 0, .bool false] Hope7)).cell? ⟨w.heap.size, 0, none⟩ = some (.int .i64 a.d) := M0.out.ba.cell 0
  have HLS := Lib.hid (show a.s.length ≤ 100000000 ∧ rows.length ≤ 1000000 from ⟨by have := HB.out.sl; omega, by have := HB.out.rl; have := HB.out.nn; omega⟩)
  have c1 : (w5.alloc (.cells #[.slice na rn nc, .slice sa sn sc, .slice none 0 0, .bool false] Hope7)).cell? ⟨w.heap.size, 1, none⟩ = some (.string (sv a.s)) := M0.out.ba.cell 1
  go_wp2_with fail
  clear c0 c1
  refine (lgd_append M0.out.lg a.s HLS.out.1 HLS.out.2 HX.out rfl rfl).mono ?_
  rintro e w6 ⟨rfl, hl, hf⟩
  have HAF := Lib.hid hf
  have M1 := Lib.hid (M0.out.call hl hf)
  have TN1 := Lib.hid (TN.out.call hf)
  have TS1 := Lib.hid (TS.out.call hf)
  have TL1 := Lib.hid (TL.out.call hf)
  clear M0 TN TS TL
  clear hl hf
  have c1 : w6.cell? ⟨w.heap.size, 1, none⟩ = some (.string (sv a.s)) := M1.out.ba.cell 1
  have d0 : w6.cell? ⟨w5.heap.size, 0, none⟩ = some (.slice na rn nc) := M1.out.bh.cell 0
  have HOV := Lib.hid (show ∀ b, (Value.slice na rn nc).ownBlock = some b → ¬ (fun b => A5 b ∧ ¬ b = w5.heap.size) b ∧ w.heap.size + 1 < b ∧ b < w5.heap.size from fun b e => ⟨fun x => HO2.out b e x.1, by have := HO.out.lt b e; simp at this; omega, (HO.out.lt b e).2⟩)
  have HO6 := Lib.hid (owns_base (owns_block (HO.out.alloc (.cells #[.slice na rn nc, .slice sa sn sc, .slice none 0 0, .bool false] Hope7)) (fun b e => HAF.out.block b (by have := HOV.out b e; simp; omega) (HOV.out b e).1)))
  have hrl : rn ≤ 1000000 := by rw [← HRN.out]; exact HLS.out.2
  obtain ⟨i0, hi, hz0, hz1, hz2⟩ := info_parts infoStr
  clear HAL HLS
  go_wp2_with (at_builtin; refine wpList_append_src rfl (.tmp 30) (.tmp 33) 38 38 rfl 9 i0 (.string ⟨#[]⟩) 1 16 Try.underlying38 hi hz0 hz1 hz2 rfl (by decide) _ _ _ rfl (HO6.out.alloc _) _ 1 (by decide) [.string (sv a.s)] rfl (Src.ofSlice _ Try.underlying38 ⟨w6.heap.size, 0, none⟩ 1 1 _ rfl ?d1 ?d2) ?d3 ?d4 ?_)
  case d1 =>
    intro j u hj
    rw [add_zero_addr, (Blk.new w6 9 #[.string (sv a.s)]).cell]
    match j, hj with
    | 0, hj => simpa using hj
  case d2 =>
    intro u hu
    rw [List.mem_singleton] at hu
    subst hu
    rfl
  case d3 => unfold maxLen; omega
  case d4 => omega
  intro v' w7 hown hgrow hwh
  clear c1 d0
  have M2 := Lib.hid (M1.out.all (fun b e => e) (M1.out.lg.below (below_alloc w6 (.cells #[.string (sv a.s)] 9))) (below_alloc w6 (.cells #[.string (sv a.s)] 9)))
  have TN2 := Lib.hid (TN1.out.all (fun b e => e) (below_alloc w6 (.cells #[.string (sv a.s)] 9)))
  have TS2 := Lib.hid (TS1.out.all (fun b e => e) (below_alloc w6 (.cells #[.string (sv a.s)] 9)))
  have TL2 := Lib.hid (TL1.out.all (fun b e => e) (below_alloc w6 (.cells #[.string (sv a.s)] 9)))
  clear M1 TN1 TS1 TL1
  have hown' : w7.ownsRow 0 9 1 v' (rows ++ [a.s]).length (Lw.sc rows ++ [.string (sv a.s)]) := by rw [List.length_append, HRN.out]; exact hown
  obtain ⟨D, tk, ow⟩ := M2.out.ad.grow (v := .slice na rn nc) (v' := v') HOV.out hgrow (fun b e => by have := hwh b e; simpa using this) HB.out.lg.new
  have TV := Lib.hid (show Tx (fun b => (A5 b ∧ ¬ b = w5.heap.size) ∧ ¬ v'.ownBlock = some b) w.heap.size w5.heap.size w7 v' (rows ++ [a.s]) from ⟨texts_own (by rw [Lw.sc_append]; exact hown') (by have := HRN.out; simp; omega) (fun t ht => by have h1 := HB.out.rs; have h2 := HB.out.sl; rcases List.mem_append.1 ht with x | x; have := h1 t x; omega; rw [List.mem_singleton] at x; subst x; omega), fun b e => ⟨fun x => x.2 (vblock_own e), ow b (vblock_own e)⟩⟩)
  have TSX := Lib.hid (tk _ _ TS2.out (fun b e e' => by have := Texts.lt HB.out.ts e; have := (HOV.out b e').2.1; omega))
  obtain ⟨v2a, v2c, hvv⟩ := owns_slice hown
  have DD := Lib.hid D
  have HGS := Lib.hid hgrow.size
  clear D tk ow hown hown' hgrow hwh hrl
  subst hvv
  have d0 := DD.out.bh.cell 0
  have f0 := DD.out.bh.frozen 0
  go_wp2_with fail
  clear d0 f0
  have DE := Lib.hid (DD.out.put CA.out.1 0 (.slice v2a (rn + 1) v2c))
  have TW := Lib.hid (TV.out.put 0 (.slice v2a (rn + 1) v2c))
  have TY := Lib.hid (TSX.out.put 0 (.slice v2a (rn + 1) v2c))
  refine (down_at DE.out.dk true HUP.out).mono ?_
  rintro e w9 ⟨rfl, rfl⟩
  have g0 := DE.out.bh.cell 0
  have g1 := DE.out.bh.cell 1
  have g2 := DE.out.bh.cell 2
  have g3 := DE.out.bh.cell 3
  have r0 := DE.out.br.cell 0
  have q0 := DE.out.br.frozen 0
  have r1 := DE.out.br.cell 1
  have q1 := DE.out.br.frozen 1
  have r2 := DE.out.br.cell 2
  have q2 := DE.out.br.frozen 2
  have r3 := DE.out.br.cell 3
  have q3 := DE.out.br.frozen 3
  go_upto_region 28 with fail
  go_region
  go_wp2_with fail
  have HBK := Lib.hid (Blk.drewn (DE.out.res CA.out.2 (.slice v2a (rn + 1) v2c) (.slice sa sn sc) (.slice none 0 0) (.bool false)).2.2)
  refine ret_hope (g := w.heap.size + 1) (cs := #[.slice v2a (rn + 1) v2c, .slice sa sn sc, .slice none 0 0, .bool false]) rfl rfl rfl rfl rfl HBK.out ?_
  exact AfR.dn (va := .slice v2a (rn + 1) v2c) (vx := .slice sa sn sc) (vf := .slice none 0 0) (b := false) DE.out CA.out.2 HF.out (by have := HB.out.rl; have := HB.out.nn; simp; omega) (fun t ht => by have h1 := HB.out.rs; have h2 := HB.out.sl; rcases List.mem_append.1 ht with x | x; have := h1 t x; omega; rw [List.mem_singleton] at x; subst x; omega) TW.out TY.out (fun e => by cases e) ⟨⟨_, _, _, rfl⟩, ⟨_, _, _, rfl⟩, ⟨_, _, _, rfl⟩, ⟨_, _, _, rfl⟩⟩
theorem and7 (n : Int) : bits BinOp.and IntKind.i64 n 7 = n % 8 := by
  have hm : (BitVec.ofInt 64 7).toNat = 2 ^ 3 - 1 := by decide
  have key : (BitVec.ofInt 64 n &&& BitVec.ofInt 64 7).toNat = (n % ((2 ^ 64 : Nat) : Int)).toNat % 2 ^ 3 := by
    rw [BitVec.toNat_and, BitVec.toNat_ofInt, hm, Nat.and_two_pow_sub_one_eq_mod]
  show IntKind.i64.wrap ((BitVec.ofInt 64 n &&& BitVec.ofInt 64 7).toNat : Nat) = n % 8
  rw [key, IntKind.wrap_i64]
  omega
theorem aft_app (a : Ax) (B0 : Bf A r p n s rows k w vs lv kv a) (hm : bits BinOp.and IntKind.i64 a.d 7 = 0 ∨ bits BinOp.and IntKind.i64 a.d 7 = 1 ∨ bits BinOp.and IntKind.i64 a.d 7 = 2) :
    Calls Try.prog 27 #[.pointer (some ⟨r, 0, none⟩), .pointer (some ⟨p, 0, none⟩), .agg (axC a lv kv), vs] w (AfR A r p n w) := by
  obtain ⟨w1, w2⟩ := wapp_out (b := a.s) B0.iv
  have hlen := B0.rl
  by_cases h9 : wappE s 2 a.s = 9
  · have hf : Fin_ (wappS s 2 a.s) (rows ++ [a.s]) (rows.take k) := by
      rcases w2 (by rw [h9]; decide) with x | x
      · exact absurd h9 x.2
      · exact x.2
    rcases hm with h | h | h
    · exact aft_app_dn0 a B0 h h9 hf
    · exact aft_app_dn1 a B0 h h9 hf
    · exact aft_app_dn2 a B0 h h9 hf
  · have hb9 : (wappE s 2 a.s == 9) = false := beq_eq_false_iff_ne.2 h9
    have hall : ∃ rows' k', wappR s 2 rows a.s = rows' ∧ Iv (wappS s 2 a.s) rows' k' ∧ rows'.length ≤ n ∧ (∀ t ∈ rows', t.length ≤ 2000) ∧ rows'.take k' = rows.take k := by
      by_cases h0 : wappE s 2 a.s = 0
      · refine ⟨rows ++ [a.s], k, by unfold wappR; rw [if_pos h0], w1 h0, by simp; omega, fun t ht => ?_, List.take_append_of_le_length B0.iv.lg.le⟩
        rcases List.mem_append.1 ht with x | x
        · exact B0.rs t x
        · rw [List.mem_singleton] at x; subst x; exact B0.sl
      · refine ⟨rows, k, by unfold wappR; rw [if_neg h0], ?_, by omega, B0.rs, rfl⟩
        rcases w2 h0 with x | x
        · exact x.1
        · exact absurd x.1 h9
    obtain ⟨rows', k', e1, e2, e3, e4, e5⟩ := hall
    rcases hm with h | h | h
    · exact aft_app_up0 a B0 h rfl hb9 rfl e1 e2 e3 e4 e5
    · exact aft_app_up1 a B0 h rfl hb9 rfl e1 e2 e3 e4 e5
    · exact aft_app_up2 a B0 h rfl hb9 rfl e1 e2 e3 e4 e5
/-- An act that is no crash. -/
theorem after_any (a : Ax) (B0 : Bf A r p n s rows k w vs lv kv a) (h4 : (bits BinOp.and IntKind.i64 a.d 7 == 4) = false) :
    Calls Try.prog 27 #[.pointer (some ⟨r, 0, none⟩), .pointer (some ⟨p, 0, none⟩), .agg (axC a lv kv), vs] w (AfR A r p n w) := by
  have h4' : ¬ bits BinOp.and IntKind.i64 a.d 7 = 4 := beq_eq_false_iff_ne.1 h4
  have hr : bits BinOp.and IntKind.i64 a.d 7 = 0 ∨ bits BinOp.and IntKind.i64 a.d 7 = 1 ∨ bits BinOp.and IntKind.i64 a.d 7 = 2 ∨ bits BinOp.and IntKind.i64 a.d 7 = 3 ∨ bits BinOp.and IntKind.i64 a.d 7 = 5 ∨ bits BinOp.and IntKind.i64 a.d 7 = 6 ∨ bits BinOp.and IntKind.i64 a.d 7 = 7 := by
    rw [and7] at *; omega
  rcases hr with h | h | h | h | h | h | h
  · exact aft_app a B0 (.inl h)
  · exact aft_app a B0 (.inr (.inl h))
  · exact aft_app a B0 (.inr (.inr h))
  · obtain ⟨x1, x2⟩ := wflu_out B0.iv
    by_cases h0 : fluE s 2 = 0
    · exact aft_flush_ok a B0 h h0
    · have hb : (fluE s 2 == 0) = false := beq_eq_false_iff_ne.2 h0
      rcases x2 h0 with y | y
      · exact aft_flush_up a B0 h rfl hb y
      · exact aft_flush_dn a B0 h rfl hb y
  · obtain ⟨x1, x2⟩ := rew_out B0.iv (small_of B0.sL)
    by_cases h0 : wrewE s 2 a.l = 0
    · exact aft_rew_ok a B0 h h0
    · have hb : (wrewE s 2 a.l == 0) = false := beq_eq_false_iff_ne.2 h0
      rcases x2 h0 with y | y
      · exact aft_rew_up a B0 h rfl hb y
      · exact aft_rew_dn a B0 h rfl hb y
  · exact aft_lose a B0 h
  · exact aft_arm a B0 h
end
end Go.Proofs.Ytdjchpejhfkknaa.Lw
