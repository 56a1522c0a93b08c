/-
  Texts of this claim, put together: Ro20, Ro21, Ro22. What each one says, and under which conditions, stands ahead of it.
-/
import Derived.Test.YtpfdakkameifkaaRH
import Derived.Test.YtpfdakkameifkaaGReadY
import Derived.Test.YtpfdakkameifkaaGQRead3

section
/-
  What roster.take reads. Conditions: the reader is one that NewReader made of at most 10^6 bytes.
-/
namespace Go.Proofs.Ytpfdakkameifkaa
open Go.RowKit Go.Shelf
set_option linter.unusedVariables false
set_option linter.unusedSimpArgs false
namespace Ro
open Cd

/-- A reader stands while a block that is no fault's turns. -/
theorem rd_kep {w w' : World} {b p : Nat} {A : Option Addr} {n c : Nat} {zs : List Int} {k : Nat} {f : Option (Int × Int)} {C : Array Value} {t : TypeId} (h : RD b w b A n c zs k f) (hp : Blk w p C t) (ht : t ≠ 54)
    (hk : Kep (fun i => i = p) w w') (hbp : b ≠ p) (hA : 0 < n → ∀ x : Addr, A = some x → x.block ≠ p) : RD b w' b A n c zs k f := by
  obtain ⟨F, h1, h2, h3⟩ := h
  refine ⟨F, h1.kep0 hk hbp hA, h2.kep hk (fun x hx e => ?_), h3⟩
  rcases h2 with ⟨_, h⟩ | ⟨e', q, fb, _, h5, _, h7, _⟩
  · rw [h] at hx; cases hx
  · rw [h5] at hx
    injection hx with hx
    subst hx
    have e : fb = p := e
    subst e
    have := (show w.heap[fb]? = _ from hp).symm.trans h7
    simp at this
    exact ht this.2
theorem kep_past1 {w0 w w' : World} {b p : Nat} (h : Kep (fun i => i = b) w0 w) (hk : Kep (fun i => i = p) w w') (hp : w0.heap.size ≤ p) : Kep (fun i => i = b) w0 w' :=
  ⟨hk.os.trans h.os, hk.tape.trans h.tape, hk.output.trans h.output, Nat.le_trans h.size hk.size, fun i hi hS => (hk.block i (Nat.lt_of_lt_of_le hi h.size) (by omega)).trans (h.block i hi hS)⟩
/-- The memory while a validator is read: the validator's block p. -/
structure Tx (w0 w : World) (b p : Nat) (A : Option Addr) (n c : Nat) (zs : List Int) (k : Nat) (f : Option (Int × Int)) (x1 x2 x3 x4 : Int) (x5 x6 : Bool) : Prop where
  rd : RD b w b A n c zs k f
  sp : Blk w p #[.int .i64 x1, .int .u64 x2, .int .i64 x3, .int .i64 x4, .bool x5, .bool x6] 66
  kep : Kep (fun i => i = b) w0 w
  bp : b < w0.heap.size
  hp : w0.heap.size ≤ p
  ap : 0 < n → ∀ x : Addr, A = some x → x.block < w0.heap.size
section
variable {w0 w w' : World} {b p : Nat} {A : Option Addr} {n c : Nat} {zs : List Int} {k k' : Nat} {f f' : Option (Int × Int)} {x1 x2 x3 x4 y1 y2 y3 y4 : Int} {x5 x6 y5 y6 : Bool}
theorem Tx.call (h : Tx w0 w b p A n c zs k f x1 x2 x3 x4 x5 x6) (hr : RD b w' b A n c zs k' f') (hk : Kep (fun i => i = b) w w') : Tx w0 w' b p A n c zs k' f' x1 x2 x3 x4 x5 x6 :=
  ⟨hr, h.sp.kep hk (by have := h.bp; have := h.hp; omega), h.kep.trans hk, h.bp, h.hp, h.ap⟩
theorem Tx.bel (h : Tx w0 w b p A n c zs k f x1 x2 x3 x4 x5 x6) (hk : Bel w w') : Tx w0 w' b p A n c zs k f x1 x2 x3 x4 x5 x6 := h.call (h.rd.bel hk) (Kep.of_bel hk)
theorem Tx.put (h : Tx w0 w b p A n c zs k f x1 x2 x3 x4 x5 x6) (i : Nat) (v : Value)
    (e : (#[.int .i64 x1, .int .u64 x2, .int .i64 x3, .int .i64 x4, .bool x5, .bool x6] : Array Value).setIfInBounds i v = #[.int .i64 y1, .int .u64 y2, .int .i64 y3, .int .i64 y4, .bool y5, .bool y6]) : Tx w0 (w.setCell ⟨p, i, none⟩ v) b p A n c zs k f y1 y2 y3 y4 y5 y6 := by
  have hk : Kep (fun i => i = p) w (w.setCell ⟨p, i, none⟩ v) := (Kep.refl _ _).set_self i v
  refine ⟨rd_kep h.rd h.sp (by decide) hk (by have := h.bp; have := h.hp; omega) (fun hn x hx => by have := h.ap hn x hx; have := h.hp; omega), ?_, kep_past1 h.kep hk h.hp, h.bp, h.hp, h.ap⟩
  rw [← e]
  exact h.sp.set i v
theorem Tx.lt (h : Tx w0 w b p A n c zs k f x1 x2 x3 x4 x5 x6) : b < w.heap.size := Nat.lt_of_lt_of_le h.bp h.kep.size
end
set_option maxRecDepth 10000 in
set_option maxHeartbeats 8000000 in
theorem take (b : Nat) (A : Option Addr) (n c : Nat) (zs : List Int) (k : Nat) (f : Option (Int × Int)) (x1 x2 x3 x4 : Int) (x5 x6 : Bool) (k' : Nat) (f' : Option (Int × Int)) (w : World) (h : RD b w b A n c zs k f) (hA : 0 < n → ∀ x : Addr, A = some x → x.block < w.heap.size) (ht : Tv zs k f (x1, x2, x3, x4, x5, x6) k' f') :
    Calls Try.prog 83 #[.pointer (some ⟨b, 0, none⟩)] w fun r w' => r = .returned (.agg #[.int .i64 x1, .int .u64 x2, .int .i64 x3, .int .i64 x4, .bool x5, .bool x6]) ∧ RD b w' b A n c zs k' f' ∧ Kep (fun i => i = b) w w' := by
  obtain ⟨o, m, s, u, g, k1, f1, k2, f2, k3, f3, k4, f4, hx, hg, r1, r2, r3, r4, r5⟩ := ht
  injection hx with h1 hx
  injection hx with h2 hx
  injection hx with h3 hx
  injection hx with h4 hx
  injection hx with h5 h6
  subst h1 h2 h3 h4
  have H5 := Lib.hid h5
  have H6 := Lib.hid h6
  have HG := Lib.hid hg
  have hbl : b < w.heap.size := by obtain ⟨F, hr, _⟩ := h; exact hr.blk.lt
  have T0 : Tx w (w.alloc (.cells #[.int .i64 0, .int .u64 0, .int .i64 0, .int .i64 0, .bool false, .bool false] 66)) b w.heap.size A n c zs k f 0 0 0 0 false false :=
    ⟨h.bel ((Bel.refl w).alloc _), Blk.new w _ _, Kep.of_bel ((Bel.refl w).alloc _), hbl, Nat.le_refl _, hA⟩
  have T0 := Lib.hid T0
  have N1 := Lib.hid (fun V (hv : RD b V b A n c zs k f) (hb : b < V.heap.size) => yN b b A n c zs k f 0 63 x1 k1 f1 V hv r1 (by decide) hb)
  have N2 := Lib.hid (fun V (hv : RD b V b A n c zs k1 f1) (hb : b < V.heap.size) => yU b b A n c zs k1 f1 x2 k2 f2 V hv r2 hb)
  have N3 := Lib.hid (fun V (hv : RD b V b A n c zs k2 f2) (hb : b < V.heap.size) => yN b b A n c zs k2 f2 1 4 x3 k3 f3 V hv r3 (by decide) hb)
  have N4 := Lib.hid (fun V (hv : RD b V b A n c zs k3 f3) (hb : b < V.heap.size) => yN b b A n c zs k3 f3 0 4296015872 x4 k4 f4 V hv r4 (by decide) hb)
  have N5 := Lib.hid (fun V (hv : RD b V b A n c zs k4 f4) (hb : b < V.heap.size) => yN b b A n c zs k4 f4 0 3 g k' f' V hv r5 (by decide) hb)
  clear h hA r1 r2 r3 r4 r5 hbl hg h5 h6
  go_enter Try.func83, Try.ntmps83
  go_upto_region 1 with fail
  obtain ⟨W, hW⟩ : ∃ W, w.alloc (.cells #[.int .i64 0, .int .u64 0, .int .i64 0, .int .i64 0, .bool false, .bool false] 66) = W := ⟨_, rfl⟩
  obtain ⟨p, hp⟩ : ∃ p, w.heap.size = p := ⟨_, rfl⟩
  rw [hW, hp] at T0
  rw [hW, hp]
  clear hW hp
  go_wp2_with fail
  refine (N1.out _ T0.out.rd T0.out.lt).mono ?_
  rintro r w2 ⟨rfl, hr, hk⟩
  have T2 := Lib.hid (T0.out.call hr hk)
  clear hr hk T0
  have c0 := T2.out.sp.cell 0 rfl
  have f0_ := T2.out.sp.frozen 0
  go_upto_region 2 with fail
  have T3 := Lib.hid (T2.out.put (y1 := x1) (y2 := 0) (y3 := 0) (y4 := 0) (y5 := false) (y6 := false) 0 (.int .i64 x1) rfl)
  obtain ⟨WT3, hW⟩ : ∃ W, World.setCell w2 ⟨p, 0, none⟩ (.int .i64 x1) = W := ⟨_, rfl⟩
  rw [hW] at T3 ⊢
  clear hW c0 f0_ T2
  go_wp2_with fail
  refine (N2.out _ T3.out.rd T3.out.lt).mono ?_
  rintro r w4 ⟨rfl, hr, hk⟩
  have T4 := Lib.hid (T3.out.call hr hk)
  clear hr hk T3
  have c0 := T4.out.sp.cell 1 rfl
  have f0_ := T4.out.sp.frozen 1
  go_upto_region 3 with fail
  have T5 := Lib.hid (T4.out.put (y1 := x1) (y2 := x2) (y3 := 0) (y4 := 0) (y5 := false) (y6 := false) 1 (.int .u64 x2) rfl)
  obtain ⟨WT5, hW⟩ : ∃ W, World.setCell w4 ⟨p, 1, none⟩ (.int .u64 x2) = W := ⟨_, rfl⟩
  rw [hW] at T5 ⊢
  clear hW c0 f0_ T4
  go_wp2_with fail
  refine (N3.out _ T5.out.rd T5.out.lt).mono ?_
  rintro r w6 ⟨rfl, hr, hk⟩
  have T6 := Lib.hid (T5.out.call hr hk)
  clear hr hk T5
  have c0 := T6.out.sp.cell 2 rfl
  have f0_ := T6.out.sp.frozen 2
  go_upto_region 4 with fail
  have T7 := Lib.hid (T6.out.put (y1 := x1) (y2 := x2) (y3 := x3) (y4 := 0) (y5 := false) (y6 := false) 2 (.int .i64 x3) rfl)
  obtain ⟨WT7, hW⟩ : ∃ W, World.setCell w6 ⟨p, 2, none⟩ (.int .i64 x3) = W := ⟨_, rfl⟩
  rw [hW] at T7 ⊢
  clear hW c0 f0_ T6
  go_wp2_with fail
  refine (N4.out _ T7.out.rd T7.out.lt).mono ?_
  rintro r w8 ⟨rfl, hr, hk⟩
  have T8 := Lib.hid (T7.out.call hr hk)
  clear hr hk T7
  have c0 := T8.out.sp.cell 3 rfl
  have f0_ := T8.out.sp.frozen 3
  go_upto_region 5 with fail
  have T9 := Lib.hid (T8.out.put (y1 := x1) (y2 := x2) (y3 := x3) (y4 := x4) (y5 := false) (y6 := false) 3 (.int .i64 x4) rfl)
  obtain ⟨WT9, hW⟩ : ∃ W, World.setCell w8 ⟨p, 3, none⟩ (.int .i64 x4) = W := ⟨_, rfl⟩
  rw [hW] at T9 ⊢
  clear hW c0 f0_ T8
  go_wp2_with fail
  refine (N5.out _ T9.out.rd T9.out.lt).mono ?_
  rintro r w10 ⟨rfl, hr, hk⟩
  have TA := Lib.hid (T9.out.call hr hk)
  clear hr hk T9 N1 N2 N3 N4 N5
  go_upto_region 6 with fail
  have c4 := TA.out.sp.cell 4 rfl
  have c5 := TA.out.sp.cell 5 rfl
  have f4_ := TA.out.sp.frozen 4
  have f5_ := TA.out.sp.frozen 5
  have hcs : g = 0 ∨ g = 1 ∨ g = 2 ∨ g = 3 := by have := HG.out; omega
  have hgg : ∃ y5 y6 : Bool, x5 = y5 ∧ x6 = y6 := ⟨_, _, rfl, rfl⟩
  rcases hcs with rfl | rfl | rfl | rfl
  · obtain rfl : x5 = false := H5.out
    obtain rfl : x6 = false := H6.out
    have TB := Lib.hid ((TA.out.put (y1 := x1) (y2 := x2) (y3 := x3) (y4 := x4) (y5 := false) (y6 := false) 4 (.bool false) rfl).put (y1 := x1) (y2 := x2) (y3 := x3) (y4 := x4) (y5 := false) (y6 := false) 5 (.bool false) rfl)
    go_upto_region 7 with fail
    rw [show (bits BinOp.and IntKind.i64 0 1 != 0) = false by decide +kernel, show (bits BinOp.and IntKind.i64 0 2 != 0) = false by decide +kernel]
    obtain ⟨WB, hW⟩ : ∃ W, World.setCell (World.setCell w10 ⟨p, 4, none⟩ (.bool false)) ⟨p, 5, none⟩ (.bool false) = W := ⟨_, rfl⟩
    rw [hW] at TB ⊢
    clear hW c4 c5 f4_ f5_ TA
    have c0 := TB.out.sp.cell 0 rfl
    have c1 := TB.out.sp.cell 1 rfl
    have c2 := TB.out.sp.cell 2 rfl
    have c3 := TB.out.sp.cell 3 rfl
    have c4 := TB.out.sp.cell 4 rfl
    have c5 := TB.out.sp.cell 5 rfl
    have g0 := TB.out.sp.frozen 0
    have g1 := TB.out.sp.frozen 1
    have g2 := TB.out.sp.frozen 2
    have g3 := TB.out.sp.frozen 3
    have g4 := TB.out.sp.frozen 4
    have g5 := TB.out.sp.frozen 5
    have TF := Lib.hid ((((((TB.out.put (y1 := x1) (y2 := x2) (y3 := x3) (y4 := x4) (y5 := false) (y6 := false) 0 (.int .i64 x1) rfl).put (y1 := x1) (y2 := x2) (y3 := x3) (y4 := x4) (y5 := false) (y6 := false) 1 (.int .u64 x2) rfl).put (y1 := x1) (y2 := x2) (y3 := x3) (y4 := x4) (y5 := false) (y6 := false) 2 (.int .i64 x3) rfl).put (y1 := x1) (y2 := x2) (y3 := x3) (y4 := x4) (y5 := false) (y6 := false) 3 (.int .i64 x4) rfl).put (y1 := x1) (y2 := x2) (y3 := x3) (y4 := x4) (y5 := false) (y6 := false) 4 (.bool false) rfl).put (y1 := x1) (y2 := x2) (y3 := x3) (y4 := x4) (y5 := false) (y6 := false) 5 (.bool false) rfl)
    go_wp2_with fail
    refine bodyPost_ret (Pm.res_c rfl _ _ ⟨p, 0, none⟩ _ rfl (load_v TF.out.sp)) rfl ⟨rfl, TF.out.rd, TF.out.kep⟩
  · obtain rfl : x5 = true := H5.out
    obtain rfl : x6 = false := H6.out
    have TB := Lib.hid ((TA.out.put (y1 := x1) (y2 := x2) (y3 := x3) (y4 := x4) (y5 := true) (y6 := false) 4 (.bool true) rfl).put (y1 := x1) (y2 := x2) (y3 := x3) (y4 := x4) (y5 := true) (y6 := false) 5 (.bool false) rfl)
    go_upto_region 7 with fail
    rw [show (bits BinOp.and IntKind.i64 1 1 != 0) = true by decide +kernel, show (bits BinOp.and IntKind.i64 1 2 != 0) = false by decide +kernel]
    obtain ⟨WB, hW⟩ : ∃ W, World.setCell (World.setCell w10 ⟨p, 4, none⟩ (.bool true)) ⟨p, 5, none⟩ (.bool false) = W := ⟨_, rfl⟩
    rw [hW] at TB ⊢
    clear hW c4 c5 f4_ f5_ TA
    have c0 := TB.out.sp.cell 0 rfl
    have c1 := TB.out.sp.cell 1 rfl
    have c2 := TB.out.sp.cell 2 rfl
    have c3 := TB.out.sp.cell 3 rfl
    have c4 := TB.out.sp.cell 4 rfl
    have c5 := TB.out.sp.cell 5 rfl
    have g0 := TB.out.sp.frozen 0
    have g1 := TB.out.sp.frozen 1
    have g2 := TB.out.sp.frozen 2
    have g3 := TB.out.sp.frozen 3
    have g4 := TB.out.sp.frozen 4
    have g5 := TB.out.sp.frozen 5
    have TF := Lib.hid ((((((TB.out.put (y1 := x1) (y2 := x2) (y3 := x3) (y4 := x4) (y5 := true) (y6 := false) 0 (.int .i64 x1) rfl).put (y1 := x1) (y2 := x2) (y3 := x3) (y4 := x4) (y5 := true) (y6 := false) 1 (.int .u64 x2) rfl).put (y1 := x1) (y2 := x2) (y3 := x3) (y4 := x4) (y5 := true) (y6 := false) 2 (.int .i64 x3) rfl).put (y1 := x1) (y2 := x2) (y3 := x3) (y4 := x4) (y5 := true) (y6 := false) 3 (.int .i64 x4) rfl).put (y1 := x1) (y2 := x2) (y3 := x3) (y4 := x4) (y5 := true) (y6 := false) 4 (.bool true) rfl).put (y1 := x1) (y2 := x2) (y3 := x3) (y4 := x4) (y5 := true) (y6 := false) 5 (.bool false) rfl)
    go_wp2_with fail
    refine bodyPost_ret (Pm.res_c rfl _ _ ⟨p, 0, none⟩ _ rfl (load_v TF.out.sp)) rfl ⟨rfl, TF.out.rd, TF.out.kep⟩
  · obtain rfl : x5 = false := H5.out
    obtain rfl : x6 = true := H6.out
    have TB := Lib.hid ((TA.out.put (y1 := x1) (y2 := x2) (y3 := x3) (y4 := x4) (y5 := false) (y6 := false) 4 (.bool false) rfl).put (y1 := x1) (y2 := x2) (y3 := x3) (y4 := x4) (y5 := false) (y6 := true) 5 (.bool true) rfl)
    go_upto_region 7 with fail
    rw [show (bits BinOp.and IntKind.i64 2 1 != 0) = false by decide +kernel, show (bits BinOp.and IntKind.i64 2 2 != 0) = true by decide +kernel]
    obtain ⟨WB, hW⟩ : ∃ W, World.setCell (World.setCell w10 ⟨p, 4, none⟩ (.bool false)) ⟨p, 5, none⟩ (.bool true) = W := ⟨_, rfl⟩
    rw [hW] at TB ⊢
    clear hW c4 c5 f4_ f5_ TA
    have c0 := TB.out.sp.cell 0 rfl
    have c1 := TB.out.sp.cell 1 rfl
    have c2 := TB.out.sp.cell 2 rfl
    have c3 := TB.out.sp.cell 3 rfl
    have c4 := TB.out.sp.cell 4 rfl
    have c5 := TB.out.sp.cell 5 rfl
    have g0 := TB.out.sp.frozen 0
    have g1 := TB.out.sp.frozen 1
    have g2 := TB.out.sp.frozen 2
    have g3 := TB.out.sp.frozen 3
    have g4 := TB.out.sp.frozen 4
    have g5 := TB.out.sp.frozen 5
    have TF := Lib.hid ((((((TB.out.put (y1 := x1) (y2 := x2) (y3 := x3) (y4 := x4) (y5 := false) (y6 := true) 0 (.int .i64 x1) rfl).put (y1 := x1) (y2 := x2) (y3 := x3) (y4 := x4) (y5 := false) (y6 := true) 1 (.int .u64 x2) rfl).put (y1 := x1) (y2 := x2) (y3 := x3) (y4 := x4) (y5 := false) (y6 := true) 2 (.int .i64 x3) rfl).put (y1 := x1) (y2 := x2) (y3 := x3) (y4 := x4) (y5 := false) (y6 := true) 3 (.int .i64 x4) rfl).put (y1 := x1) (y2 := x2) (y3 := x3) (y4 := x4) (y5 := false) (y6 := true) 4 (.bool false) rfl).put (y1 := x1) (y2 := x2) (y3 := x3) (y4 := x4) (y5 := false) (y6 := true) 5 (.bool true) rfl)
    go_wp2_with fail
    refine bodyPost_ret (Pm.res_c rfl _ _ ⟨p, 0, none⟩ _ rfl (load_v TF.out.sp)) rfl ⟨rfl, TF.out.rd, TF.out.kep⟩
  · obtain rfl : x5 = true := H5.out
    obtain rfl : x6 = true := H6.out
    have TB := Lib.hid ((TA.out.put (y1 := x1) (y2 := x2) (y3 := x3) (y4 := x4) (y5 := true) (y6 := false) 4 (.bool true) rfl).put (y1 := x1) (y2 := x2) (y3 := x3) (y4 := x4) (y5 := true) (y6 := true) 5 (.bool true) rfl)
    go_upto_region 7 with fail
    rw [show (bits BinOp.and IntKind.i64 3 1 != 0) = true by decide +kernel, show (bits BinOp.and IntKind.i64 3 2 != 0) = true by decide +kernel]
    obtain ⟨WB, hW⟩ : ∃ W, World.setCell (World.setCell w10 ⟨p, 4, none⟩ (.bool true)) ⟨p, 5, none⟩ (.bool true) = W := ⟨_, rfl⟩
    rw [hW] at TB ⊢
    clear hW c4 c5 f4_ f5_ TA
    have c0 := TB.out.sp.cell 0 rfl
    have c1 := TB.out.sp.cell 1 rfl
    have c2 := TB.out.sp.cell 2 rfl
    have c3 := TB.out.sp.cell 3 rfl
    have c4 := TB.out.sp.cell 4 rfl
    have c5 := TB.out.sp.cell 5 rfl
    have g0 := TB.out.sp.frozen 0
    have g1 := TB.out.sp.frozen 1
    have g2 := TB.out.sp.frozen 2
    have g3 := TB.out.sp.frozen 3
    have g4 := TB.out.sp.frozen 4
    have g5 := TB.out.sp.frozen 5
    have TF := Lib.hid ((((((TB.out.put (y1 := x1) (y2 := x2) (y3 := x3) (y4 := x4) (y5 := true) (y6 := true) 0 (.int .i64 x1) rfl).put (y1 := x1) (y2 := x2) (y3 := x3) (y4 := x4) (y5 := true) (y6 := true) 1 (.int .u64 x2) rfl).put (y1 := x1) (y2 := x2) (y3 := x3) (y4 := x4) (y5 := true) (y6 := true) 2 (.int .i64 x3) rfl).put (y1 := x1) (y2 := x2) (y3 := x3) (y4 := x4) (y5 := true) (y6 := true) 3 (.int .i64 x4) rfl).put (y1 := x1) (y2 := x2) (y3 := x3) (y4 := x4) (y5 := true) (y6 := true) 4 (.bool true) rfl).put (y1 := x1) (y2 := x2) (y3 := x3) (y4 := x4) (y5 := true) (y6 := true) 5 (.bool true) rfl)
    go_wp2_with fail
    refine bodyPost_ret (Pm.res_c rfl _ _ ⟨p, 0, none⟩ _ rfl (load_v TF.out.sp)) rfl ⟨rfl, TF.out.rd, TF.out.kep⟩
end Ro
end Go.Proofs.Ytpfdakkameifkaa
end

section
/-
  What roster.Read answers. Conditions: at most 10^6 bytes; the bytes are bytes.
-/
namespace Go.Proofs.Ytpfdakkameifkaa
open Go.RowKit Go.Shelf
set_option linter.unusedVariables false
set_option linter.unusedSimpArgs false
namespace Ro
open Cd

theorem toK {S : Nat → Prop} {a w : World} (h : Cd.Kep S a w) : Kk.Kep S a w := ⟨h.os, h.tape, h.output, h.size, h.block⟩
theorem ofK {S : Nat → Prop} {a w : World} (h : Kk.Kep S a w) : Cd.Kep S a w := ⟨h.os, h.tape, h.output, h.size, h.block⟩
theorem res_tc {fn : Func} {p q : Tmp} {tq : TypeId} (h : fn.results = #[.tmp p, .cell q tq]) (tmps : Array Value) (w : World) (c : Addr) (X Y : Value)
    (hp : tmps.getD p undef = X) (hq : tmps.getD q undef = .pointer (some c)) (hY : (loadVar tq c).run Try.prog w = .ok Y w) : (results fn tmps).run Try.prog w = .ok (.tuple #[X, Y]) w := by
  have hp' : tmps[p]?.getD undef = X := by simpa using hp
  have hq' : tmps[q]?.getD undef = .pointer (some c) := by simpa using hq
  simp [results, h, hp', hq', asAddr, hY]
theorem load_flt {w : World} {b : Nat} {a1 a2 : Int} (h : Blk w b #[.int .i64 a1, .int .i64 a2] 54) : (loadVar 54 ⟨b, 0, none⟩).run Try.prog w = .ok (.agg #[.int .i64 a1, .int .i64 a2]) w :=
  Pm.load_b (C := [.int .i64 a1, .int .i64 a2]) h Try.underlying54 rfl (by kernel_rfl)
theorem flt_ne {w : World} {b : Nat} {A : Option Addr} {n c : Nat} {zs : List Int} {k : Nat} {p : Int × Int} (h : RD b w b A n c zs k (some p)) : p.1 ≠ 0 := by
  obtain ⟨F, _, h2, _⟩ := h
  rcases h2 with ⟨h, _⟩ | ⟨e, q, fb, h, _, _, _, h5⟩
  · cases h
  · injection h with h; subst h; exact h5
theorem end_e2 {n k : Nat} {f : Option (Int × Int)} {e1 e2 : Int} (he : endOf n k f = (e1, e2)) (hf : ∀ p, f = some p → p.1 ≠ 0) (h : e1 = 0) : e2 = 0 ∧ f = none ∧ n ≤ k := by
  cases f with
  | none =>
    have h1 : (if k < n then ((4 : Int), (k : Int)) else (0, 0)) = (e1, e2) := he
    by_cases hk : k < n
    · rw [if_pos hk] at h1
      injection h1 with h1 _
      omega
    · rw [if_neg hk] at h1
      injection h1 with _ h1
      exact ⟨h1.symm, rfl, by omega⟩
  | some p =>
    have h1 : p = (e1, e2) := he
    exact absurd h (by have := hf p rfl; rw [h1] at this; exact this)
theorem rd_blk {w : World} {b : Nat} {A : Option Addr} {n c : Nat} {zs : List Int} {k : Nat} {f : Option (Int × Int)} (h : RD b w b A n c zs k f) : ∃ C, Blk w b C 117 := by
  obtain ⟨F, h1, _⟩ := h
  exact ⟨_, h1.blk⟩
set_option maxRecDepth 100000 in
set_option maxHeartbeats 8000000 in
theorem readV (A : Option Addr) (n c : Nat) (zs : List Int) (m k1 : Nat) (f1 : Option (Int × Int)) (L : List V6) (k' : Nat) (f' : Option (Int × Int)) (e1 e2 : Int) (w : World) (hs : Sl w A n c zs) (hn : n ≤ 1000000) (hb : Bytes zs)
    (hr : RN zs 0 none 0 32 (m : Int) k1 f1) (hm : m ≤ 32) (hl : L.length = m) (hk : Lk zs [] L k1 f1 k' f') (hw : ∀ r ∈ L, WV r) (he : endOf zs.length k' f' = (e1, e2)) :
    Calls Try.prog 43 #[.slice A n c] w fun r w' => ∃ v, r = .returned (.tuple #[v, .agg #[.int .i64 e1, .int .i64 e2]]) ∧ OwnV w' w.heap.size v (if e1 = 0 then L else []) ∧ Bel w w' := by
  have HS := Lib.hid hs
  have HB := Lib.hid hb
  have HR := Lib.hid hr
  have HL := Lib.hid hl
  have HK := Lib.hid hk
  have HWV := Lib.hid (fun r hr => (hw r hr).i)
  have HE := Lib.hid he
  have HN := Lib.hid hn
  clear hs hb hr hl hk he hn hw
  have Q0 := Blk.new w #[.int .i64 0, .int .i64 0] 54
  have B0 := (Bel.refl w).alloc (.cells #[.int .i64 0, .int .i64 0] 54)
  obtain ⟨W, hW⟩ : ∃ W, w.alloc (.cells #[.int .i64 0, .int .i64 0] 54) = W := ⟨_, rfl⟩
  obtain ⟨q, hq⟩ : ∃ q, w.heap.size = q := ⟨_, rfl⟩
  rw [hW, hq] at Q0
  rw [hW] at B0
  have Q0 := Lib.hid Q0
  have B0 := Lib.hid B0
  have HW := Lib.hid hW
  have HQ := Lib.hid hq
  clear hW hq
  go_enter Try.func43, Try.ntmps43
  go_upto_region 1 with fail
  rw [HW.out, HQ.out]
  go_wp2_with fail
  refine (newReader A n c zs W (HS.out.bel B0.out) HN.out HB.out).mono ?_
  rintro r w1 ⟨b, A', c', rfl, hbb, hr, hA, kb⟩
  have Q1 := Lib.hid (Q0.out.bel kb)
  have K1 := Lib.hid (B0.out.trans kb)
  have HBQ := Lib.hid (show q < b from Nat.lt_of_lt_of_le Q0.out.lt hbb)
  have HSB := Lib.hid (show w.heap.size ≤ b from Nat.le_trans (Below.size B0.out) hbb)
  have R1 := Lib.hid (show RD b w1 b A' n c' zs 0 none from ⟨none, hr, .inl ⟨rfl, rfl⟩, fun x hx => by cases hx⟩)
  have HA1 := Lib.hid (fun (hn : 0 < n) (x : Addr) (hx : A' = some x) => show x.block < w1.heap.size from by
    obtain ⟨b', o', e, hlt, _⟩ := hr.sl.ints.cell (i := 0) hn
    rw [e] at hx; injection hx with hx; subst hx; exact hlt)
  have HBL := Lib.hid (show b < w1.heap.size from hr.blk.lt)
  clear hbb hr hA kb
  have NN := Lib.hid (yN b b A' n c' zs 0 none 0 32 (m : Int) k1 f1 w1 R1.out HR.out (by decide) HBL.out)
  go_wp2_with fail
  refine NN.out.mono ?_
  rintro r w2 ⟨rfl, hr, hk⟩
  have R2 := Lib.hid hr
  have Q2 := Lib.hid (Q1.out.kep hk (by have := HBQ.out; omega))
  have K2 := Lib.hid (show Bel w w2 from Kep.bel K1.out hk (fun i hi => by rw [hi]; exact HSB.out))
  have HA2 := Lib.hid (fun (hn : 0 < n) (x : Addr) (hx : A' = some x) => show x.block < w2.heap.size from Nat.lt_of_lt_of_le (HA1.out hn x hx) hk.size)
  have HBL2 := Lib.hid (Nat.lt_of_lt_of_le HBL.out hk.size)
  clear hr hk NN R1 Q1 K1
  go_wp2_with fail
  go_loopw [5, 14] (fun s5 s14 wr => ∃ (i kk : Nat) (ff : Option (Int × Int)), s14 = .int .i64 i ∧ i ≤ m ∧ Hid (OwnV wr w2.heap.size s5 (L.take i)) ∧ Hid (RD b wr b A' n c' zs kk ff) ∧ Hid (Lk zs (L.take i) (L.drop i) kk ff k' f') ∧ Hid (Kep (fun j => j = b) w2 wr)) (fun _ s14 _ => m - (intOf s14).toNat)
  case atStart => exact ⟨0, k1, f1, rfl, Nat.zero_le _, Lib.hid (Rw.OwnR.nil_ _ _ _ _), R2, HK, Lib.hid (Kep.refl _ _)⟩
  case round =>
    obtain ⟨i, kk, ff, rfl, hi, ho, hrd, hlk, hkp⟩ := hrel
    by_cases hlt : i < m
    · have hlt3 : (i : Int) < m := by omega
      obtain ⟨⟨x1, x2, x3, x4, x5, x6⟩, hx⟩ : ∃ r, L[i]? = some r := ⟨_, List.getElem?_eq_getElem (by rw [HL.out]; exact hlt)⟩
      have hd : L.drop i = (x1, x2, x3, x4, x5, x6) :: L.drop (i + 1) := by
        obtain ⟨h1, h2⟩ := List.getElem?_eq_some_iff.1 hx
        rw [List.drop_eq_getElem_cons h1, h2]
      rw [hd] at hlk
      obtain ⟨kn, fn, hth, hlk2⟩ := hlk.out
      have HNX := Lib.hid (show L.take (i + 1) = L.take i ++ [(x1, x2, x3, x4, x5, x6)] by rw [List.take_add_one, hx]; rfl)
      have HLK := Lib.hid (show Lk zs (L.take (i + 1)) (L.drop (i + 1)) kn (failOf fn (chk (L.take (i + 1))).1 (atOf kk ff)) k' f' by rw [HNX.out]; exact hlk2)
      have HLE := Lib.hid (show (L.take i).length ≤ 32 by rw [List.length_take]; omega)
      have HLE1 := Lib.hid (show (L.take (i + 1)).length = i + 1 by rw [List.length_take, HL.out]; omega)
      have ATC := Lib.hid (rAt b zs kk ff wr hrd.out.rs)
      obtain ⟨at_, hat⟩ : ∃ a, atOf kk ff = a := ⟨_, rfl⟩
      rw [hat] at ATC HLK
      clear hat
      have TK := Lib.hid (take b A' n c' zs kk ff x1 x2 x3 x4 x5 x6 kn fn wr hrd.out (fun hn x hx => Nat.lt_of_lt_of_le (HA2.out hn x hx) hkp.out.size) hth)
      clear hd hx hlk hlk2 hth
      go_wp2_with fail
      refine ATC.out.mono ?_
      rintro r wz ⟨rfl, rfl⟩
      clear ATC
      go_wp2_with fail
      refine TK.out.mono ?_
      rintro r w3 ⟨rfl, hr3, hk3⟩
      have R3 := Lib.hid hr3
      have K3 := Lib.hid (hkp.out.trans hk3)
      have O3 := Lib.hid (show OwnV w3 w2.heap.size _ _ from ho.out.kep (S := fun i => i = b) (toK hk3) (fun j hj e => by
        subst e
        obtain ⟨C, hC⟩ := rd_blk hrd.out
        exact Rw.own_ne ho.out hC (by decide) hj))
      clear hr3 hk3 TK ho hrd hkp
      have HX := Lib.hid (Rw.rs_one vR (r := (x1, x2, x3, x4, x5, x6)) (Kk.Blk.new w3 #[.int .i64 x1, .int .u64 x2, .int .i64 x3, .int .i64 x4, .bool x5, .bool x6] 66))
      have B5 := (Bel.refl w3).alloc (.cells #[.int .i64 x1, .int .u64 x2, .int .i64 x3, .int .i64 x4, .bool x5, .bool x6] 66)
      have O5 := Lib.hid (O3.out.bel B5)
      have R5 := Lib.hid (R3.out.bel B5)
      have K5 := Lib.hid (K3.out.trans (Kep.of_bel B5))
      clear B5
      go_wp2_with (at_builtin; refine Rw.append_R vR rfl _ _ _ 66 rfl underV zero_v rfl (by decide) w2.heap.size _ (L.take i) rfl O5.out (some ⟨w3.heap.size, 0, none⟩) 1 1 [(x1, x2, x3, x4, x5, x6)] rfl HX.out (by have := HLE.out; omega) (by have := K3.out.size; simp; omega) ?_; intro v' w6 hown' hgrow)
      have hgrow : World.grownBy _ w6 (Value.ownBlock u5) := hgrow
      have O6 := Lib.hid hown'
      have R6 := Lib.hid (show RD b w6 b A' n c' zs kn fn from by
        rcases hob : Value.ownBlock u5 with _ | j
        · rw [hob] at hgrow
          exact R5.out.bel ⟨hgrow.os, hgrow.tape, hgrow.output, hgrow.size, fun i hi => hgrow.block i hi (by simp)⟩
        · rw [hob] at hgrow
          obtain ⟨C, hC⟩ := Rw.own_blk O5.out hob
          have hjb : b ≠ j := fun e => by
            subst e
            obtain ⟨C', hC'⟩ := rd_blk R5.out
            exact Rw.own_ne O5.out hC' (by decide) hob
          refine rd_kep R5.out hC (by decide) (ofK (Ms.kep_grown hgrow)) hjb (fun hn x hx => ?_)
          have h1 := HA2.out hn x hx
          have h2 := Rw.own_ge O5.out hob
          omega)
      have K6 := Lib.hid (show Kep (fun j => j = b) w2 w6 from ⟨hgrow.os.trans K5.out.os, hgrow.tape.trans K5.out.tape, hgrow.output.trans K5.out.output, Nat.le_trans K5.out.size hgrow.size, fun j hj hne => (hgrow.block j (Nat.lt_of_lt_of_le hj K5.out.size) (fun e => by
        have h2 := Rw.own_ge O5.out e.symm
        omega)).trans (K5.out.block j hj hne)⟩)
      clear hown' hgrow O5 R5 K5 O3 R3 K3 HX
      have O6 := Lib.hid (show OwnV w6 w2.heap.size v' (L.take (i + 1)) by rw [HNX.out]; exact O6.out)
      obtain ⟨A7, c7, e7, hrs⟩ := O6.out.slice
      rw [HLE1.out] at e7 hrs
      subst e7
      have CK := Lib.hid (check A7 (i + 1) c7 (L.take (i + 1)) w6 hrs (by omega) (fun r hr => HWV.out r (List.mem_of_mem_take hr)))
      obtain ⟨e3, he3⟩ : ∃ e, (chk (L.take (i + 1))).1 = e := ⟨_, rfl⟩
      obtain ⟨e4, he4⟩ : ∃ e, (chk (L.take (i + 1))).2 = e := ⟨_, rfl⟩
      rw [he3, he4] at CK
      rw [he3] at HLK
      clear he3 he4 hrs HNX
      go_wp2_with fail
      refine CK.out.mono ?_
      rintro r w7 ⟨rfl, kb⟩
      have O7 := Lib.hid (O6.out.bel kb)
      have R7 := Lib.hid (R6.out.bel kb)
      have K7 := Lib.hid (K6.out.trans (Kep.of_bel kb))
      clear kb CK O6 R6 K6
      have FL := Lib.hid (yFail b b A' n c' zs kn fn e3 at_ w7 R7.out (Nat.lt_of_lt_of_le HBL2.out K7.out.size))
      go_wp2_with fail
      refine FL.out.mono ?_
      rintro r w8 ⟨rfl, hr8, hk8⟩
      have R8 := Lib.hid hr8
      have K8 := Lib.hid (K7.out.trans hk8)
      have O8 := Lib.hid (show OwnV w8 w2.heap.size _ _ from O7.out.kep (S := fun i => i = b) (toK hk8) (fun j hj e => by
        subst e
        obtain ⟨C, hC⟩ := rd_blk R7.out
        exact Rw.own_ne O7.out hC (by decide) hj))
      clear hr8 hk8 FL
      go_wp2_with fail
      go_roundw
      case rel => exact ⟨i + 1, kn, _, by go_num, by omega, O8, R8, HLK, K8⟩
      case measure => simp [intOf]; omega
    · obtain rfl : i = m := by omega
      have HLT := Lib.hid (show L.take i = L from List.take_of_length_le (by rw [HL.out]; exact Nat.le_refl _))
      have HLD := Lib.hid (show L.drop i = [] from List.drop_eq_nil_of_le (by rw [HL.out]; exact Nat.le_refl _))
      rw [HLD.out] at hlk
      obtain ⟨q1, q2⟩ := hlk.out
      subst q1 q2
      rw [HLT.out] at ho
      have Q3 := Lib.hid (Q2.out.kep hkp.out (by have := HBQ.out; omega))
      have K3 := Lib.hid (show Bel w wr from Kep.bel K2.out hkp.out (fun i hi => by rw [hi]; exact HSB.out))
      have EN := Lib.hid (rEnd b zs k' f' wr hrd.out.rs)
      rw [HE.out] at EN
      have EN := Lib.hid (show Calls Try.prog 85 #[.pointer (some ⟨b, 0, none⟩)] wr fun e w' => e = .returned (.agg #[.int .i64 e1, .int .i64 e2]) ∧ Bel wr w' from EN.out)
      have HFP := Lib.hid (fun p (hp : f' = some p) => flt_ne (by rw [hp] at hrd; exact hrd.out))
      have O3 := Lib.hid (show OwnV wr w.heap.size _ L from ho.out.mono (Below.size K2.out))
      clear hlk hkp ho hrd
      go_wp2_with fail
      refine EN.out.mono ?_
      rintro r w4 ⟨rfl, kb⟩
      have Q4 := Lib.hid (Q3.out.bel kb)
      have K4 := Lib.hid (K3.out.trans kb)
      have O4 := Lib.hid (O3.out.bel kb)
      clear kb EN Q3 K3 O3
      have T0 := Blk.new w4 #[.int .i64 e1, .int .i64 e2] 54
      have TB := (Bel.refl w4).alloc (.cells #[.int .i64 e1, .int .i64 e2] 54)
      go_upto_region 11 with fail
      obtain ⟨W5, hW⟩ : ∃ W, w4.alloc (.cells #[.int .i64 e1, .int .i64 e2] 54) = W := ⟨_, rfl⟩
      obtain ⟨u, hu⟩ : ∃ u, w4.heap.size = u := ⟨_, rfl⟩
      rw [hW] at T0 TB ⊢
      rw [hu] at T0 ⊢
      have T5 := Lib.hid T0
      have Q5 := Lib.hid (Q4.out.bel TB)
      have K5 := Lib.hid (K4.out.trans TB)
      have O5 := Lib.hid (O4.out.bel TB)
      have LU := Lib.hid (show q < u by rw [← hu]; exact Q4.out.lt)
      clear hW hu T0 TB Q4 K4 O4
      have hqu : q ≠ u := by have := LU.out; omega
      have t0 := T5.out.cell 0 rfl
      have t1 := T5.out.cell 1 rfl
      have q0 := Q5.out.cell 0 rfl
      have q1 := Q5.out.cell 1 rfl
      have fq0 := Q5.out.frozen 0
      have fq1 := Q5.out.frozen 1
      have HLQ := Lib.hid (show w.heap.size ≤ q by rw [HQ.out]; exact Nat.le_refl _)
      by_cases h0 : e1 = 0
      · obtain ⟨h2, -, -⟩ := end_e2 HE.out HFP.out h0
        subst h2
        subst h0
        have OF := Lib.hid (show OwnV ((W5.setCell ⟨q, 0, none⟩ (.int .i64 0)).setCell ⟨q, 1, none⟩ (.int .i64 0)) w.heap.size _ L from O5.out.kep (((Kk.Kep.refl (fun j => j = q) W5).set_self 0 _).set_self 1 _) (fun j hj e => by
          subst e
          exact Rw.own_ne O5.out Q5.out (by decide) hj))
        go_wp2_with fail
        have QF := ((Q5.out.set 0 (.int .i64 0)).set 1 (.int .i64 0))
        refine bodyPost_ret (res_tc rfl _ _ ⟨q, 0, none⟩ _ _ rfl rfl (load_flt QF)) rfl ⟨_, rfl, ?_, (K5.out.set HLQ.out _).set HLQ.out _⟩
        (try rw [if_pos rfl])
        exact OF.out
      · have h1 : (e1 != 0) = true := by rw [bne_iff_ne]; exact h0
        have H0 := Lib.hid h0
        clear h0
        go_wp2_with fail
        go_region
        all_goals
          go_wp2_with fail
          have QF := ((Q5.out.set 0 (.int .i64 e1)).set 1 (.int .i64 e2)).bel (Bel.refl _).drew
          refine bodyPost_ret (res_tc rfl _ _ ⟨q, 0, none⟩ _ _ rfl rfl (load_flt QF)) rfl ⟨_, rfl, ?_, ((K5.out.set HLQ.out _).set HLQ.out _).drew⟩
          first | exact Rw.OwnR.nil_ _ _ _ _ | (rw [if_neg H0.out]; exact Rw.OwnR.nil_ _ _ _ _)
end Ro
end Go.Proofs.Ytpfdakkameifkaa
end

section
/-
  What the reference's Read answers. Conditions: at most 10^6 bytes; the bytes are bytes.
-/
namespace Go.Proofs.Ytpfdakkameifkaa
open Go.RowKit Go.Shelf
set_option linter.unusedVariables false
set_option linter.unusedSimpArgs false
namespace Ro
open Cd

section
variable {w0 w w' : World} {b p : Nat} {A : Option Addr} {n c : Nat} {zs : List Int} {k k' : Nat} {f f' : Option (Int × Int)} {x1 x2 x3 x4 y1 y2 y3 y4 : Int} {x5 x6 y5 y6 : Bool} {v : Value} {l : List V6}
theorem qt_to (h : QT w b A n c zs k f) : ∃ t : Nat, w.cell? ⟨b, 1, none⟩ = some (.int .i64 (t : Int)) ∧ (f = none → t = k) := by
  obtain ⟨k2, h1, h2⟩ := h
  exact ⟨k2, h1.blk.cell 1 rfl, h2⟩
theorem qt_err (h : QT w b A n c zs k f) : w.cell? ⟨b, 2, none⟩ = some (.int .i64 (fE f)) := by
  obtain ⟨k2, h1, _⟩ := h
  exact h1.blk.cell 2 rfl
theorem qt_ne {q : Int × Int} (h : QT w b A n c zs k (some q)) : q.1 ≠ 0 := by
  obtain ⟨k2, h1, _⟩ := h
  exact h1.flt _ rfl
theorem qt_blk (h : QT w b A n c zs k f) : ∃ C, Blk w b C 103 := by
  obtain ⟨k2, h1, _⟩ := h
  exact ⟨_, h1.blk⟩
/-- The memory while the reference reads a validator: its block p; v: what was read ahead of it. -/
structure Tq (w0 w : World) (b p : Nat) (A : Option Addr) (n c : Nat) (zs : List Int) (k : Nat) (f : Option (Int × Int)) (x1 x2 x3 x4 : Int) (x5 x6 : Bool) (v : Value) (l : List V6) : Prop where
  rd : QT w b A n c zs k f
  sp : Blk w p #[.int .i64 x1, .int .u64 x2, .int .i64 x3, .int .i64 x4, .bool x5, .bool x6] 66
  kep : Kep (fun i => i = b) w0 w
  bp : b < w0.heap.size
  hp : w0.heap.size ≤ p
  ap : 0 < n → ∀ x : Addr, A = some x → x.block < w0.heap.size
  own : OwnV w w0.heap.size v l
  np : v.ownBlock ≠ some p
theorem Tq.call (h : Tq w0 w b p A n c zs k f x1 x2 x3 x4 x5 x6 v l) (hr : QT w' b A n c zs k' f') (hk : Kep (fun i => i = b) w w') : Tq w0 w' b p A n c zs k' f' x1 x2 x3 x4 x5 x6 v l :=
  ⟨hr, h.sp.kep hk (by have := h.bp; have := h.hp; omega), h.kep.trans hk, h.bp, h.hp, h.ap, h.own.kep (S := fun i => i = b) (toK hk) (fun j hj e => by
    subst e
    obtain ⟨C, hC⟩ := qt_blk h.rd
    exact Rw.own_ne h.own hC (by decide) hj), h.np⟩
theorem Tq.bel (h : Tq w0 w b p A n c zs k f x1 x2 x3 x4 x5 x6 v l) (hk : Bel w w') : Tq w0 w' b p A n c zs k f x1 x2 x3 x4 x5 x6 v l := h.call (h.rd.bel hk) (Kep.of_bel hk)
theorem Tq.put (h : Tq w0 w b p A n c zs k f x1 x2 x3 x4 x5 x6 v l) (i : Nat) (u : Value)
    (e : (#[.int .i64 x1, .int .u64 x2, .int .i64 x3, .int .i64 x4, .bool x5, .bool x6] : Array Value).setIfInBounds i u = #[.int .i64 y1, .int .u64 y2, .int .i64 y3, .int .i64 y4, .bool y5, .bool y6]) : Tq w0 (w.setCell ⟨p, i, none⟩ u) b p A n c zs k f y1 y2 y3 y4 y5 y6 v l := by
  have hk : Kep (fun i => i = p) w (w.setCell ⟨p, i, none⟩ u) := (Kep.refl _ _).set_self i u
  refine ⟨h.rd.kep hk (by have := h.bp; have := h.hp; omega) (fun hn x hx => by have := h.ap hn x hx; have := h.hp; omega), ?_, kep_past1 h.kep hk h.hp, h.bp, h.hp, h.ap, h.own.kep (S := fun i => i = p) (toK hk) (fun j hj e => h.np (e ▸ hj)), h.np⟩
  rw [← e]
  exact h.sp.set i u
end
set_option maxRecDepth 100000 in
set_option maxHeartbeats 8000000 in
theorem readR (A : Option Addr) (n c : Nat) (zs : List Int) (m k1 : Nat) (f1 : Option (Int × Int)) (L : List V6) (k' : Nat) (f' : Option (Int × Int)) (e1 e2 : Int) (w : World) (hs : Sl w A n c zs) (hn : n ≤ 1000000) (hb : Bytes zs)
    (hr : RN zs 0 none 0 32 (m : Int) k1 f1) (hm : m ≤ 32) (hl : L.length = m) (hk : Lk zs [] L k1 f1 k' f') (he : endOf zs.length k' f' = (e1, e2)) :
    Calls Try.prog 44 #[.slice A n c] w fun r w' => ∃ v, r = .returned (.tuple #[v, .agg #[.int .i64 e1, .int .i64 e2]]) ∧ OwnV w' w.heap.size v (if e1 = 0 then L else []) ∧ Bel w w' := by
  have HS := Lib.hid hs
  have HB := Lib.hid hb
  have HR := Lib.hid hr
  have HL := Lib.hid hl
  have HK := Lib.hid hk
  have HE := Lib.hid he
  have HN := Lib.hid hn
  clear hs hb hr hl hk he hn
  have Q0 := Blk.new w #[.int .i64 0, .int .i64 0] 54
  have B0 := (Bel.refl w).alloc (.cells #[.int .i64 0, .int .i64 0] 54)
  obtain ⟨W, hW⟩ : ∃ W, w.alloc (.cells #[.int .i64 0, .int .i64 0] 54) = W := ⟨_, rfl⟩
  obtain ⟨q, hq⟩ : ∃ q, w.heap.size = q := ⟨_, rfl⟩
  rw [hW, hq] at Q0
  rw [hW] at B0
  have Q0 := Lib.hid Q0
  have B0 := Lib.hid B0
  have HW := Lib.hid hW
  have HQ := Lib.hid hq
  clear hW hq
  go_enter Try.func44, Try.ntmps44
  go_upto_region 1 with fail
  rw [HW.out, HQ.out]
  go_wp2_with fail
  refine (qNew A n c zs W (HS.out.bel B0.out) HN.out HB.out).mono ?_
  rintro r w1 ⟨b, A', c', rfl, hbb, hr, hA, kb⟩
  have Q1 := Lib.hid (Q0.out.bel kb)
  have K1 := Lib.hid (B0.out.trans kb)
  have HBQ := Lib.hid (show q < b from Nat.lt_of_lt_of_le Q0.out.lt hbb)
  have HSB := Lib.hid (show w.heap.size ≤ b from Nat.le_trans (Below.size B0.out) hbb)
  have R1 := Lib.hid (show QT w1 b A' n c' zs 0 none from ⟨0, hr, fun _ => rfl⟩)
  have HBL := Lib.hid (show b < w1.heap.size from hr.blk.lt)
  have HA1 := Lib.hid (fun (hn : 0 < n) (x : Addr) (hx : A' = some x) => show x.block < w1.heap.size from Nat.lt_trans (hA hn x hx).2 HBL.out)
  clear hbb hr hA kb
  have NN := Lib.hid (tN b A' n c' zs 0 none 0 32 (m : Int) k1 f1 w1 R1.out HR.out (by decide) (by decide))
  go_wp2_with fail
  refine NN.out.mono ?_
  rintro r w2 ⟨rfl, hr, hk⟩
  have R2 := Lib.hid hr
  have Q2 := Lib.hid (Q1.out.kep hk (by have := HBQ.out; omega))
  have K2 := Lib.hid (show Bel w w2 from Kep.bel K1.out hk (fun i hi => by rw [hi]; exact HSB.out))
  have HA2 := Lib.hid (fun (hn : 0 < n) (x : Addr) (hx : A' = some x) => show x.block < w2.heap.size from Nat.lt_of_lt_of_le (HA1.out hn x hx) hk.size)
  have HBL2 := Lib.hid (Nat.lt_of_lt_of_le HBL.out hk.size)
  clear hr hk NN R1 Q1 K1
  go_wp2_with fail
  go_loopw [6, 7] (fun s6 s7 wr => ∃ (i kk : Nat) (ff : Option (Int × Int)), s7 = .int .i64 i ∧ i ≤ m ∧ Hid (OwnV wr w2.heap.size s6 (L.take i)) ∧ Hid (QT wr b A' n c' zs kk ff) ∧ Hid (Lk zs (L.take i) (L.drop i) kk ff k' f') ∧ Hid (ff = none → (chk (L.take i)).1 = 0) ∧ Hid (Kep (fun j => j = b) w2 wr)) (fun _ s7 _ => m - (intOf s7).toNat)
  case atStart => exact ⟨0, k1, f1, rfl, Nat.zero_le _, Lib.hid (Rw.OwnR.nil_ _ _ _ _), R2, HK, Lib.hid (fun _ => rfl), Lib.hid (Kep.refl _ _)⟩
  case round =>
    obtain ⟨i, kk, ff, rfl, hi, ho, hrd, hlk, hbf, hkp⟩ := hrel
    by_cases hlt : i < m
    · have hlt3 : (i : Int) < m := by omega
      cases ff with
      | none =>
        obtain ⟨⟨x1, x2, x3, x4, x5, x6⟩, hx⟩ : ∃ r, L[i]? = some r := ⟨_, List.getElem?_eq_getElem (by rw [HL.out]; exact hlt)⟩
        have hd : L.drop i = (x1, x2, x3, x4, x5, x6) :: L.drop (i + 1) := by
          obtain ⟨h1, h2⟩ := List.getElem?_eq_some_iff.1 hx
          rw [List.drop_eq_getElem_cons h1, h2]
        rw [hd] at hlk
        obtain ⟨kn, fn, ⟨o_, m_, s_, u_, g, a1, g1, a2, g2, a3, g3, a4, g4, hxx, hg, r1, r2, r3, r4, r5⟩, hlk2⟩ := hlk.out
        injection hxx with q1 hxx
        injection hxx with q2 hxx
        injection hxx with q3 hxx
        injection hxx with q4 hxx
        injection hxx with q5 q6
        subst q1 q2 q3 q4
        have H5 := Lib.hid q5
        have H6 := Lib.hid q6
        have HG := Lib.hid hg
        have HNX := Lib.hid (show L.take (i + 1) = L.take i ++ [(x1, x2, x3, x4, x5, x6)] by rw [List.take_add_one, hx]; rfl)
        have HLE := Lib.hid (show (L.take i).length = i by rw [List.length_take, HL.out]; omega)
        have HCS := Lib.hid (show (chk (L.take (i + 1))).1 = vE (has (L.take i) x1) (x1, x2, x3, x4, x5, x6) by rw [HNX.out]; exact chk_snoc (hbf.out rfl) (by rw [HLE.out]; omega))
        have HLK := Lib.hid (show Lk zs (L.take (i + 1)) (L.drop (i + 1)) kn (failOf fn (chk (L.take (i + 1))).1 (atOf kk none)) k' f' by rw [HNX.out]; exact hlk2)
        have ATC := Lib.hid (tAt b A' n c' zs kk none wr hrd.out)
        obtain ⟨at_, hat⟩ : ∃ a, atOf kk none = a := ⟨_, rfl⟩
        rw [hat] at ATC HLK
        have N1 := Lib.hid (fun V (hv : QT V b A' n c' zs kk none) => tN b A' n c' zs kk none 0 63 x1 a1 g1 V hv r1 (by decide) (by decide))
        have N2 := Lib.hid (fun V (hv : QT V b A' n c' zs a1 g1) => tU b A' n c' zs a1 g1 x2 a2 g2 V hv r2)
        have N3 := Lib.hid (fun V (hv : QT V b A' n c' zs a2 g2) => tN b A' n c' zs a2 g2 1 4 x3 a3 g3 V hv r3 (by decide) (by decide))
        have N4 := Lib.hid (fun V (hv : QT V b A' n c' zs a3 g3) => tN b A' n c' zs a3 g3 0 4296015872 x4 a4 g4 V hv r4 (by decide) (by decide))
        have N5 := Lib.hid (fun V (hv : QT V b A' n c' zs a4 g4) => tN b A' n c' zs a4 g4 0 3 g kn fn V hv r5 (by decide) (by decide))
        obtain ⟨A5, ca5, e5, -⟩ := ho.out.slice
        rw [HLE.out] at e5
        subst e5
        have cE : wr.cell? ⟨b, 2, none⟩ = some (.int .i64 0) := qt_err hrd.out
        clear hd hx hlk hlk2 r1 r2 r3 r4 r5 hbf hat q5 q6 hg
        go_wp2_with fail
        refine ATC.out.mono ?_
        rintro r wz ⟨rfl, rfl⟩
        clear ATC cE
        go_upto_region 9 with fail
        have T0 := Lib.hid (show Tq w2 (wr.alloc (.cells #[.int .i64 0, .int .u64 0, .int .i64 0, .int .i64 0, .bool false, .bool false] 66)) b wr.heap.size A' n c' zs kk none 0 0 0 0 false false (.slice A5 i ca5) (L.take i) from by
          have ba := (Bel.refl wr).alloc (.cells #[.int .i64 0, .int .u64 0, .int .i64 0, .int .i64 0, .bool false, .bool false] 66)
          refine ⟨hrd.out.bel ba, Blk.new wr _ _, hkp.out.trans (Kep.of_bel ba), HBL2.out, hkp.out.size, HA2.out, ho.out.bel ba, fun e => ?_⟩
          exact absurd ((Rw.own_blk ho.out e).elim fun _ hC => hC.lt) (Nat.lt_irrefl _))
        obtain ⟨wb, hW⟩ : ∃ W, wr.alloc (.cells #[.int .i64 0, .int .u64 0, .int .i64 0, .int .i64 0, .bool false, .bool false] 66) = W := ⟨_, rfl⟩
        obtain ⟨p, hp⟩ : ∃ p, wr.heap.size = p := ⟨_, rfl⟩
        rw [hW, hp] at T0
        rw [hW, hp]
        clear hW hp ho hrd hkp
        go_wp2_with fail
        refine (N1.out _ T0.out.rd).mono ?_
        rintro r w3 ⟨rfl, hr, hk⟩
        have T3 := Lib.hid (T0.out.call hr hk)
        clear hr hk T0
        have c0 := T3.out.sp.cell 0 rfl
        have f0_ := T3.out.sp.frozen 0
        go_upto_region 10 with fail
        have T4 := Lib.hid (T3.out.put (y1 := x1) (y2 := 0) (y3 := 0) (y4 := 0) (y5 := false) (y6 := false) 0 (.int .i64 x1) rfl)
        obtain ⟨WT4, hW⟩ : ∃ W, World.setCell w3 ⟨p, 0, none⟩ (.int .i64 x1) = W := ⟨_, rfl⟩
        rw [hW] at T4 ⊢
        clear hW c0 f0_ T3
        go_wp2_with fail
        refine (N2.out _ T4.out.rd).mono ?_
        rintro r w5 ⟨rfl, hr, hk⟩
        have T5 := Lib.hid (T4.out.call hr hk)
        clear hr hk T4
        have c0 := T5.out.sp.cell 1 rfl
        have f0_ := T5.out.sp.frozen 1
        go_upto_region 11 with fail
        have T6 := Lib.hid (T5.out.put (y1 := x1) (y2 := x2) (y3 := 0) (y4 := 0) (y5 := false) (y6 := false) 1 (.int .u64 x2) rfl)
        obtain ⟨WT6, hW⟩ : ∃ W, World.setCell w5 ⟨p, 1, none⟩ (.int .u64 x2) = W := ⟨_, rfl⟩
        rw [hW] at T6 ⊢
        clear hW c0 f0_ T5
        go_wp2_with fail
        refine (N3.out _ T6.out.rd).mono ?_
        rintro r w7 ⟨rfl, hr, hk⟩
        have T7 := Lib.hid (T6.out.call hr hk)
        clear hr hk T6
        have c0 := T7.out.sp.cell 2 rfl
        have f0_ := T7.out.sp.frozen 2
        go_upto_region 12 with fail
        have T8 := Lib.hid (T7.out.put (y1 := x1) (y2 := x2) (y3 := x3) (y4 := 0) (y5 := false) (y6 := false) 2 (.int .i64 x3) rfl)
        obtain ⟨WT8, hW⟩ : ∃ W, World.setCell w7 ⟨p, 2, none⟩ (.int .i64 x3) = W := ⟨_, rfl⟩
        rw [hW] at T8 ⊢
        clear hW c0 f0_ T7
        go_wp2_with fail
        refine (N4.out _ T8.out.rd).mono ?_
        rintro r w9 ⟨rfl, hr, hk⟩
        have T9 := Lib.hid (T8.out.call hr hk)
        clear hr hk T8
        have c0 := T9.out.sp.cell 3 rfl
        have f0_ := T9.out.sp.frozen 3
        go_upto_region 13 with fail
        have T10 := Lib.hid (T9.out.put (y1 := x1) (y2 := x2) (y3 := x3) (y4 := x4) (y5 := false) (y6 := false) 3 (.int .i64 x4) rfl)
        obtain ⟨WT10, hW⟩ : ∃ W, World.setCell w9 ⟨p, 3, none⟩ (.int .i64 x4) = W := ⟨_, rfl⟩
        rw [hW] at T10 ⊢
        clear hW c0 f0_ T9
        go_wp2_with fail
        refine (N5.out _ T10.out.rd).mono ?_
        rintro r wa ⟨rfl, hr, hk⟩
        have TA := Lib.hid (T10.out.call hr hk)
        clear hr hk T10 N1 N2 N3 N4 N5
        have c4 := TA.out.sp.cell 4 rfl
        have f4_ := TA.out.sp.frozen 4
        have hrm := Int.emod_two_eq g
        have h5 : (g % 2 == 1) = x5 := by rw [H5.out]; unfold flA; rcases hrm with h | h <;> rw [h] <;> decide
        have h5t : (Int.tmod g 2 == 1) = x5 := by rw [Int.tmod_eq_emod_of_nonneg (by have := HG.out; omega)]; exact h5
        have h6 : decide (g ≥ 2) = x6 := H6.out.symm
        go_upto_region 15 with fail
        have TB := Lib.hid (TA.out.put (y1 := x1) (y2 := x2) (y3 := x3) (y4 := x4) (y5 := x5) (y6 := false) 4 (.bool x5) rfl)
        obtain ⟨WB, hW⟩ : ∃ W, World.setCell wa ⟨p, 4, none⟩ (.bool x5) = W := ⟨_, rfl⟩
        rw [hW] at TB ⊢
        clear hW c4 f4_ TA hrm h5 h5t
        have c5 := TB.out.sp.cell 5 rfl
        have f5_ := TB.out.sp.frozen 5
        go_upto_region 16 with fail
        have TC := Lib.hid (TB.out.put (y1 := x1) (y2 := x2) (y3 := x3) (y4 := x4) (y5 := x5) (y6 := x6) 5 (.bool x6) rfl)
        try rw [h6]
        obtain ⟨WC, hW⟩ : ∃ W, World.setCell WB ⟨p, 5, none⟩ (.bool x6) = W := ⟨_, rfl⟩
        rw [hW] at TC ⊢
        clear hW c5 f5_ TB h6
        cases fn with
        | none =>
          have cE : WC.cell? ⟨b, 2, none⟩ = some (.int .i64 0) := qt_err TC.out.rd
          have c0 := TC.out.sp.cell 0 rfl
          have c1 := TC.out.sp.cell 1 rfl
          have c2 := TC.out.sp.cell 2 rfl
          have c3 := TC.out.sp.cell 3 rfl
          have c4 := TC.out.sp.cell 4 rfl
          have c5 := TC.out.sp.cell 5 rfl
          obtain ⟨A6, c6, e6, hrs⟩ := TC.out.own.slice
          rw [HLE.out] at e6 hrs
          injection e6 with e6 e7 e8
          subst e6 e8
          have ON := Lib.hid (oneR A5 i ca5 (L.take i) x1 x2 x3 x4 x5 x6 WC hrs (by omega))
          obtain ⟨e3, he3⟩ : ∃ e, vE (has (L.take i) x1) (x1, x2, x3, x4, x5, x6) = e := ⟨_, rfl⟩
          rw [he3] at ON HCS
          rw [HCS.out] at HLK
          clear he3 hrs
          go_wp2_with fail
          refine ON.out.mono ?_
          rintro r wd ⟨rfl, kb⟩
          have TD := Lib.hid (TC.out.bel kb)
          clear kb ON TC cE c0 c1 c2 c3 c4 c5
          go_wp2_with fail
          refine (tFail b A' n c' zs kn none e3 at_ wd TD.out.rd).mono ?_
          rintro r wz ⟨rfl, hr, hk⟩
          have TZ := Lib.hid (TD.out.call hr hk)
          have HBN := Lib.hid (show failOf none e3 at_ = none → (chk (L.take (i + 1))).1 = 0 from fun h => by rw [HCS.out]; exact (fail_none h).2)
          clear hr hk TD
          have c0 := TZ.out.sp.cell 0 rfl
          have c1 := TZ.out.sp.cell 1 rfl
          have c2 := TZ.out.sp.cell 2 rfl
          have c3 := TZ.out.sp.cell 3 rfl
          have c4 := TZ.out.sp.cell 4 rfl
          have c5 := TZ.out.sp.cell 5 rfl
          have HX := Lib.hid (Rw.rs_one vR (r := (x1, x2, x3, x4, x5, x6)) (Kk.Blk.new wz #[.int .i64 x1, .int .u64 x2, .int .i64 x3, .int .i64 x4, .bool x5, .bool x6] 66))
          have B5 := (Bel.refl wz).alloc (.cells #[.int .i64 x1, .int .u64 x2, .int .i64 x3, .int .i64 x4, .bool x5, .bool x6] 66)
          have O5 := Lib.hid (TZ.out.own.bel B5)
          have R5 := Lib.hid (TZ.out.rd.bel B5)
          have K4 := Lib.hid TZ.out.kep
          have K5 := Lib.hid (K4.out.trans (Kep.of_bel B5))
          clear B5 TZ
          go_wp2_with (at_builtin; refine Rw.append_R vR rfl _ _ _ 66 rfl underV zero_v rfl (by decide) w2.heap.size _ (L.take i) rfl O5.out (some ⟨wz.heap.size, 0, none⟩) 1 1 [(x1, x2, x3, x4, x5, x6)] rfl HX.out (by have := HLE.out; omega) (by have := K4.out.size; simp; omega) ?_; intro v' w6 hown' hgrow)
          have hgrow : World.grownBy _ w6 (Value.ownBlock (.slice A5 i ca5)) := hgrow
          have O6 := Lib.hid hown'
          have R6 := Lib.hid (show QT w6 b A' n c' zs kn _ from by
            rcases hob : Value.ownBlock (.slice A5 i ca5) with _ | j
            · rw [hob] at hgrow
              exact R5.out.bel ⟨hgrow.os, hgrow.tape, hgrow.output, hgrow.size, fun i hi => hgrow.block i hi (by simp)⟩
            · rw [hob] at hgrow
              have hjb : b ≠ j := fun e => by
                subst e
                obtain ⟨C', hC'⟩ := qt_blk R5.out
                exact Rw.own_ne O5.out hC' (by decide) hob
              refine R5.out.kep (ofK (Ms.kep_grown hgrow)) hjb (fun hn x hx => ?_)
              have h1 := HA2.out hn x hx
              have h2 := Rw.own_ge O5.out hob
              omega)
          have K6 := Lib.hid (show Kep (fun j => j = b) w2 w6 from ⟨hgrow.os.trans K5.out.os, hgrow.tape.trans K5.out.tape, hgrow.output.trans K5.out.output, Nat.le_trans K5.out.size hgrow.size, fun j hj hne => (hgrow.block j (Nat.lt_of_lt_of_le hj K5.out.size) (fun e => by
            have h2 := Rw.own_ge O5.out e.symm
            omega)).trans (K5.out.block j hj hne)⟩)
          clear hown' hgrow
          go_wp2_with fail
          go_roundw
          case rel => exact ⟨i + 1, kn, _, by go_num, by omega, Lib.hid (by rw [HNX.out]; exact O6.out), R6, HLK, HBN, K6⟩
          case measure => simp [intOf]; omega
        | some pf =>
          have cE : WC.cell? ⟨b, 2, none⟩ = some (.int .i64 pf.1) := qt_err TC.out.rd
          have fe : (pf.1 == 0) = false := beq_eq_false_iff_ne.2 (qt_ne TC.out.rd)
          rw [fail_some] at HLK
          obtain ⟨z, hz⟩ : ∃ z, pf.1 = z := ⟨_, rfl⟩
          rw [hz] at cE fe
          clear hz
          have HBN := Lib.hid (show some pf = none → (chk (L.take (i + 1))).1 = 0 from fun h => by cases h)
          have TZ := TC
          clear TC
          obtain ⟨wz, hwz⟩ : ∃ W, WC = W := ⟨_, rfl⟩
          rw [hwz] at TZ cE ⊢
          clear hwz
          have c0 := TZ.out.sp.cell 0 rfl
          have c1 := TZ.out.sp.cell 1 rfl
          have c2 := TZ.out.sp.cell 2 rfl
          have c3 := TZ.out.sp.cell 3 rfl
          have c4 := TZ.out.sp.cell 4 rfl
          have c5 := TZ.out.sp.cell 5 rfl
          have HX := Lib.hid (Rw.rs_one vR (r := (x1, x2, x3, x4, x5, x6)) (Kk.Blk.new wz #[.int .i64 x1, .int .u64 x2, .int .i64 x3, .int .i64 x4, .bool x5, .bool x6] 66))
          have B5 := (Bel.refl wz).alloc (.cells #[.int .i64 x1, .int .u64 x2, .int .i64 x3, .int .i64 x4, .bool x5, .bool x6] 66)
          have O5 := Lib.hid (TZ.out.own.bel B5)
          have R5 := Lib.hid (TZ.out.rd.bel B5)
          have K4 := Lib.hid TZ.out.kep
          have K5 := Lib.hid (K4.out.trans (Kep.of_bel B5))
          clear B5 TZ
          go_wp2_with (at_builtin; refine Rw.append_R vR rfl _ _ _ 66 rfl underV zero_v rfl (by decide) w2.heap.size _ (L.take i) rfl O5.out (some ⟨wz.heap.size, 0, none⟩) 1 1 [(x1, x2, x3, x4, x5, x6)] rfl HX.out (by have := HLE.out; omega) (by have := K4.out.size; simp; omega) ?_; intro v' w6 hown' hgrow)
          have hgrow : World.grownBy _ w6 (Value.ownBlock (.slice A5 i ca5)) := hgrow
          have O6 := Lib.hid hown'
          have R6 := Lib.hid (show QT w6 b A' n c' zs kn _ from by
            rcases hob : Value.ownBlock (.slice A5 i ca5) with _ | j
            · rw [hob] at hgrow
              exact R5.out.bel ⟨hgrow.os, hgrow.tape, hgrow.output, hgrow.size, fun i hi => hgrow.block i hi (by simp)⟩
            · rw [hob] at hgrow
              have hjb : b ≠ j := fun e => by
                subst e
                obtain ⟨C', hC'⟩ := qt_blk R5.out
                exact Rw.own_ne O5.out hC' (by decide) hob
              refine R5.out.kep (ofK (Ms.kep_grown hgrow)) hjb (fun hn x hx => ?_)
              have h1 := HA2.out hn x hx
              have h2 := Rw.own_ge O5.out hob
              omega)
          have K6 := Lib.hid (show Kep (fun j => j = b) w2 w6 from ⟨hgrow.os.trans K5.out.os, hgrow.tape.trans K5.out.tape, hgrow.output.trans K5.out.output, Nat.le_trans K5.out.size hgrow.size, fun j hj hne => (hgrow.block j (Nat.lt_of_lt_of_le hj K5.out.size) (fun e => by
            have h2 := Rw.own_ge O5.out e.symm
            omega)).trans (K5.out.block j hj hne)⟩)
          clear hown' hgrow
          go_wp2_with fail
          go_roundw
          case rel => exact ⟨i + 1, kn, _, by go_num, by omega, Lib.hid (by rw [HNX.out]; exact O6.out), R6, HLK, HBN, K6⟩
          case measure => simp [intOf]; omega
      | some p =>
        have cE : wr.cell? ⟨b, 2, none⟩ = some (.int .i64 p.1) := qt_err hrd.out
        have fe : (p.1 == 0) = false := beq_eq_false_iff_ne.2 (qt_ne hrd.out)
        obtain ⟨q1, q2⟩ := lk_some _ _ hlk.out
        have HEQ := Lib.hid (show e1 = 0 → L.take i = L from fun h0 => by
          have h1 : endOf zs.length k' f' = p := by rw [q1]; rfl
          have h2 := HE.out.symm.trans h1
          exact absurd (show p.1 = 0 by rw [← h2]; exact h0) (qt_ne hrd.out))
        have hrd : Hid (QT wr b A' n c' zs k' f') := Lib.hid (by rw [q1, q2]; exact hrd.out)
        clear q1 q2
        obtain ⟨z, hz⟩ : ∃ z, p.1 = z := ⟨_, rfl⟩
        rw [hz] at cE fe
        clear hlk hbf hz
        have Q3 := Lib.hid (Q2.out.kep hkp.out (by have := HBQ.out; omega))
        have K3 := Lib.hid (show Bel w wr from Kep.bel K2.out hkp.out (fun i hi => by rw [hi]; exact HSB.out))
        have EN := Lib.hid (tEnd b A' n c' zs k' f' wr hrd.out)
        rw [HE.out] at EN
        have EN := Lib.hid (show Calls Try.prog 91 #[.pointer (some ⟨b, 0, none⟩)] wr fun e w' => e = .returned (.agg #[.int .i64 e1, .int .i64 e2]) ∧ Bel wr w' from EN.out)
        have HFP := Lib.hid (fun p (hp : f' = some p) => qt_ne (by rw [hp] at hrd; exact hrd.out))
        have O3 := Lib.hid (show OwnV wr w.heap.size _ (L.take i) from ho.out.mono (Below.size K2.out))
        clear hkp ho hrd
        go_wp2_with fail
        refine EN.out.mono ?_
        rintro r w4 ⟨rfl, kb⟩
        have Q4 := Lib.hid (Q3.out.bel kb)
        have K4 := Lib.hid (K3.out.trans kb)
        have O4 := Lib.hid (O3.out.bel kb)
        clear kb EN Q3 K3 O3
        have T0 := Blk.new w4 #[.int .i64 e1, .int .i64 e2] 54
        have TB := (Bel.refl w4).alloc (.cells #[.int .i64 e1, .int .i64 e2] 54)
        go_upto_region 20 with fail
        obtain ⟨W5, hW⟩ : ∃ W, w4.alloc (.cells #[.int .i64 e1, .int .i64 e2] 54) = W := ⟨_, rfl⟩
        obtain ⟨u, hu⟩ : ∃ u, w4.heap.size = u := ⟨_, rfl⟩
        rw [hW] at T0 TB ⊢
        rw [hu] at T0 ⊢
        have T5 := Lib.hid T0
        have Q5 := Lib.hid (Q4.out.bel TB)
        have K5 := Lib.hid (K4.out.trans TB)
        have O5 := Lib.hid (O4.out.bel TB)
        have LU := Lib.hid (show q < u by rw [← hu]; exact Q4.out.lt)
        clear hW hu T0 TB Q4 K4 O4
        have hqu : q ≠ u := by have := LU.out; omega
        have t0 := T5.out.cell 0 rfl
        have t1 := T5.out.cell 1 rfl
        have q0 := Q5.out.cell 0 rfl
        have q1 := Q5.out.cell 1 rfl
        have fq0 := Q5.out.frozen 0
        have fq1 := Q5.out.frozen 1
        have HLQ := Lib.hid (show w.heap.size ≤ q by rw [HQ.out]; exact Nat.le_refl _)
        by_cases h0 : e1 = 0
        · obtain ⟨h2, -, -⟩ := end_e2 HE.out HFP.out h0
          subst h2
          have HLT := Lib.hid (HEQ.out h0)
          subst h0
          rw [HLT.out] at O5
          have OF := Lib.hid (show OwnV ((W5.setCell ⟨q, 0, none⟩ (.int .i64 0)).setCell ⟨q, 1, none⟩ (.int .i64 0)) w.heap.size _ L from O5.out.kep (((Kk.Kep.refl (fun j => j = q) W5).set_self 0 _).set_self 1 _) (fun j hj e => by
            subst e
            exact Rw.own_ne O5.out Q5.out (by decide) hj))
          have EQ := Lib.hid (fun V => (Rw.neq_fault 0 0 0 0 V).trans (by first | (rw [decide_eq_true (rfl : ((0 : Int), (0 : Int)) = (0, 0))]; done) | (rw [decide_eq_true (rfl : ((0 : Int), (0 : Int)) = (0, 0))]; rfl)))
          go_wp2_with (refine Rw.wpList_val (by rfl) (.bool false) (fun w => Rw.exec_neq rfl _ _ rfl rfl (by kernel_rfl) EQ.out w) ?_)
          go_wp2_with fail
          have QF := ((Q5.out.set 0 (.int .i64 0)).set 1 (.int .i64 0))
          refine bodyPost_ret (res_tc rfl _ _ ⟨q, 0, none⟩ _ _ rfl rfl (load_flt QF)) rfl ⟨_, rfl, ?_, (K5.out.set HLQ.out _).set HLQ.out _⟩
          (try rw [if_pos rfl])
          exact OF.out
        · have h1 : (e1 != 0) = true := by rw [bne_iff_ne]; exact h0
          have H0 := Lib.hid h0
          have EQ := Lib.hid (fun V => (Rw.neq_fault e1 e2 0 0 V).trans (show Result.ok (Value.bool (!decide ((e1, e2) = ((0 : Int), (0 : Int))))) V = Result.ok (.bool true) V by rw [decide_eq_false (fun h => h0 (by injection h))]; rfl))
          clear h0
          go_wp2_with (refine Rw.wpList_val (by rfl) (.bool true) (fun w => Rw.exec_neq rfl _ _ rfl rfl (by kernel_rfl) EQ.out w) ?_)
          go_wp2_with fail
          go_region
          all_goals
            go_wp2_with fail
            have QF := ((Q5.out.set 0 (.int .i64 e1)).set 1 (.int .i64 e2)).bel (Bel.refl _).drew
            refine bodyPost_ret (res_tc rfl _ _ ⟨q, 0, none⟩ _ _ rfl rfl (load_flt QF)) rfl ⟨_, rfl, ?_, ((K5.out.set HLQ.out _).set HLQ.out _).drew⟩
            first | exact Rw.OwnR.nil_ _ _ _ _ | (rw [if_neg H0.out]; exact Rw.OwnR.nil_ _ _ _ _)
    · obtain rfl : i = m := by omega
      have HEQ := Lib.hid (show e1 = 0 → L.take i = L from fun _ => List.take_of_length_le (by rw [HL.out]; exact Nat.le_refl _))
      have HLD := Lib.hid (show L.drop i = [] from List.drop_eq_nil_of_le (by rw [HL.out]; exact Nat.le_refl _))
      rw [HLD.out] at hlk
      obtain ⟨q1, q2⟩ := hlk.out
      have hrd : Hid (QT wr b A' n c' zs k' f') := Lib.hid (by rw [q1, q2]; exact hrd.out)
      clear q1 q2 hlk hbf
      have Q3 := Lib.hid (Q2.out.kep hkp.out (by have := HBQ.out; omega))
      have K3 := Lib.hid (show Bel w wr from Kep.bel K2.out hkp.out (fun i hi => by rw [hi]; exact HSB.out))
      have EN := Lib.hid (tEnd b A' n c' zs k' f' wr hrd.out)
      rw [HE.out] at EN
      have EN := Lib.hid (show Calls Try.prog 91 #[.pointer (some ⟨b, 0, none⟩)] wr fun e w' => e = .returned (.agg #[.int .i64 e1, .int .i64 e2]) ∧ Bel wr w' from EN.out)
      have HFP := Lib.hid (fun p (hp : f' = some p) => qt_ne (by rw [hp] at hrd; exact hrd.out))
      have O3 := Lib.hid (show OwnV wr w.heap.size _ (L.take i) from ho.out.mono (Below.size K2.out))
      clear hkp ho hrd
      go_wp2_with fail
      refine EN.out.mono ?_
      rintro r w4 ⟨rfl, kb⟩
      have Q4 := Lib.hid (Q3.out.bel kb)
      have K4 := Lib.hid (K3.out.trans kb)
      have O4 := Lib.hid (O3.out.bel kb)
      clear kb EN Q3 K3 O3
      have T0 := Blk.new w4 #[.int .i64 e1, .int .i64 e2] 54
      have TB := (Bel.refl w4).alloc (.cells #[.int .i64 e1, .int .i64 e2] 54)
      go_upto_region 20 with fail
      obtain ⟨W5, hW⟩ : ∃ W, w4.alloc (.cells #[.int .i64 e1, .int .i64 e2] 54) = W := ⟨_, rfl⟩
      obtain ⟨u, hu⟩ : ∃ u, w4.heap.size = u := ⟨_, rfl⟩
      rw [hW] at T0 TB ⊢
      rw [hu] at T0 ⊢
      have T5 := Lib.hid T0
      have Q5 := Lib.hid (Q4.out.bel TB)
      have K5 := Lib.hid (K4.out.trans TB)
      have O5 := Lib.hid (O4.out.bel TB)
      have LU := Lib.hid (show q < u by rw [← hu]; exact Q4.out.lt)
      clear hW hu T0 TB Q4 K4 O4
      have hqu : q ≠ u := by have := LU.out; omega
      have t0 := T5.out.cell 0 rfl
      have t1 := T5.out.cell 1 rfl
      have q0 := Q5.out.cell 0 rfl
      have q1 := Q5.out.cell 1 rfl
      have fq0 := Q5.out.frozen 0
      have fq1 := Q5.out.frozen 1
      have HLQ := Lib.hid (show w.heap.size ≤ q by rw [HQ.out]; exact Nat.le_refl _)
      by_cases h0 : e1 = 0
      · obtain ⟨h2, -, -⟩ := end_e2 HE.out HFP.out h0
        subst h2
        have HLT := Lib.hid (HEQ.out h0)
        subst h0
        rw [HLT.out] at O5
        have OF := Lib.hid (show OwnV ((W5.setCell ⟨q, 0, none⟩ (.int .i64 0)).setCell ⟨q, 1, none⟩ (.int .i64 0)) w.heap.size _ L from O5.out.kep (((Kk.Kep.refl (fun j => j = q) W5).set_self 0 _).set_self 1 _) (fun j hj e => by
          subst e
          exact Rw.own_ne O5.out Q5.out (by decide) hj))
        have EQ := Lib.hid (fun V => (Rw.neq_fault 0 0 0 0 V).trans (by first | (rw [decide_eq_true (rfl : ((0 : Int), (0 : Int)) = (0, 0))]; done) | (rw [decide_eq_true (rfl : ((0 : Int), (0 : Int)) = (0, 0))]; rfl)))
        go_wp2_with (refine Rw.wpList_val (by rfl) (.bool false) (fun w => Rw.exec_neq rfl _ _ rfl rfl (by kernel_rfl) EQ.out w) ?_)
        go_wp2_with fail
        have QF := ((Q5.out.set 0 (.int .i64 0)).set 1 (.int .i64 0))
        refine bodyPost_ret (res_tc rfl _ _ ⟨q, 0, none⟩ _ _ rfl rfl (load_flt QF)) rfl ⟨_, rfl, ?_, (K5.out.set HLQ.out _).set HLQ.out _⟩
        (try rw [if_pos rfl])
        exact OF.out
      · have h1 : (e1 != 0) = true := by rw [bne_iff_ne]; exact h0
        have H0 := Lib.hid h0
        have EQ := Lib.hid (fun V => (Rw.neq_fault e1 e2 0 0 V).trans (show Result.ok (Value.bool (!decide ((e1, e2) = ((0 : Int), (0 : Int))))) V = Result.ok (.bool true) V by rw [decide_eq_false (fun h => h0 (by injection h))]; rfl))
        clear h0
        go_wp2_with (refine Rw.wpList_val (by rfl) (.bool true) (fun w => Rw.exec_neq rfl _ _ rfl rfl (by kernel_rfl) EQ.out w) ?_)
        go_wp2_with fail
        go_region
        all_goals
          go_wp2_with fail
          have QF := ((Q5.out.set 0 (.int .i64 e1)).set 1 (.int .i64 e2)).bel (Bel.refl _).drew
          refine bodyPost_ret (res_tc rfl _ _ ⟨q, 0, none⟩ _ _ rfl rfl (load_flt QF)) rfl ⟨_, rfl, ?_, ((K5.out.set HLQ.out _).set HLQ.out _).drew⟩
          first | exact Rw.OwnR.nil_ _ _ _ _ | (rw [if_neg H0.out]; exact Rw.OwnR.nil_ _ _ _ _)
end Ro
end Go.Proofs.Ytpfdakkameifkaa
end
