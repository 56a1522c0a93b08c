/-
  Texts of this claim, put together: Qu26, Qu27, Qu28, Qu29. What each one says, and under which conditions, stands ahead of it.
-/
import Derived.Test.YtdpompponngmdaaQF

section
/-
  What queue.isFaulty and queue.entry answer of any reader that NewReader made of at most 10^6 bytes.
-/
namespace Go.Proofs.Ytdpompponngmdaa
open Go.RowKit Go.Shelf
set_option linter.unusedVariables false
set_option linter.unusedSimpArgs false
set_option Elab.async false
namespace Qu
open Cd

set_option maxRecDepth 10000 in
set_option maxHeartbeats 1000000 in
theorem isFaulty (b : Nat) (A : Option Addr) (n c : Nat) (zs : List Int) (k : Nat) (f : Option (Int × Int)) (w : World) (h : RD b w b A n c zs k f) :
    Calls Try.prog 89 #[.pointer (some ⟨b, 0, none⟩)] w fun r w' => r = .returned (.bool f.isSome) ∧ Bel w w' := by
  have LE := Lib.hid (fun V (hv : Bel w V) => rLeft b zs k f V (h.rs.bel hv))
  have EN := Lib.hid (fun V (hv : Bel w V) => rEnd b zs k f V (h.rs.bel hv))
  obtain ⟨l, hl⟩ : ∃ l, Cd.leftOf zs.length k f = l := ⟨_, rfl⟩
  obtain ⟨e, he⟩ : ∃ e, endOf zs.length k f = e := ⟨_, rfl⟩
  obtain ⟨e1, e2⟩ := e
  obtain ⟨x, hx⟩ : ∃ x, f.isSome = x := ⟨_, rfl⟩
  have hcase : (x = true ∧ l = 0 ∧ e1 ≠ 0) ∨ (x = false ∧ l ≠ 0) ∨ (x = false ∧ l = 0 ∧ e1 = 0) := by
    cases f with
    | some p =>
      refine .inl ⟨hx.symm, hl.symm, ?_⟩
      have h1 : p = (e1, e2) := he
      have h2 := Sm.flt_ne h
      rw [h1] at h2
      exact h2
    | none =>
      have hle : k ≤ zs.length := by
        obtain ⟨F, hr, _⟩ := h
        have := hr.sl.len; have := hr.le; omega
      have h1 : (zs.length : Int) - k = l := hl
      have h2 : (if k < zs.length then ((4 : Int), (k : Int)) else (0, 0)) = (e1, e2) := he
      by_cases hk : k < zs.length
      · exact .inr (.inl ⟨hx.symm, by omega⟩)
      · rw [if_neg hk] at h2
        injection h2 with h2 _
        exact .inr (.inr ⟨hx.symm, by omega, h2.symm⟩)
  rw [hl] at LE
  rw [he] at EN
  have hfd := Sm.field_flt e1 e2
  have EN := Lib.hid (fun V (hv : Bel w V) => show Calls Try.prog 67 #[.pointer (some ⟨b, 0, none⟩)] V fun e w' => e = .returned (.agg #[.int .i64 e1, .int .i64 e2]) ∧ Bel V w' from EN.out V hv)
  rw [hx]
  clear hl he hx h
  go_enter Try.func89, Try.ntmps89
  go_wp2_with fail
  refine (LE.out _ (Bel.refl _)).mono ?_
  rintro r w1 ⟨rfl, kb⟩
  have K1 := Lib.hid kb
  clear kb LE
  rcases hcase with ⟨rfl, rfl, h1⟩ | ⟨rfl, h1⟩ | ⟨rfl, rfl, rfl⟩
  · have h1' : (e1 != 0) = true := by rw [bne_iff_ne]; exact h1
    clear h1
    go_wp2_with fail
    refine (EN.out _ K1.out).mono ?_
    rintro r w2 ⟨rfl, kb⟩
    have K2 := Lib.hid (K1.out.trans kb)
    clear kb
    go_wp2_with fail
    go_ret
    exact ⟨rfl, K2.out⟩
  · have h1' : (l == 0) = false := beq_eq_false_iff_ne.2 h1
    clear h1
    go_wp2_with fail
    go_ret
    exact ⟨rfl, K1.out⟩
  · go_wp2_with fail
    refine (EN.out _ K1.out).mono ?_
    rintro r w2 ⟨rfl, kb⟩
    have K2 := Lib.hid (K1.out.trans kb)
    clear kb
    go_wp2_with fail
    go_ret
    exact ⟨rfl, K2.out⟩

/-- A reader stands while a block that is no fault's turns. -/
theorem rd_kep {w w' : World} {b p : Nat} {A : Option Addr} {n c : Nat} {zs : List Int} {k : Nat} {f : Option (Int × Int)} {C : Array Value} {t : TypeId} (h : RD b w b A n c zs k f) (hp : Blk w p C t) (ht : t ≠ 60)
    (hk : Kep (fun i => i = p) w w') (hbp : b ≠ p) (hA : 0 < n → ∀ x : Addr, A = some x → x.block ≠ p) : RD b w' b A n c zs k f := by
  obtain ⟨F, h1, h2, h3⟩ := h
  refine ⟨F, h1.kep0 hk hbp hA, h2.kep hk (fun x hx e => ?_), h3⟩
  rcases h2 with ⟨_, h⟩ | ⟨e', q, fb, _, h5, _, h7, _⟩
  · rw [h] at hx; cases hx
  · rw [h5] at hx
    injection hx with hx
    subst hx
    have e : fb = p := e
    subst e
    have := (show w.heap[fb]? = _ from hp).symm.trans h7
    simp at this
    exact ht this.2
theorem kep_past1 {w0 w w' : World} {b p : Nat} (h : Kep (fun i => i = b) w0 w) (hk : Kep (fun i => i = p) w w') (hp : w0.heap.size ≤ p) : Kep (fun i => i = b) w0 w' :=
  ⟨hk.os.trans h.os, hk.tape.trans h.tape, hk.output.trans h.output, Nat.le_trans h.size hk.size, fun i hi hS => (hk.block i (Nat.lt_of_lt_of_le hi h.size) (by omega)).trans (h.block i hi hS)⟩
/-- The memory while an entry is read: the entry's block p. -/
structure Tx (w0 w : World) (b p : Nat) (A : Option Addr) (n c : Nat) (zs : List Int) (k : Nat) (f : Option (Int × Int)) (x1 x2 x3 x4 x5 x6 x7 x8 : Int) : Prop where
  rd : RD b w b A n c zs k f
  sp : Blk w p #[.int .i64 x1, .int .i64 x2, .int .i64 x3, .int .i64 x4, .int .i64 x5, .int .i64 x6, .int .u64 x7, .int .u64 x8] 27
  kep : Kep (fun i => i = b) w0 w
  bp : b < w0.heap.size
  hp : w0.heap.size ≤ p
  ap : 0 < n → ∀ x : Addr, A = some x → x.block < w0.heap.size
section
variable {w0 w w' : World} {b p : Nat} {A : Option Addr} {n c : Nat} {zs : List Int} {k k' : Nat} {f f' : Option (Int × Int)} {x1 x2 x3 x4 x5 x6 x7 x8 y1 y2 y3 y4 y5 y6 y7 y8 : Int}
theorem Tx.call (h : Tx w0 w b p A n c zs k f x1 x2 x3 x4 x5 x6 x7 x8) (hr : RD b w' b A n c zs k' f') (hk : Kep (fun i => i = b) w w') : Tx w0 w' b p A n c zs k' f' x1 x2 x3 x4 x5 x6 x7 x8 :=
  ⟨hr, h.sp.kep hk (by have := h.bp; have := h.hp; omega), h.kep.trans hk, h.bp, h.hp, h.ap⟩
theorem Tx.put (h : Tx w0 w b p A n c zs k f x1 x2 x3 x4 x5 x6 x7 x8) (i : Nat) (v : Value)
    (e : (#[.int .i64 x1, .int .i64 x2, .int .i64 x3, .int .i64 x4, .int .i64 x5, .int .i64 x6, .int .u64 x7, .int .u64 x8] : Array Value).setIfInBounds i v = #[.int .i64 y1, .int .i64 y2, .int .i64 y3, .int .i64 y4, .int .i64 y5, .int .i64 y6, .int .u64 y7, .int .u64 y8]) : Tx w0 (w.setCell ⟨p, i, none⟩ v) b p A n c zs k f y1 y2 y3 y4 y5 y6 y7 y8 := by
  have hk : Kep (fun i => i = p) w (w.setCell ⟨p, i, none⟩ v) := (Kep.refl _ _).set_self i v
  refine ⟨rd_kep h.rd h.sp (by decide) hk (by have := h.bp; have := h.hp; omega) (fun hn x hx => by have := h.ap hn x hx; have := h.hp; omega), ?_, kep_past1 h.kep hk h.hp, h.bp, h.hp, h.ap⟩
  rw [← e]
  exact h.sp.set i v
theorem Tx.lt (h : Tx w0 w b p A n c zs k f x1 x2 x3 x4 x5 x6 x7 x8) : b < w.heap.size := Nat.lt_of_lt_of_le h.bp h.kep.size
theorem Tx.al (h : Tx w0 w b p A n c zs k f x1 x2 x3 x4 x5 x6 x7 x8) : 0 < n → ∀ x : Addr, A = some x → x.block < w.heap.size := fun hn x hx => Nat.lt_of_lt_of_le (h.ap hn x hx) h.kep.size
end
set_option maxRecDepth 10000 in
set_option maxHeartbeats 8000000 in
theorem entry (b : Nat) (A : Option Addr) (n c : Nat) (zs : List Int) (k : Nat) (f : Option (Int × Int)) (o s1 s2 s3 s4 u i m : Int) (k1 : Nat) (f1 : Option (Int × Int)) (k2 : Nat) (f2 : Option (Int × Int)) (k3 : Nat) (f3 : Option (Int × Int)) (k4 : Nat) (f4 : Option (Int × Int)) (k5 : Nat) (f5 : Option (Int × Int)) (w : World) (h : RD b w b A n c zs k f) (hA : 0 < n → ∀ x : Addr, A = some x → x.block < w.heap.size)
    (r1 : RN zs k f 0 63 o k1 f1) (r2 : Sm.Tk zs k1 f1 s1 s2 s3 s4 k2 f2) (r3 : RN zs k2 f2 1 4294967296 u k3 f3) (r4 : RU zs k3 f3 i k4 f4) (r5 : RU zs k4 f4 m k5 f5) :
    Calls Try.prog 87 #[.pointer (some ⟨b, 0, none⟩)] w fun r w' => r = .returned (.agg #[.int .i64 o, .int .i64 (Sm.tz f2 s1), .int .i64 (Sm.tz f2 s2), .int .i64 (Sm.tz f2 s3), .int .i64 (Sm.tz f2 s4), .int .i64 u, .int .u64 i, .int .u64 m]) ∧ RD b w' b A n c zs k5 f5 ∧ Kep (fun i => i = b) w w' := by
  have hbl : b < w.heap.size := by obtain ⟨F, hr, _⟩ := h; exact hr.blk.lt
  have T0 : Tx w (w.alloc (.cells #[.int .i64 0, .int .i64 0, .int .i64 0, .int .i64 0, .int .i64 0, .int .i64 0, .int .u64 0, .int .u64 0] 27)) b w.heap.size A n c zs k f 0 0 0 0 0 0 0 0 :=
    ⟨h.bel ((Bel.refl w).alloc _), Blk.new w _ _, Kep.of_bel ((Bel.refl w).alloc _), hbl, Nat.le_refl _, hA⟩
  have T0 := Lib.hid T0
  have N1 := Lib.hid (fun V (hv : RD b V b A n c zs k f) (hb : b < V.heap.size) => yN b b A n c zs k f 0 63 o k1 f1 V hv r1 (by decide) hb)
  have N2 := Lib.hid (fun V (hv : RD b V b A n c zs k1 f1) (ha : 0 < n → ∀ x : Addr, A = some x → x.block < V.heap.size) => Sm.take b A n c zs k1 f1 s1 s2 s3 s4 k2 f2 V hv ha r2)
  have N3 := Lib.hid (fun V (hv : RD b V b A n c zs k2 f2) (hb : b < V.heap.size) => yN b b A n c zs k2 f2 1 4294967296 u k3 f3 V hv r3 (by decide) hb)
  have N4 := Lib.hid (fun V (hv : RD b V b A n c zs k3 f3) (hb : b < V.heap.size) => yU b b A n c zs k3 f3 i k4 f4 V hv r4 hb)
  have N5 := Lib.hid (fun V (hv : RD b V b A n c zs k4 f4) (hb : b < V.heap.size) => yU b b A n c zs k4 f4 m k5 f5 V hv r5 hb)
  obtain ⟨t1, ht1⟩ : ∃ t, Sm.tz f2 s1 = t := ⟨_, rfl⟩
  obtain ⟨t2, ht2⟩ : ∃ t, Sm.tz f2 s2 = t := ⟨_, rfl⟩
  obtain ⟨t3, ht3⟩ : ∃ t, Sm.tz f2 s3 = t := ⟨_, rfl⟩
  obtain ⟨t4, ht4⟩ : ∃ t, Sm.tz f2 s4 = t := ⟨_, rfl⟩
  rw [ht1, ht2, ht3, ht4] at N2 ⊢
  clear h hA r1 r2 r3 r4 r5 hbl ht1 ht2 ht3 ht4
  go_enter Try.func87, Try.ntmps87
  go_upto_region 1 with fail
  obtain ⟨W, hW⟩ : ∃ W, w.alloc (.cells #[.int .i64 0, .int .i64 0, .int .i64 0, .int .i64 0, .int .i64 0, .int .i64 0, .int .u64 0, .int .u64 0] 27) = W := ⟨_, rfl⟩
  obtain ⟨p, hp⟩ : ∃ p, w.heap.size = p := ⟨_, rfl⟩
  rw [hW, hp] at T0
  rw [hW, hp]
  clear hW hp
  go_wp2_with fail
  refine (N1.out _ T0.out.rd T0.out.lt).mono ?_
  rintro r w2 ⟨rfl, hr, hk⟩
  have T1 := Lib.hid (T0.out.call hr hk)
  clear hr hk T0
  have c0 := T1.out.sp.cell 0 rfl
  have g0 := T1.out.sp.frozen 0
  go_upto_region 2 with fail
  have T2 := Lib.hid (T1.out.put (y1 := o) (y2 := 0) (y3 := 0) (y4 := 0) (y5 := 0) (y6 := 0) (y7 := 0) (y8 := 0) 0 (.int .i64 o) rfl)
  obtain ⟨WT2, hW⟩ : ∃ W, World.setCell w2 ⟨p, 0, none⟩ (.int .i64 o) = W := ⟨_, rfl⟩
  rw [hW] at T2 ⊢
  clear hW T1 c0 g0
  go_wp2_with fail
  refine (N2.out _ T2.out.rd T2.out.al).mono ?_
  rintro r w3 ⟨rfl, hr, hk⟩
  have T3 := Lib.hid (T2.out.call hr hk)
  clear hr hk T2
  have c1 := T3.out.sp.cell 1 rfl
  have g1 := T3.out.sp.frozen 1
  have c2 := T3.out.sp.cell 2 rfl
  have g2 := T3.out.sp.frozen 2
  have c3 := T3.out.sp.cell 3 rfl
  have g3 := T3.out.sp.frozen 3
  have c4 := T3.out.sp.cell 4 rfl
  have g4 := T3.out.sp.frozen 4
  go_upto_region 3 with fail
  have T4 := Lib.hid ((((T3.out.put (y1 := o) (y2 := t1) (y3 := 0) (y4 := 0) (y5 := 0) (y6 := 0) (y7 := 0) (y8 := 0) 1 (.int .i64 t1) rfl).put (y1 := o) (y2 := t1) (y3 := t2) (y4 := 0) (y5 := 0) (y6 := 0) (y7 := 0) (y8 := 0) 2 (.int .i64 t2) rfl).put (y1 := o) (y2 := t1) (y3 := t2) (y4 := t3) (y5 := 0) (y6 := 0) (y7 := 0) (y8 := 0) 3 (.int .i64 t3) rfl).put (y1 := o) (y2 := t1) (y3 := t2) (y4 := t3) (y5 := t4) (y6 := 0) (y7 := 0) (y8 := 0) 4 (.int .i64 t4) rfl)
  obtain ⟨WT4, hW⟩ : ∃ W, World.setCell (World.setCell (World.setCell (World.setCell w3 ⟨p, 1, none⟩ (.int .i64 t1)) ⟨p, 2, none⟩ (.int .i64 t2)) ⟨p, 3, none⟩ (.int .i64 t3)) ⟨p, 4, none⟩ (.int .i64 t4) = W := ⟨_, rfl⟩
  rw [hW] at T4 ⊢
  clear hW T3 c1 g1 c2 g2 c3 g3 c4 g4
  go_wp2_with fail
  refine (N3.out _ T4.out.rd T4.out.lt).mono ?_
  rintro r w4 ⟨rfl, hr, hk⟩
  have T5 := Lib.hid (T4.out.call hr hk)
  clear hr hk T4
  have c5 := T5.out.sp.cell 5 rfl
  have g5 := T5.out.sp.frozen 5
  go_upto_region 4 with fail
  have T6 := Lib.hid (T5.out.put (y1 := o) (y2 := t1) (y3 := t2) (y4 := t3) (y5 := t4) (y6 := u) (y7 := 0) (y8 := 0) 5 (.int .i64 u) rfl)
  obtain ⟨WT6, hW⟩ : ∃ W, World.setCell w4 ⟨p, 5, none⟩ (.int .i64 u) = W := ⟨_, rfl⟩
  rw [hW] at T6 ⊢
  clear hW T5 c5 g5
  go_wp2_with fail
  refine (N4.out _ T6.out.rd T6.out.lt).mono ?_
  rintro r w5 ⟨rfl, hr, hk⟩
  have T7 := Lib.hid (T6.out.call hr hk)
  clear hr hk T6
  have c6 := T7.out.sp.cell 6 rfl
  have g6 := T7.out.sp.frozen 6
  go_upto_region 5 with fail
  have T8 := Lib.hid (T7.out.put (y1 := o) (y2 := t1) (y3 := t2) (y4 := t3) (y5 := t4) (y6 := u) (y7 := i) (y8 := 0) 6 (.int .u64 i) rfl)
  obtain ⟨WT8, hW⟩ : ∃ W, World.setCell w5 ⟨p, 6, none⟩ (.int .u64 i) = W := ⟨_, rfl⟩
  rw [hW] at T8 ⊢
  clear hW T7 c6 g6
  go_wp2_with fail
  refine (N5.out _ T8.out.rd T8.out.lt).mono ?_
  rintro r w6 ⟨rfl, hr, hk⟩
  have T9 := Lib.hid (T8.out.call hr hk)
  clear hr hk T8
  have c7 := T9.out.sp.cell 7 rfl
  have g7 := T9.out.sp.frozen 7
  go_upto_region 6 with fail
  have T10 := Lib.hid (T9.out.put (y1 := o) (y2 := t1) (y3 := t2) (y4 := t3) (y5 := t4) (y6 := u) (y7 := i) (y8 := m) 7 (.int .u64 m) rfl)
  obtain ⟨WT10, hW⟩ : ∃ W, World.setCell w6 ⟨p, 7, none⟩ (.int .u64 m) = W := ⟨_, rfl⟩
  rw [hW] at T10 ⊢
  clear hW T9 c7 g7
  have c0 := T10.out.sp.cell 0 rfl
  have g0 := T10.out.sp.frozen 0
  have c1 := T10.out.sp.cell 1 rfl
  have g1 := T10.out.sp.frozen 1
  have c2 := T10.out.sp.cell 2 rfl
  have g2 := T10.out.sp.frozen 2
  have c3 := T10.out.sp.cell 3 rfl
  have g3 := T10.out.sp.frozen 3
  have c4 := T10.out.sp.cell 4 rfl
  have g4 := T10.out.sp.frozen 4
  have c5 := T10.out.sp.cell 5 rfl
  have g5 := T10.out.sp.frozen 5
  have c6 := T10.out.sp.cell 6 rfl
  have g6 := T10.out.sp.frozen 6
  have c7 := T10.out.sp.cell 7 rfl
  have g7 := T10.out.sp.frozen 7
  have TF := Lib.hid ((((((((T10.out.put (y1 := o) (y2 := t1) (y3 := t2) (y4 := t3) (y5 := t4) (y6 := u) (y7 := i) (y8 := m) 0 (.int .i64 o) rfl).put (y1 := o) (y2 := t1) (y3 := t2) (y4 := t3) (y5 := t4) (y6 := u) (y7 := i) (y8 := m) 1 (.int .i64 t1) rfl).put (y1 := o) (y2 := t1) (y3 := t2) (y4 := t3) (y5 := t4) (y6 := u) (y7 := i) (y8 := m) 2 (.int .i64 t2) rfl).put (y1 := o) (y2 := t1) (y3 := t2) (y4 := t3) (y5 := t4) (y6 := u) (y7 := i) (y8 := m) 3 (.int .i64 t3) rfl).put (y1 := o) (y2 := t1) (y3 := t2) (y4 := t3) (y5 := t4) (y6 := u) (y7 := i) (y8 := m) 4 (.int .i64 t4) rfl).put (y1 := o) (y2 := t1) (y3 := t2) (y4 := t3) (y5 := t4) (y6 := u) (y7 := i) (y8 := m) 5 (.int .i64 u) rfl).put (y1 := o) (y2 := t1) (y3 := t2) (y4 := t3) (y5 := t4) (y6 := u) (y7 := i) (y8 := m) 6 (.int .u64 i) rfl).put (y1 := o) (y2 := t1) (y3 := t2) (y4 := t3) (y5 := t4) (y6 := u) (y7 := i) (y8 := m) 7 (.int .u64 m) rfl)
  go_wp2_with fail
  refine bodyPost_ret (Pm.res_c rfl _ _ ⟨p, 0, none⟩ _ rfl (load_e TF.out.sp)) rfl ⟨rfl, TF.out.rd, TF.out.kep⟩
end Qu
end Go.Proofs.Ytdpompponngmdaa
end

section
/-
  What queue.entries answers of any reader that NewReader made of at most 10^6 bytes.
-/
namespace Go.Proofs.Ytdpompponngmdaa
open Go.RowKit Go.Shelf
set_option linter.unusedVariables false
set_option linter.unusedSimpArgs false
set_option Elab.async false
namespace Qu
open Cd

theorem toK {S : Nat → Prop} {a w : World} (h : Cd.Kep S a w) : Kk.Kep S a w := ⟨h.os, h.tape, h.output, h.size, h.block⟩
theorem ofK {S : Nat → Prop} {a w : World} (h : Kk.Kep S a w) : Cd.Kep S a w := ⟨h.os, h.tape, h.output, h.size, h.block⟩
theorem rd_blk {w : World} {b : Nat} {A : Option Addr} {n c : Nat} {zs : List Int} {k : Nat} {f : Option (Int × Int)} (h : RD b w b A n c zs k f) : ∃ C, Blk w b C 114 := by
  obtain ⟨F, h1, _⟩ := h
  exact ⟨_, h1.blk⟩
theorem kep_grown {w w' : World} {b : Nat} (h : w.grownBy w' (some b)) : Kep (fun i => i = b) w w' :=
  ⟨h.os, h.tape, h.output, h.size, fun i hi hb => h.block i hi (fun e => hb (by injection e))⟩
theorem srt_bef {pre : List E8} {x : E8} : bef 0 (pre ++ [x]) (pre ++ [x]).length = cr x := by
  rw [show (pre ++ [x]).length = pre.length + 1 by simp]
  exact bef_succ (by simp)
/-- What is told of what was read. -/
def lz (f : Option (Int × Int)) (l : List E8) : List E8 := match f with
  | none => l
  | some _ => []
/-- Where one stands behind i rounds of m. -/
def Wh (zs : List Int) (l : List E8) (m i : Nat) (pre : List E8) (kk : Nat) (ff : Option (Int × Int)) (k' : Nat) (f' : Option (Int × Int)) : Prop :=
  (ff = none ∧ ∃ rest, Rl zs (m - i) rest kk (bef 0 pre pre.length) k' f' ∧ (f' = none → l = pre ++ rest)) ∨ (m = 0 ∧ kk = k' ∧ ff = f' ∧ f' ≠ none)
set_option maxRecDepth 100000 in
set_option maxHeartbeats 16000000 in
theorem entries (b : Nat) (A : Option Addr) (n c : Nat) (zs : List Int) (l : List E8) (k' : Nat) (f' : Option (Int × Int)) (w : World) (h : RD b w b A n c zs 0 none) (hA : 0 < n → ∀ x : Addr, A = some x → x.block < w.heap.size) (hr : Rq zs l k' f') :
    Calls Try.prog 66 #[.pointer (some ⟨b, 0, none⟩)] w fun r w' => ∃ v, r = .returned v ∧ OwnE w' w.heap.size v (lz f' l) ∧ RD b w' b A n c zs k' f' ∧ Kep (fun i => i = b) w w' := by
  obtain ⟨m', k0, f0, r0, hw⟩ := hr
  have hbl : b < w.heap.size := by obtain ⟨F, hr, _⟩ := h; exact hr.blk.lt
  obtain ⟨m, hm, rfl⟩ : ∃ m : Nat, m ≤ 32768 ∧ m' = (m : Int) := by
    rcases hw with ⟨p, _, h2, _⟩ | ⟨_, h2, h3, _⟩
    · exact ⟨0, by omega, h2⟩
    · exact ⟨m'.toNat, by omega, by omega⟩
  have HWH := Lib.hid (show Wh zs l m 0 [] k0 f0 k' f' from by
    rcases hw with ⟨p, h1, h2, h3, h4, h5⟩ | ⟨h1, h2, h3, h4⟩
    · exact .inr ⟨by omega, h4.symm, h5.symm, by rw [h5, h1]; simp⟩
    · refine .inl ⟨h1, l, ?_, fun _ => rfl⟩
      rw [Int.toNat_natCast] at h4
      exact h4)
  have N0 := Lib.hid (yN b b A n c zs 0 none 0 32768 (m : Int) k0 f0 w h r0 (by decide) hbl)
  have HA := Lib.hid hA
  have HBL := Lib.hid hbl
  clear h hA r0 hw hbl
  go_enter Try.func66, Try.ntmps66
  go_wp2_with fail
  refine N0.out.mono ?_
  rintro r w1 ⟨rfl, hr, hk⟩
  have R1 := Lib.hid hr
  have K1 := Lib.hid hk
  clear hr hk N0
  go_wp2_with fail
  go_loopw [2, 7] (fun s2 s7 wr => ∃ (i kk : Nat) (ff : Option (Int × Int)) (pre : List E8), s7 = .int .i64 i ∧ i ≤ m ∧ Hid (pre.length = i) ∧ Hid (OwnE wr w.heap.size s2 pre) ∧ Hid (RD b wr b A n c zs kk ff) ∧ Hid (Wh zs l m i pre kk ff k' f') ∧ Hid (Kep (fun j => j = b) w wr)) (fun _ s7 _ => m - (intOf s7).toNat)
  case atStart => exact ⟨0, k0, f0, [], rfl, Nat.zero_le _, Lib.hid rfl, Lib.hid (Rw.OwnR.nil_ _ _ _ _), R1, HWH, K1⟩
  case round =>
    obtain ⟨i, kk, ff, pre, rfl, hi, hpl, ho, hrd, hwh, hkp⟩ := hrel
    by_cases hlt : i < m
    · have hlt3 : (i : Int) < m := by omega
      obtain ⟨hff, rest, hrl, hll⟩ : ff = none ∧ ∃ rest, Rl zs (m - i) rest kk (bef 0 pre pre.length) k' f' ∧ (f' = none → l = pre ++ rest) := by
        rcases hwh.out with h | h
        · exact h
        · omega
      subst hff
      rw [show m - i = (m - (i + 1)) + 1 by omega] at hrl
      obtain ⟨x, k1, f1, ⟨o, a, b', c', d, u, ii, mm, q1, g1, q2, g2, q3, g3, q4, g4, g5, hx, t1, t2, t3, t4, t5, hf1⟩, hww, hor⟩ := hrl
      have HLL := Lib.hid hll
      have HOR := Lib.hid hor
      have HF1 := Lib.hid hf1
      have HWW := Lib.hid hww
      have AT := Lib.hid (rAt b zs kk none wr hrd.out.rs)
      obtain ⟨at_, hat⟩ : ∃ a, atOf kk none = a := ⟨_, rfl⟩
      rw [hat] at AT HF1
      obtain ⟨x1, x2, x3, x4, x5, x6, x7, x8⟩ := x
      have hx' := hx
      injection hx' with e1 e2
      injection e2 with e2 e3
      injection e3 with e3 e4
      injection e4 with e4 e5
      injection e5 with e5 e6
      injection e6 with e6 e7
      injection e7 with e7 e8
      have EN := Lib.hid (entry b A n c zs kk none o a b' c' d u ii mm q1 g1 q2 g2 q3 g3 q4 g4 k1 g5 wr hrd.out (fun hn x hx => Nat.lt_of_lt_of_le (HA.out hn x hx) hkp.out.size) t1 t2 t3 t4 t5)
      rw [← e1, ← e2, ← e3, ← e4, ← e5, ← e6, ← e7, ← e8] at EN
      clear hll hor hf1 hww hwh hx t1 t2 t3 t4 t5 hat e1 e2 e3 e4 e5 e6 e7 e8
      go_wp2_with fail
      refine AT.out.mono ?_
      rintro r w2 ⟨rfl, rfl⟩
      clear AT
      go_wp2_with fail
      refine EN.out.mono ?_
      rintro r w3 ⟨rfl, hr3, hk3⟩
      have R3 := Lib.hid hr3
      have K3 := Lib.hid (hkp.out.trans hk3)
      have O3 := Lib.hid (show OwnE w3 w.heap.size _ _ from ho.out.kep (S := fun i => i = b) (toK hk3) (fun j hj e => by
        subst e
        obtain ⟨C, hC⟩ := rd_blk hrd.out
        exact Rw.own_ne ho.out hC (by decide) hj))
      clear hr3 hk3 EN ho hrd hkp
      go_upto_region 5 with fail
      have X4 := Blk.new w3 #[.int .i64 x1, .int .i64 x2, .int .i64 x3, .int .i64 x4, .int .i64 x5, .int .i64 x6, .int .u64 x7, .int .u64 x8] 27
      have B4 := (Bel.refl w3).alloc (.cells #[.int .i64 x1, .int .i64 x2, .int .i64 x3, .int .i64 x4, .int .i64 x5, .int .i64 x6, .int .u64 x7, .int .u64 x8] 27)
      obtain ⟨w4, hw4⟩ : ∃ w4, w3.alloc (.cells #[.int .i64 x1, .int .i64 x2, .int .i64 x3, .int .i64 x4, .int .i64 x5, .int .i64 x6, .int .u64 x7, .int .u64 x8] 27) = w4 := ⟨_, rfl⟩
      obtain ⟨g, hg⟩ : ∃ g, w3.heap.size = g := ⟨_, rfl⟩
      rw [hw4] at X4 B4 ⊢
      rw [hg] at X4 ⊢
      have HGB := Lib.hid (show g ≠ b from by
        obtain ⟨C, hC⟩ := rd_blk R3.out
        have := hC.lt
        omega)
      have R4_ := Lib.hid (R3.out.bel B4)
      have K4 := Lib.hid (K3.out.trans (Kep.of_bel B4))
      have O4 := Lib.hid (O3.out.bel B4)
      have X4 := Lib.hid X4
      clear hw4 hg B4 R3 K3 O3
      obtain ⟨Ap, cp, rfl, hrp⟩ := Rw.OwnR.slice O4.out
      have FL := Lib.hid (flaw Ap pre.length cp pre x1 x2 x3 x4 x5 x6 x7 x8 w4 hrp (by have := hpl.out; omega))
      obtain ⟨E, hE⟩ : ∃ E, qE (bef 0 pre pre.length) (x1, x2, x3, x4, x5, x6, x7, x8) = E := ⟨_, rfl⟩
      rw [hE] at FL HF1
      have HQE := Lib.hid hE
      clear hE hrp
      have c0 := X4.out.cell 0 rfl
      have c1 := X4.out.cell 1 rfl
      have c2 := X4.out.cell 2 rfl
      have c3 := X4.out.cell 3 rfl
      have c4 := X4.out.cell 4 rfl
      have c5 := X4.out.cell 5 rfl
      have c6 := X4.out.cell 6 rfl
      have c7 := X4.out.cell 7 rfl
      go_wp2_with fail
      refine FL.out.mono ?_
      rintro r w5 ⟨rfl, kb⟩
      have R5 := Lib.hid (R4_.out.bel kb)
      have K5 := Lib.hid (K4.out.trans (Kep.of_bel kb))
      have O5 := Lib.hid (O4.out.bel kb)
      have X5 := Lib.hid (X4.out.bel kb)
      have HB5 := Lib.hid (show b < w5.heap.size from by obtain ⟨C, hC⟩ := rd_blk R5.out; exact hC.lt)
      clear kb FL R4_ K4 O4 X4 c0 c1 c2 c3 c4 c5 c6 c7
      have FA := Lib.hid (yFail b b A n c zs k1 g5 E at_ w5 R5.out HB5.out)
      rw [← HF1.out] at FA
      go_wp2_with fail
      refine FA.out.mono ?_
      rintro r w6 ⟨rfl, hr6, hk6⟩
      have R6 := Lib.hid hr6
      have K6 := Lib.hid (K5.out.trans hk6)
      have O6 := Lib.hid (show OwnE w6 w.heap.size _ _ from O5.out.kep (S := fun i => i = b) (toK hk6) (fun j hj e => by
        subst e
        obtain ⟨C, hC⟩ := rd_blk R5.out
        exact Rw.own_ne O5.out hC (by decide) hj))
      have X6 := Lib.hid (X5.out.kep hk6 HGB.out)
      clear hr6 hk6 FA R5 K5 O5 X5 HB5
      have IF := Lib.hid (isFaulty b A n c zs k1 f1 w6 R6.out)
      cases f1 with
      | some p =>
        have HE := Lib.hid (show k' = k1 ∧ f' = some p from by
          rcases HOR.out with ⟨h, _⟩ | ⟨_, _, _, h1, h2⟩
          · cases h
          · exact ⟨h1, h2⟩)
        go_wp2_with fail
        refine IF.out.mono ?_
        rintro r w7 ⟨rfl, kb⟩
        have R7 := Lib.hid (R6.out.bel kb)
        have K7 := Lib.hid (K6.out.trans (Kep.of_bel kb))
        clear kb IF R6 K6 O6 X6
        go_wp2_with fail
        (try rw [Exit.noGoto_ret])
        go_ret
        refine ⟨_, rfl, ?_, ?_, K7.out⟩
        · rw [HE.out.2]; exact Rw.OwnR.nil_ _ _ _ _
        · rw [HE.out.1, HE.out.2]; exact R7.out
      | none =>
        have HE := Lib.hid (show ∃ t, Rl zs (m - (i + 1)) t k1 (cr (x1, x2, x3, x4, x5, x6, x7, x8)) k' f' ∧ (f' = none → l = (pre ++ [(x1, x2, x3, x4, x5, x6, x7, x8)]) ++ t) from by
          rcases HOR.out with ⟨_, t, h1, h2⟩ | ⟨_, h, _⟩
          · exact ⟨t, h2, fun h => by rw [HLL.out h, h1]; simp⟩
          · cases h)
        go_wp2_with fail
        refine IF.out.mono ?_
        rintro r w7 ⟨rfl, kb⟩
        have R7 := Lib.hid (R6.out.bel kb)
        have K7 := Lib.hid (K6.out.trans (Kep.of_bel kb))
        have O7 := Lib.hid (O6.out.bel kb)
        have X7 := Lib.hid (X6.out.bel kb)
        clear kb IF R6 K6 O6 X6
        have c0 := X7.out.cell 0 rfl
        have c1 := X7.out.cell 1 rfl
        have c2 := X7.out.cell 2 rfl
        have c3 := X7.out.cell 3 rfl
        have c4 := X7.out.cell 4 rfl
        have c5 := X7.out.cell 5 rfl
        have c6 := X7.out.cell 6 rfl
        have c7 := X7.out.cell 7 rfl
        have HX := Lib.hid (Rw.rs_one eR (r := (x1, x2, x3, x4, x5, x6, x7, x8)) (Kk.Blk.new w7 #[.int .i64 x1, .int .i64 x2, .int .i64 x3, .int .i64 x4, .int .i64 x5, .int .i64 x6, .int .u64 x7, .int .u64 x8] 27))
        have B8 := (Bel.refl w7).alloc (.cells #[.int .i64 x1, .int .i64 x2, .int .i64 x3, .int .i64 x4, .int .i64 x5, .int .i64 x6, .int .u64 x7, .int .u64 x8] 27)
        have O8 := Lib.hid (O7.out.bel B8)
        have R8 := Lib.hid (R7.out.bel B8)
        have K8 := Lib.hid (K7.out.trans (Kep.of_bel B8))
        have HPL := Lib.hid hpl.out
        clear B8
        go_wp2_with (at_builtin; refine Rw.append_R eR rfl _ _ _ 27 rfl underE zero_E rfl (by decide) w.heap.size _ pre rfl O8.out (some ⟨w7.heap.size, 0, none⟩) 1 1 [(x1, x2, x3, x4, x5, x6, x7, x8)] rfl HX.out (by have := HPL.out; omega) (by have := K7.out.size; simp; omega) ?_; intro v' w9 hown' hgrow)
        have hgrow : World.grownBy _ w9 (Value.ownBlock (Value.slice Ap pre.length cp)) := hgrow
        have O9 := Lib.hid hown'
        have R9 := Lib.hid (show RD b w9 b A n c zs k1 none from by
          rcases hob : Value.ownBlock (Value.slice Ap pre.length cp) with _ | j
          · rw [hob] at hgrow
            exact R8.out.bel ⟨hgrow.os, hgrow.tape, hgrow.output, hgrow.size, fun i hi => hgrow.block i hi (by simp)⟩
          · rw [hob] at hgrow
            obtain ⟨C, hC⟩ := Rw.own_blk O8.out hob
            have hjb : b ≠ j := fun e => by
              subst e
              obtain ⟨C', hC'⟩ := rd_blk R8.out
              exact Rw.own_ne O8.out hC' (by decide) hob
            refine rd_kep R8.out hC (by decide) (kep_grown hgrow) hjb (fun hn x hx => ?_)
            have h1 := HA.out hn x hx
            have h2 := Rw.own_ge O8.out hob
            omega)
        have K9 := Lib.hid (show Kep (fun j => j = b) w w9 from ⟨hgrow.os.trans K8.out.os, hgrow.tape.trans K8.out.tape, hgrow.output.trans K8.out.output, Nat.le_trans K8.out.size hgrow.size, fun j hj hne => (hgrow.block j (Nat.lt_of_lt_of_le hj K8.out.size) (fun e => by
          have h2 := Rw.own_ge O8.out e.symm
          omega)).trans (K8.out.block j hj hne)⟩)
        have W9_ := Lib.hid (show Wh zs l m (i + 1) (pre ++ [(x1, x2, x3, x4, x5, x6, x7, x8)]) k1 none k' f' from by
          obtain ⟨t, h1, h2⟩ := HE.out
          exact .inl ⟨rfl, t, by rw [srt_bef]; exact h1, h2⟩)
        have L9 := Lib.hid (show (pre ++ [(x1, x2, x3, x4, x5, x6, x7, x8)]).length = i + 1 by simp [HPL.out])
        clear hown' hgrow
        go_wp2_with fail
        go_roundw
        case rel => exact ⟨i + 1, k1, none, pre ++ [(x1, x2, x3, x4, x5, x6, x7, x8)], by go_num, by omega, L9, O9, R9, W9_, K9⟩
        case measure => simp [intOf]; omega
    · obtain rfl : i = m := by omega
      have HE := Lib.hid (show kk = k' ∧ ff = f' ∧ lz f' l = (if f' = none then pre else []) from by
        rcases hwh.out with ⟨h1, rest, h2, h3⟩ | ⟨h1, h2, h3, h4⟩
        · rw [Nat.sub_self] at h2
          obtain ⟨e1, e2, e3⟩ := h2
          subst e1 e2 e3 h1
          exact ⟨rfl, rfl, by rw [if_pos rfl]; show l = pre; rw [h3 rfl]; simp⟩
        · refine ⟨h2, h3, ?_⟩
          cases f' with
          | none => exact absurd rfl h4
          | some p => rfl)
      obtain ⟨hk1, hf1, hlz⟩ := HE.out
      subst hk1 hf1
      have HLZ := Lib.hid hlz
      clear hlz HE
      go_wp2_with fail
      (try rw [Exit.noGoto_ret])
      go_ret
      refine ⟨_, rfl, ?_, hrd.out, hkp.out⟩
      cases ff with
      | none =>
        rw [HLZ.out, if_pos rfl]
        exact ho.out
      | some p =>
        have hp0 : pre = [] := by
          rcases hwh.out with ⟨h1, _⟩ | ⟨h1, _⟩
          · cases h1
          · exact List.length_eq_zero_iff.1 (by have := hpl.out; omega)
        rw [HLZ.out, if_neg (by simp), ← hp0]
        exact ho.out
end Qu
end Go.Proofs.Ytdpompponngmdaa
end

section
/-
  What queue.Read answers. Conditions: at most 10^6 bytes; the bytes are bytes.
-/
namespace Go.Proofs.Ytdpompponngmdaa
open Go.RowKit Go.Shelf
set_option linter.unusedVariables false
set_option linter.unusedSimpArgs false
set_option Elab.async false
namespace Qu
open Cd

theorem res_tc {fn : Func} {p q : Tmp} {tq : TypeId} (h : fn.results = #[.tmp p, .cell q tq]) (tmps : Array Value) (w : World) (c : Addr) (X Y : Value)
    (hp : tmps.getD p undef = X) (hq : tmps.getD q undef = .pointer (some c)) (hY : (loadVar tq c).run Try.prog w = .ok Y w) : (results fn tmps).run Try.prog w = .ok (.tuple #[X, Y]) w := by
  have hp' : tmps[p]?.getD undef = X := by simpa using hp
  have hq' : tmps[q]?.getD undef = .pointer (some c) := by simpa using hq
  simp [results, h, hp', hq', asAddr, hY]
theorem load_flt {w : World} {b : Nat} {a1 a2 : Int} (h : Blk w b #[.int .i64 a1, .int .i64 a2] 60) : (loadVar 60 ⟨b, 0, none⟩).run Try.prog w = .ok (.agg #[.int .i64 a1, .int .i64 a2]) w :=
  Pm.load_b (C := [.int .i64 a1, .int .i64 a2]) h Try.underlying60 rfl (by kernel_rfl)
theorem end_e2 {n k : Nat} {f : Option (Int × Int)} {e1 e2 : Int} (he : endOf n k f = (e1, e2)) (hf : ∀ p, f = some p → p.1 ≠ 0) (h : e1 = 0) : e2 = 0 ∧ f = none ∧ n ≤ k := by
  cases f with
  | none =>
    have h1 : (if k < n then ((4 : Int), (k : Int)) else (0, 0)) = (e1, e2) := he
    by_cases hk : k < n
    · rw [if_pos hk] at h1
      injection h1 with h1 _
      omega
    · rw [if_neg hk] at h1
      injection h1 with _ h1
      exact ⟨h1.symm, rfl, by omega⟩
  | some p =>
    have h1 : p = (e1, e2) := he
    exact absurd h (by have := hf p rfl; rw [h1] at this; exact this)
/-- The fault of what was read. -/
def rdE (e : Int × Int) (l : List E8) : Int × Int := if e.1 ≠ 0 then e else if 4611686018427387904 < tot l then (12, 0) else (0, 0)
def rdL (e : Int × Int) (l : List E8) : List E8 := if (rdE e l).1 = 0 then l else []
set_option maxRecDepth 100000 in
set_option maxHeartbeats 8000000 in
theorem read_ (A : Option Addr) (n c : Nat) (zs : List Int) (l : List E8) (k' : Nat) (f' : Option (Int × Int)) (e1 e2 : Int) (w : World) (hs : Sl w A n c zs) (hn : n ≤ 1000000) (hb : Bytes zs)
    (hr : Rq zs l k' f') (hl : l.length ≤ 32768) (hw : Wd l) (he : endOf zs.length k' f' = (e1, e2)) :
    Calls Try.prog 38 #[.slice A n c] w fun r w' => ∃ v, r = .returned (.tuple #[v, .agg #[.int .i64 (rdE (e1, e2) l).1, .int .i64 (rdE (e1, e2) l).2]]) ∧ OwnE w' w.heap.size v (rdL (e1, e2) l) ∧ Bel w w' := by
  have HS := Lib.hid hs
  have HB := Lib.hid hb
  have HR := Lib.hid hr
  have HL := Lib.hid hl
  have HWD := Lib.hid hw
  have HE := Lib.hid he
  have HN := Lib.hid hn
  clear hs hb hr hl hw he hn
  have Q0 := Blk.new w #[.int .i64 0, .int .i64 0] 60
  have B0 := (Bel.refl w).alloc (.cells #[.int .i64 0, .int .i64 0] 60)
  obtain ⟨W, hW⟩ : ∃ W, w.alloc (.cells #[.int .i64 0, .int .i64 0] 60) = W := ⟨_, rfl⟩
  obtain ⟨q, hq⟩ : ∃ q, w.heap.size = q := ⟨_, rfl⟩
  rw [hW, hq] at Q0
  rw [hW] at B0
  have Q0 := Lib.hid Q0
  have B0 := Lib.hid B0
  have HW := Lib.hid hW
  have HQ := Lib.hid hq
  clear hW hq
  go_enter Try.func38, Try.ntmps38
  go_upto_region 1 with fail
  rw [HW.out, HQ.out]
  go_wp2_with fail
  refine (newReader A n c zs W (HS.out.bel B0.out) HN.out HB.out).mono ?_
  rintro r w1 ⟨b, A', c', rfl, hbb, hr, hA, kb⟩
  have Q1 := Lib.hid (Q0.out.bel kb)
  have K1 := Lib.hid (B0.out.trans kb)
  have HBQ := Lib.hid (show q < b from Nat.lt_of_lt_of_le Q0.out.lt hbb)
  have HSB := Lib.hid (show w.heap.size ≤ b from Nat.le_trans (Below.size B0.out) hbb)
  have R1 := Lib.hid (show RD b w1 b A' n c' zs 0 none from ⟨none, hr, .inl ⟨rfl, rfl⟩, fun x hx => by cases hx⟩)
  have HA1 := Lib.hid (fun (hn : 0 < n) (x : Addr) (hx : A' = some x) => show x.block < w1.heap.size from by
    obtain ⟨b', o', e, hlt, _⟩ := hr.sl.ints.cell (i := 0) hn
    rw [e] at hx; injection hx with hx; subst hx; exact hlt)
  clear hbb hr hA kb
  have NN := Lib.hid (entries b A' n c' zs l k' f' w1 R1.out HA1.out HR.out)
  go_wp2_with fail
  refine NN.out.mono ?_
  rintro r w2 ⟨v2, rfl, ho, hrd, hkp⟩
  have Q3 := Lib.hid (Q1.out.kep hkp (by have := HBQ.out; omega))
  have K3 := Lib.hid (show Bel w w2 from Kep.bel K1.out hkp (fun i hi => by rw [hi]; exact HSB.out))
  have EN := Lib.hid (rEnd b zs k' f' w2 hrd.rs)
  rw [HE.out] at EN
  have EN := Lib.hid (show Calls Try.prog 67 #[.pointer (some ⟨b, 0, none⟩)] w2 fun e w' => e = .returned (.agg #[.int .i64 e1, .int .i64 e2]) ∧ Bel w2 w' from EN.out)
  have HFP := Lib.hid (fun p (hp : f' = some p) => Sm.flt_ne (by rw [hp] at hrd; exact hrd))
  have O3 := Lib.hid (show OwnE w2 w.heap.size v2 (lz f' l) from ho.mono (Below.size K1.out))
  clear hkp ho hrd NN R1 Q1 K1
  go_wp2_with fail
  refine EN.out.mono ?_
  rintro r w4 ⟨rfl, kb⟩
  have Q4 := Lib.hid (Q3.out.bel kb)
  have K4 := Lib.hid (K3.out.trans kb)
  have O4 := Lib.hid (O3.out.bel kb)
  clear kb EN Q3 K3 O3
  have T0 := Blk.new w4 #[.int .i64 e1, .int .i64 e2] 60
  have TB := (Bel.refl w4).alloc (.cells #[.int .i64 e1, .int .i64 e2] 60)
  go_upto_region 4 with fail
  obtain ⟨W5, hW⟩ : ∃ W, w4.alloc (.cells #[.int .i64 e1, .int .i64 e2] 60) = W := ⟨_, rfl⟩
  obtain ⟨u, hu⟩ : ∃ u, w4.heap.size = u := ⟨_, rfl⟩
  rw [hW] at T0 TB ⊢
  rw [hu] at T0 ⊢
  have T5 := Lib.hid T0
  have Q5 := Lib.hid (Q4.out.bel TB)
  have K5 := Lib.hid (K4.out.trans TB)
  have O5 := Lib.hid (O4.out.bel TB)
  have LU := Lib.hid (show q < u by rw [← hu]; exact Q4.out.lt)
  clear hW hu T0 TB Q4 K4 O4
  have hqu : q ≠ u := by have := LU.out; omega
  have t0 := T5.out.cell 0 rfl
  have t1 := T5.out.cell 1 rfl
  have q0 := Q5.out.cell 0 rfl
  have q1 := Q5.out.cell 1 rfl
  have fq0 := Q5.out.frozen 0
  have fq1 := Q5.out.frozen 1
  have HLQ := Lib.hid (show w.heap.size ≤ q by rw [HQ.out]; exact Nat.le_refl _)
  by_cases h0 : e1 = 0
  · obtain ⟨h2, h3, -⟩ := end_e2 HE.out HFP.out h0
    subst h2 h3
    subst h0
    have O5 := Lib.hid (show OwnE W5 w.heap.size v2 l from O5.out)
    obtain ⟨Av, cv, rfl, hrs⟩ := Rw.OwnR.slice O5.out
    have BA := Lib.hid (balances Av l.length cv l W5 hrs (by have := HL.out; omega) HWD.out)
    have HG := Lib.hid (show (4611686018427387904 < cap (tot l)) ↔ 4611686018427387904 < tot l from cap_big)
    obtain ⟨C, hC⟩ : ∃ C, cap (tot l) = C := ⟨_, rfl⟩
    rw [hC] at BA HG
    clear hrs hC t0 t1 q0 q1 fq0 fq1
    have t0 := T5.out.cell 0 rfl
    go_wp2_with fail
    refine BA.out.mono ?_
    rintro r w6 ⟨rfl, kb⟩
    have Q6 := Lib.hid (Q5.out.bel kb)
    have K6 := Lib.hid (K5.out.trans kb)
    have O6 := Lib.hid (O5.out.bel kb)
    clear kb BA t0
    have q0 := Q6.out.cell 0 rfl
    have q1 := Q6.out.cell 1 rfl
    have fq0 := Q6.out.frozen 0
    have fq1 := Q6.out.frozen 1
    by_cases hov : 4611686018427387904 < C
    · have HE1 := Lib.hid (show rdE (0, 0) l = (12, 0) from by unfold rdE; rw [if_neg (by simp), if_pos (HG.out.1 hov)])
      go_wp2_with fail
      have QF := ((Q6.out.set 0 (.int .i64 12)).set 1 (.int .i64 0))
      refine bodyPost_ret (res_tc rfl _ _ ⟨q, 0, none⟩ _ _ rfl rfl (load_flt QF)) rfl ⟨_, by rw [HE1.out], ?_, (K6.out.set HLQ.out _).set HLQ.out _⟩
      unfold rdL
      rw [HE1.out, if_neg (by decide)]
      exact Rw.OwnR.nil_ _ _ _ _
    · have HE1 := Lib.hid (show rdE (0, 0) l = (0, 0) from by unfold rdE; rw [if_neg (by simp), if_neg (fun h => hov (HG.out.2 h))])
      have OF := Lib.hid (show OwnE ((w6.setCell ⟨q, 0, none⟩ (.int .i64 0)).setCell ⟨q, 1, none⟩ (.int .i64 0)) w.heap.size _ l from O6.out.kep (((Kk.Kep.refl (fun j => j = q) w6).set_self 0 _).set_self 1 _) (fun j hj e => by
        subst e
        exact Rw.own_ne O6.out Q6.out (by decide) hj))
      go_wp2_with fail
      have QF := ((Q6.out.set 0 (.int .i64 0)).set 1 (.int .i64 0))
      refine bodyPost_ret (res_tc rfl _ _ ⟨q, 0, none⟩ _ _ rfl rfl (load_flt QF)) rfl ⟨_, by rw [HE1.out], ?_, (K6.out.set HLQ.out _).set HLQ.out _⟩
      unfold rdL
      rw [HE1.out, if_pos rfl]
      exact OF.out
  · have h1 : (e1 != 0) = true := by rw [bne_iff_ne]; exact h0
    have H0 := Lib.hid h0
    have HE1 := Lib.hid (show rdE (e1, e2) l = (e1, e2) from if_pos h0)
    clear h0
    go_wp2_with fail
    go_region
    all_goals
      go_wp2_with fail
      have QF := ((Q5.out.set 0 (.int .i64 e1)).set 1 (.int .i64 e2)).bel (Bel.refl _).drew
      refine bodyPost_ret (res_tc rfl _ _ ⟨q, 0, none⟩ _ _ rfl rfl (load_flt QF)) rfl ⟨_, by rw [HE1.out], ?_, ((K5.out.set HLQ.out _).set HLQ.out _).drew⟩
      unfold rdL
      rw [HE1.out, if_neg H0.out]
      exact Rw.OwnR.nil_ _ _ _ _
end Qu
end Go.Proofs.Ytdpompponngmdaa
end

section
/-
  A queue's own bytes are read as it; closed readings; what ripe and adds of the laws answer. No condition.
-/
namespace Go.Proofs.Ytdpompponngmdaa
open Go.RowKit Go.Shelf
set_option linter.unusedVariables false
set_option linter.unusedSimpArgs false
set_option Elab.async false
namespace Qu
open Cd

theorem tk_enc (pre post : List Int) (a b c d : Int) (a0 : 0 ≤ a) (a1 : a ≤ 31) (b0 : 1 ≤ b) (b1 : b ≤ 4294967296) (c0 : -1 ≤ c) (c1 : c ≤ 31) (d0 : 0 ≤ d) (d1 : d ≤ 4294967296) :
    Sm.Tk (pre ++ Sm.enc4 a b c d ++ post) pre.length none a b c d (pre.length + (Sm.enc4 a b c d).length) (failOf none (Sm.ck a b c d) pre.length) := by
  have h1 := Rm.rn_enc pre (enc b ++ enc (c + 1) ++ enc d ++ post) a 0 31 a0 (by omega) a0 a1
  have h2 := Rm.rn_enc (pre ++ enc a) (enc (c + 1) ++ enc d ++ post) b 1 4294967296 (by omega) (by omega) b0 b1
  have h3 := Rm.rn_enc (pre ++ enc a ++ enc b) (enc d ++ post) (c + 1) 0 32 (by omega) (by omega) (by omega) (by omega)
  have h4 := Rm.rn_enc (pre ++ enc a ++ enc b ++ enc (c + 1)) post d 0 4294967296 d0 (by omega) d0 d1
  have e : pre ++ Sm.enc4 a b c d ++ post = pre ++ enc a ++ enc b ++ enc (c + 1) ++ enc d ++ post := by unfold Sm.enc4; simp only [List.append_assoc]
  rw [e]
  refine ⟨pre.length + (enc a).length, none, pre.length + (enc a).length + (enc b).length, none, pre.length + (enc a).length + (enc b).length + (enc (c + 1)).length, none, c + 1, none, ?_, ?_, ?_, ?_, by omega, by omega, by omega, rfl⟩
  · simpa only [List.append_assoc] using h1
  · simpa only [List.append_assoc, List.length_append, Nat.add_assoc] using h2
  · simpa only [List.append_assoc, List.length_append, Nat.add_assoc] using h3
  · have := h4
    simp only [List.append_assoc, List.length_append, Nat.add_assoc] at this ⊢
    unfold Sm.enc4
    simpa only [List.append_assoc, List.length_append, Nat.add_assoc] using this
theorem sl_lit (w : World) (zs : List Int) : Sl (w.alloc (.cells (zs.map (Value.int .u8)).toArray 5)) (some ⟨w.heap.size, 0, none⟩) zs.length zs.length zs := by
  refine ⟨⟨rfl, fun hn => ⟨w.heap.size, 0, rfl, by simp, fun i hi => ?_⟩⟩, Nat.le_refl _, fun h => by cases h⟩
  rw [Nat.zero_add, World.cell?_alloc_new, List.getElem?_toArray, List.getElem?_map, List.getElem?_eq_getElem hi, Kk.getD_eq _ _ hi]
  rfl
theorem way_one {zs : List Int} {k : Nat} {z : Int} (hz : zs.getD k 0 = z) (hk : k < zs.length) (h0 : 0 ≤ z) (h1 : z < 128) : Cd.Way zs k z ((k + 1 : Nat) : Int) 0 0 := by
  refine .inr (.inr ⟨k, 0, rfl, by decide, hk, fun i hi => absurd hi (by omega), by rw [Nat.add_zero, hz]; exact h1, fun h => absurd h (by omega), fun h => absurd h (by omega), (Rm.val_one zs k hz h0 h1).symm, by push_cast; omega, rfl, rfl⟩)
theorem rn_ok {zs : List Int} {k : Nat} {z least most : Int} (hz : zs.getD k 0 = z) (hk : k < zs.length) (h0 : 0 ≤ z) (h1 : z < 128) (hl : least ≤ z) (hm : z ≤ most) : Cd.RN zs k none least most z (k + 1) none :=
  .inr ⟨rfl, ((k + 1 : Nat) : Int), 0, 0, ⟨z, _, 0, 0, way_one hz hk h0 h1, h0, by omega, .inr (.inr ⟨rfl, hl, hm, rfl, rfl, rfl, rfl⟩)⟩, .inl ⟨rfl, rfl, rfl⟩, by omega, fun h => absurd rfl h⟩
theorem rn_no {zs : List Int} {k : Nat} {z least most : Int} (hz : zs.getD k 0 = z) (hk : k < zs.length) (h0 : 0 ≤ z) (h1 : z < 128) (hb : z < least ∨ most < z) : Cd.RN zs k none least most 0 k (some (3, (k : Int))) :=
  .inr ⟨rfl, 0, 3, (k : Int), ⟨z, _, 0, 0, way_one hz hk h0 h1, h0, by omega, .inr (.inl ⟨rfl, hb, rfl, rfl, rfl, rfl⟩)⟩, .inr ⟨by decide, rfl, rfl⟩, by omega, fun _ => rfl⟩
theorem ru_ok {zs : List Int} {k : Nat} {z : Int} (hz : zs.getD k 0 = z) (hk : k < zs.length) (h0 : 0 ≤ z) (h1 : z < 128) : Cd.RU zs k none z (k + 1) none :=
  .inr ⟨rfl, ((k + 1 : Nat) : Int), 0, 0, way_one hz hk h0 h1, .inl ⟨rfl, rfl, rfl⟩, by omega, fun h => absurd rfl h⟩
theorem te_enc (pre post : List Int) (x : E8) (bf : Int) (h : may x = true) (hb : bf ≤ cr x) (hw : Ww x) : Te (pre ++ Rm.encs (nums x) ++ post) pre.length none bf x (pre.length + (Rm.encs (nums x)).length) none := by
  obtain ⟨o, a, b, c, d, u, i, n⟩ := x
  have hq := qE_mk h hb
  obtain ⟨h1, h2, h3, h4, h5, h6⟩ := (may_iff o a b c d u i n).1 h
  obtain ⟨⟨i0, i1⟩, n0, n1⟩ := hw
  have i0 : 0 ≤ i := i0
  have i1 : i ≤ 18446744073709551615 := i1
  have n0 : 0 ≤ n := n0
  have n1 : n ≤ 18446744073709551615 := n1
  obtain ⟨a0, a1, b0, b1, c0, c1, d0, d1, -, -, -⟩ := Sm.ck_ok h2
  have e : Rm.encs (nums (o, a, b, c, d, u, i, n)) = enc o ++ (Sm.enc4 a b c d ++ (enc u ++ (enc i ++ enc n))) := by simp [nums, Rm.encs, Sm.enc4, List.append_assoc]
  have r1 := Rm.rn_enc pre (Sm.enc4 a b c d ++ (enc u ++ (enc i ++ (enc n ++ post)))) o 0 63 h1.1 (by omega) h1.1 (by omega)
  have r2 := tk_enc (pre ++ enc o) (enc u ++ (enc i ++ (enc n ++ post))) a b c d a0 a1 b0 b1 c0 c1 d0 d1
  rw [h2, fail_no rfl] at r2
  have r3 := Rm.rn_enc (pre ++ enc o ++ Sm.enc4 a b c d) (enc i ++ (enc n ++ post)) u 1 4294967296 (by omega) (by omega) h3.1 h3.2
  have r4 := Rm.ru_enc (pre ++ enc o ++ Sm.enc4 a b c d ++ enc u) (enc n ++ post) i i0 i1
  have r5 := Rm.ru_enc (pre ++ enc o ++ Sm.enc4 a b c d ++ enc u ++ enc i) post n n0 n1
  rw [e]
  simp only [List.append_assoc, List.length_append] at r1 r2 r3 r4 r5 ⊢
  refine ⟨o, a, b, c, d, u, i, n, pre.length + (enc o).length, none, pre.length + (enc o).length + (Sm.enc4 a b c d).length, none, pre.length + (enc o).length + (Sm.enc4 a b c d).length + (enc u).length, none, pre.length + (enc o).length + (Sm.enc4 a b c d).length + (enc u).length + (enc i).length, none, none, rfl, r1, ?_, ?_, ?_, ?_, (fail_no hq).symm⟩
  · simpa [Nat.add_assoc] using r2
  · simpa [Nat.add_assoc] using r3
  · simpa [Nat.add_assoc] using r4
  · simpa [Nat.add_assoc] using r5
theorem rl_enc : ∀ (l : List E8) (pre post : List Int) (bf : Int), Srt bf l → (∀ r ∈ l, Ww r) → Rl (pre ++ Rm.encs (l.flatMap nums) ++ post) l.length l pre.length bf (pre.length + (Rm.encs (l.flatMap nums)).length) none
  | [], pre, post, bf, _, _ => ⟨rfl, by simp [Rm.encs], rfl⟩
  | x :: l, pre, post, bf, hs, hw => by
    have h1 := te_enc pre (Rm.encs (l.flatMap nums) ++ post) x bf hs.1 hs.2.1 (hw x (List.mem_cons_self ..))
    have h2 := rl_enc l (pre ++ Rm.encs (nums x)) post (cr x) hs.2.2 (fun r hr => hw r (List.mem_cons_of_mem _ hr))
    rw [List.flatMap_cons, Rm.encs_app]
    simp only [List.append_assoc, List.length_append, Nat.add_assoc] at h1 h2 ⊢
    exact ⟨x, _, none, h1, hw x (List.mem_cons_self ..), .inl ⟨rfl, l, rfl, h2⟩⟩
/-- A queue's own bytes are read as it. -/
theorem rq_enc {l : List E8} (hl : l.length ≤ 32768) (hs : Srt 0 l) (hw : ∀ r ∈ l, Ww r) : Rq (encL l) l (encL l).length none := by
  have r0 := Rm.rn_enc [] (Rm.encs (l.flatMap nums)) (l.length : Int) 0 32768 (by omega) (by omega) (by omega) (by omega)
  have r1 := rl_enc l (enc (l.length : Int)) [] 0 hs hw
  simp only [List.nil_append, List.append_nil, List.length_nil, Nat.zero_add] at r0 r1
  unfold encL
  rw [Rm.encs_cons, List.length_append]
  exact ⟨(l.length : Int), _, none, r0, .inr ⟨rfl, by omega, by omega, r1⟩⟩
def B1 : List Int := [1, 0, 2, 5, 0, 0, 4, 1, 1]
def B2 : List Int := [1, 64]
theorem rq_1 : Rq B1 [] 9 (some (9, 1)) :=
  ⟨1, 1, none, rn_ok (zs := B1) (k := 0) rfl (by decide) (by decide) (by decide) (by decide) (by decide), .inr ⟨rfl, by decide, by decide, (0, 2, 5, -1, 0, 4, 1, 1), 9, some (9, 1),
    ⟨0, 2, 5, -1, 0, 4, 1, 1, 2, none, 6, none, 7, none, 8, none, none, rfl, rn_ok (zs := B1) (k := 1) rfl (by decide) (by decide) (by decide) (by decide) (by decide),
      ⟨3, none, 4, none, 5, none, 0, none, rn_ok (zs := B1) (k := 2) rfl (by decide) (by decide) (by decide) (by decide) (by decide), rn_ok (zs := B1) (k := 3) rfl (by decide) (by decide) (by decide) (by decide) (by decide), rn_ok (zs := B1) (k := 4) rfl (by decide) (by decide) (by decide) (by decide) (by decide), rn_ok (zs := B1) (k := 5) rfl (by decide) (by decide) (by decide) (by decide) (by decide), rfl, by decide, by decide, by decide⟩,
      rn_ok (zs := B1) (k := 6) rfl (by decide) (by decide) (by decide) (by decide) (by decide), ru_ok (zs := B1) (k := 7) rfl (by decide) (by decide) (by decide), ru_ok (zs := B1) (k := 8) rfl (by decide) (by decide) (by decide), by decide⟩,
    ⟨⟨by decide, by decide⟩, by decide, by decide⟩, .inr ⟨_, rfl, rfl, rfl, rfl⟩⟩⟩
theorem rq_2 : Rq B2 [] 1 (some (3, 1)) :=
  ⟨1, 1, none, rn_ok (zs := B2) (k := 0) rfl (by decide) (by decide) (by decide) (by decide) (by decide), .inr ⟨rfl, by decide, by decide, (0, 0, 0, 0, 0, 0, 0, 0), 1, some (3, 1),
    ⟨0, 0, 0, -1, 0, 0, 0, 0, 1, some (3, 1), 1, some (3, 1), 1, some (3, 1), 1, some (3, 1), some (3, 1), rfl, rn_no (zs := B2) (k := 1) (z := 64) rfl (by decide) (by decide) (by decide) (.inr (by decide)),
      tk_fault B2 1 (3, 1), .inl ⟨_, rfl, rfl, rfl, rfl⟩, .inl ⟨_, rfl, rfl, rfl, rfl⟩, .inl ⟨_, rfl, rfl, rfl, rfl⟩, by decide⟩,
    ⟨⟨by decide, by decide⟩, by decide, by decide⟩, .inr ⟨_, rfl, rfl, rfl, rfl⟩⟩⟩
set_option maxHeartbeats 2000000 in
theorem ripe_ok (A : Option Addr) (n c : Nat) (l : List E8) (h u : Int) (a b : Nat) (w : World) (hi : Rw.RS eR w A n c l) (hn : n ≤ 1000000) (hw : Wd l) (hE : ripE l h u = 0) (ha : (ripL l h u).length = a) (hb : (lftL l h u).length = b) (hab : a + b = n) :
    Calls Try.prog 32 #[.slice A n c, .int .i64 h, .int .i64 u] w fun e w' => e = .returned (.int .i64 a) ∧ Bel w w' := by
  have RP := Lib.hid (ripe A n c l h u w hi hn hw)
  have HA := Lib.hid ha
  have HB := Lib.hid hb
  have HE := Lib.hid hE
  have hsum : IntKind.i64.wrap ((a : Int) + b) = (n : Int) := by rw [IntWalk.i64_in _ (by omega)]; omega
  clear hi hw hE ha hb
  go_enter Try.func32, Try.ntmps32
  go_wp2_with fail
  refine RP.out.mono ?_
  rintro e w1 ⟨A1, n1, c1, A2, n2, c2, rfl, hh, kb⟩
  have e1 : n1 = a := by rw [← hh.r1.len]; exact HA.out
  have e2 : n2 = b := by rw [← hh.r2.len]; exact HB.out
  subst e1 e2
  have K1 := Lib.hid kb
  rw [HE.out]
  clear kb hh RP
  go_wp2_with fail
  go_ret
  exact ⟨rfl, K1.out⟩
set_option maxHeartbeats 2000000 in
theorem ripe_no (A : Option Addr) (n c : Nat) (l : List E8) (h u E : Int) (w : World) (hi : Rw.RS eR w A n c l) (hn : n ≤ 1000000) (hw : Wd l) (hE : ripE l h u = E) (h0 : E ≠ 0) (h1 : -1000 ≤ E ∧ E ≤ 1000) :
    Calls Try.prog 32 #[.slice A n c, .int .i64 h, .int .i64 u] w fun e w' => e = .returned (.int .i64 (-E)) ∧ Bel w w' := by
  have RP := Lib.hid (ripe A n c l h u w hi hn hw)
  have HE := Lib.hid hE
  have hne : (E != 0) = true := by rw [bne_iff_ne]; exact h0
  have hwr : IntKind.i64.wrap (-E) = -E := IntWalk.i64_in _ (by omega)
  clear hi hw hE h0
  go_enter Try.func32, Try.ntmps32
  go_wp2_with fail
  refine RP.out.mono ?_
  rintro e w1 ⟨A1, n1, c1, A2, n2, c2, rfl, hh, kb⟩
  have K1 := Lib.hid kb
  rw [HE.out]
  clear kb hh RP
  go_wp2_with fail
  go_ret
  exact ⟨rfl, K1.out⟩
set_option maxRecDepth 100000 in
set_option maxHeartbeats 4000000 in
theorem adds_ (x1 x2 x3 x4 x5 x6 x7 x8 m E : Int) (w : World) (hx : 0 ≤ x8 ∧ x8 ≤ 18446744073709551615) (hE : addE C3 (x1, x2, x3, x4, x5, x6, x7, x8) m = E) :
    Calls Try.prog 35 #[.agg #[.int .i64 x1, .int .i64 x2, .int .i64 x3, .int .i64 x4, .int .i64 x5, .int .i64 x6, .int .u64 x7, .int .u64 x8], .int .i64 m] w fun e w' => e = .returned (.int .i64 E) ∧ Bel w w' := by
  have P0 := Lib.hid (Blk.new w #[.int .i64 x1, .int .i64 x2, .int .i64 x3, .int .i64 x4, .int .i64 x5, .int .i64 x6, .int .u64 x7, .int .u64 x8] 27)
  obtain ⟨W, hW⟩ : ∃ W, w.alloc (.cells #[.int .i64 x1, .int .i64 x2, .int .i64 x3, .int .i64 x4, .int .i64 x5, .int .i64 x6, .int .u64 x7, .int .u64 x8] 27) = W := ⟨_, rfl⟩
  have BW := Lib.hid (show Bel w W by rw [← hW]; exact (Bel.refl w).alloc _)
  rw [hW] at P0
  have HX := Lib.hid hx
  have AD := Lib.hid (fun A c V (hr : Rw.RS eR V A 3 c C3) => show Calls Try.prog 12 #[.slice A 3 c, .agg #[.int .i64 x1, .int .i64 x2, .int .i64 x3, .int .i64 x4, .int .i64 x5, .int .i64 x6, .int .u64 x7, .int .u64 x8], .int .i64 m] V fun e w' => ∃ y, e = .returned (.tuple #[y, .int .i64 E]) ∧ Bel V w' from by
    refine (add A 3 c C3 x1 x2 x3 x4 x5 x6 x7 x8 m V hr (by decide) wd3 HX.out).mono ?_
    rintro e w' ⟨y, rfl, _, kb⟩
    exact ⟨y, by rw [hE], kb⟩)
  clear hx hE
  go_enter Try.func35, Try.ntmps35
  go_upto_region 1 with fail
  try rw [hW]
  obtain ⟨g, hg⟩ : ∃ g, w.heap.size = g := ⟨_, rfl⟩
  rw [hg] at P0 ⊢
  clear hW hg
  refine wp_region_held_drew (S := fun Vx => Bel W Vx) (by kernel_rfl) (Bel.refl _).drew (fun hS0 => ?_)
  obtain ⟨w6, hw6⟩ : ∃ w6, World.drew W = w6 := ⟨_, rfl⟩
  rw [hw6] at hS0 ⊢
  clear hw6
  refine wpAnyH_take (i := 1) (oi := { dst := some 9, op := .load 27 (.tmp 2), type := 27, pos := "outright.go:73", after := #[], guard := none }) (v := .agg #[.int .i64 x1, .int .i64 x2, .int .i64 x3, .int .i64 x4, .int .i64 x5, .int .i64 x6, .int .u64 x7, .int .u64 x8]) rfl (by kernel_rfl) (by kernel_rfl) (by kernel_rfl) (fun _ _ _ h => h) (yieldsIf_load_mid (by rfl) _ _ rfl _ _ rfl _ _ (fun w h => Pm.rng_bel (Pm.rngB (C := [.int .i64 x1, .int .i64 x2, .int .i64 x3, .int .i64 x4, .int .i64 x5, .int .i64 x6, .int .u64 x7, .int .u64 x8]) P0.out) h) Try.underlying27 rfl info_E) hS0 ?_
  try simp only [Act.put, List.setIfInBounds_toArray, List.set_cons_zero, List.set_cons_succ]
  refine wpAnyH_take (i := 2) (oi := { dst := some 10, op := .move (.tmp 1), type := 3, pos := "outright.go:73", after := #[], guard := none }) (v := .int .i64 m) rfl (by kernel_rfl) (by kernel_rfl) (by kernel_rfl) (fun _ _ _ h => h) (Or.inl ⟨by rfl, by intro w hSw; clear hSw; go_simp⟩) hS0 ?_
  try simp only [Act.put, List.setIfInBounds_toArray, List.set_cons_zero, List.set_cons_succ]
  refine wpAnyH_ready (rs := [0]) (by kernel_rfl) (by simp) ?_
  refine AllReadyH.cons (o := { dst := some 8, op := .call { callee := .value (.func 30), args := #[], argTypes := #[] }, type := 22, pos := "outright.go:73", after := #[], guard := none }) rfl (fun K hK => ?_) AllReadyH.nil
  go_simp
  refine (chapter_ _).mono ?_
  rintro e v1 ⟨A0, c0, rfl, hr0, kb⟩
  go_wp2_with fail
  refine hK.out _ _ (hS0.trans kb) (fun hS1 => ?_)
  clear hK K
  try simp only [Act.put, List.setIfInBounds_toArray, List.set_cons_zero, List.set_cons_succ]
  refine wpAnyH_ready (rs := [3]) (by kernel_rfl) (by simp) ?_
  refine AllReadyH.cons (o := { dst := some 11, op := .call { callee := .value (.func 12), args := #[.tmp 8, .tmp 9, .tmp 10], argTypes := #[22, 27, 3] }, type := 31, pos := "outright.go:73", after := #[{ on := 0, ground := .data }, { on := 1, ground := .data }, { on := 2, ground := .data }, { on := 0, ground := .chain }], guard := none }) rfl (fun K hK => ?_) AllReadyH.nil
  go_simp
  refine (AD.out A0 c0 _ hr0).mono ?_
  rintro e v2 ⟨y0, rfl, kb⟩
  go_wp2_with fail
  refine hK.out _ _ (hS1.trans kb) (fun hS2 => ?_)
  clear hK K
  try simp only [Act.put, List.setIfInBounds_toArray, List.set_cons_zero, List.set_cons_succ]
  refine wpAnyH_take (i := 4) (oi := { dst := some 7, op := .move (.tmp 11), type := 31, pos := "outright.go:73", after := #[{ on := 3, ground := .data }], guard := none }) (v := .tuple #[y0, .int .i64 E]) rfl (by kernel_rfl) (by kernel_rfl) (by kernel_rfl) (fun _ _ _ h => h) (Or.inl ⟨by rfl, by intro w hSw; clear hSw; go_simp⟩) hS2 ?_
  try simp only [Act.put, List.setIfInBounds_toArray, List.set_cons_zero, List.set_cons_succ]
  refine wpAnyH_take (i := 5) (oi := { dst := some 12, op := .extract (.tmp 7) 0, type := 22, pos := "outright.go:73", after := #[{ on := 4, ground := .data }], guard := none }) (v := y0) rfl (by kernel_rfl) (by kernel_rfl) (by kernel_rfl) (fun _ _ _ h => h) (Or.inl ⟨by rfl, by intro w hSw; clear hSw; go_simp⟩) hS2 ?_
  try simp only [Act.put, List.setIfInBounds_toArray, List.set_cons_zero, List.set_cons_succ]
  refine wpAnyH_take (i := 6) (oi := { dst := some 13, op := .extract (.tmp 7) 1, type := 30, pos := "outright.go:73", after := #[{ on := 4, ground := .data }, { on := 7, ground := .gcOnly .lateStores }], guard := none }) (v := .int .i64 E) rfl (by kernel_rfl) (by kernel_rfl) (by kernel_rfl) (fun _ _ _ h => h) (Or.inl ⟨by rfl, by intro w hSw; clear hSw; go_simp⟩) hS2 ?_
  try simp only [Act.put, List.setIfInBounds_toArray, List.set_cons_zero, List.set_cons_succ]
  refine wpAnyH_take (i := 7) (oi := { dst := some 5, op := .assign (.tmp 12), type := 22, pos := "outright.go:73", after := #[{ on := 5, ground := .data }, { on := 3, ground := .chain }, { on := 0, ground := .phase }, { on := 1, ground := .phase }, { on := 2, ground := .phase }, { on := 3, ground := .phase }, { on := 4, ground := .phase }, { on := 5, ground := .phase }, { on := 6, ground := .textOnly .lateStores }], guard := none }) (v := y0) rfl (by kernel_rfl) (by kernel_rfl) (by kernel_rfl) (fun _ _ _ h => h) (Or.inl ⟨by rfl, by intro w hSw; clear hSw; go_simp⟩) hS2 ?_
  try simp only [Act.put, List.setIfInBounds_toArray, List.set_cons_zero, List.set_cons_succ]
  refine wpAnyH_take (i := 8) (oi := { dst := some 6, op := .assign (.tmp 13), type := 30, pos := "outright.go:73", after := #[{ on := 6, ground := .data }, { on := 7, ground := .chain }, { on := 0, ground := .phase }, { on := 1, ground := .phase }, { on := 2, ground := .phase }, { on := 3, ground := .phase }, { on := 4, ground := .phase }, { on := 5, ground := .phase }, { on := 6, ground := .phase }, { on := 7, ground := .phase }], guard := none }) (v := .int .i64 E) rfl (by kernel_rfl) (by kernel_rfl) (by kernel_rfl) (fun _ _ _ h => h) (Or.inl ⟨by rfl, by intro w hSw; clear hSw; go_simp⟩) hS2 ?_
  try simp only [Act.put, List.setIfInBounds_toArray, List.set_cons_zero, List.set_cons_succ]
  refine wpAnyH_done (by kernel_rfl) ?_ _
  have K5 := Lib.hid (BW.out.trans hS2)
  clear hS2
  go_wp2_with fail
  go_ret
  exact ⟨rfl, K5.out⟩
end Qu
end Go.Proofs.Ytdpompponngmdaa
end
