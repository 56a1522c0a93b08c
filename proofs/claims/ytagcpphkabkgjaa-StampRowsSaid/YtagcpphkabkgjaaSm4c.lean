/-
  What the reference's Take and Read of a stamp read. Conditions: the reader is one that the reference's NewReader made of at most 10^6 bytes; the bytes are bytes.
-/
import Derived.Test.YtagcpphkabkgjaaSm4b
import Derived.Test.YtagcpphkabkgjaaSm3b
import Derived.Test.YtagcpphkabkgjaaQRead3
namespace Go.Proofs.Ytagcpphkabkgjaa
open Go.RowKit Go.Shelf
set_option linter.unusedVariables false
namespace Sm
open Cd

/-- The memory while the reference reads a stamp: the stamp's block p, the result's q. -/
structure Tq (w0 w : World) (b p q : Nat) (A : Option Addr) (n c : Nat) (zs : List Int) (k : Nat) (f : Option (Int × Int)) (x1 x2 x3 x4 : Int) : Prop where
  rd : QT w b A n c zs k f
  sp : Blk w p #[.int .i64 x1, .int .i64 x2, .int .i64 x3, .int .i64 x4] 23
  rq : Blk w q #[.int .i64 0, .int .i64 0, .int .i64 0, .int .i64 0] 23
  kep : Kep (fun i => i = b) w0 w
  bp : b < w0.heap.size
  hp : w0.heap.size ≤ p
  hq : w0.heap.size ≤ q
  pq : p ≠ q
  ap : 0 < n → ∀ x : Addr, A = some x → x.block < w0.heap.size
theorem Tq.call {w0 w w' : World} {b p q : Nat} {A : Option Addr} {n c : Nat} {zs : List Int} {k k' : Nat} {f f' : Option (Int × Int)} {x1 x2 x3 x4 : Int} (h : Tq w0 w b p q A n c zs k f x1 x2 x3 x4) (hr : QT w' b A n c zs k' f') (hk : Kep (fun i => i = b) w w') : Tq w0 w' b p q A n c zs k' f' x1 x2 x3 x4 :=
  ⟨hr, h.sp.kep hk (by have := h.bp; have := h.hp; omega), h.rq.kep hk (by have := h.bp; have := h.hq; omega), h.kep.trans hk, h.bp, h.hp, h.hq, h.pq, h.ap⟩
theorem Tq.bel {w0 w w' : World} {b p q : Nat} {A : Option Addr} {n c : Nat} {zs : List Int} {k : Nat} {f : Option (Int × Int)} {x1 x2 x3 x4 : Int} (h : Tq w0 w b p q A n c zs k f x1 x2 x3 x4) (hk : Bel w w') : Tq w0 w' b p q A n c zs k f x1 x2 x3 x4 :=
  h.call (h.rd.bel hk) (Kep.of_bel hk)
theorem Tq.put {w0 w : World} {b p q : Nat} {A : Option Addr} {n c : Nat} {zs : List Int} {k : Nat} {f : Option (Int × Int)} {x1 x2 x3 x4 y1 y2 y3 y4 : Int} (h : Tq w0 w b p q A n c zs k f x1 x2 x3 x4) (i : Nat) (v : Value)
    (e : (#[.int .i64 x1, .int .i64 x2, .int .i64 x3, .int .i64 x4] : Array Value).setIfInBounds i v = #[.int .i64 y1, .int .i64 y2, .int .i64 y3, .int .i64 y4]) : Tq w0 (w.setCell ⟨p, i, none⟩ v) b p q A n c zs k f y1 y2 y3 y4 := by
  have hk : Kep (fun i => i = p) w (w.setCell ⟨p, i, none⟩ v) := (Kep.refl _ _).set_self i v
  refine ⟨h.rd.kep hk (by have := h.bp; have := h.hp; omega) (fun hn x hx => by have := h.ap hn x hx; have := h.hp; omega), ?_, h.rq.kep hk (fun e => h.pq e.symm), kep_past1 h.kep hk h.hp, h.bp, h.hp, h.hq, h.pq, h.ap⟩
  rw [← e]
  exact h.sp.set i v

theorem qt_flt {w : World} {b : Nat} {A : Option Addr} {n c : Nat} {zs : List Int} {k : Nat} {f : Option (Int × Int)} (h : QT w b A n c zs k f) : w.cell? ⟨b, 2, none⟩ = some (.int .i64 (fE f)) ∧ (∀ q, f = some q → q.1 ≠ 0) := by
  obtain ⟨k2, h1, _⟩ := h
  exact ⟨h1.blk.cell 2 rfl, h1.flt⟩

set_option maxRecDepth 10000 in
set_option maxHeartbeats 2000000 in
theorem takeR (b : Nat) (A : Option Addr) (n c : Nat) (zs : List Int) (k : Nat) (f : Option (Int × Int)) (x1 x2 x3 x4 : Int) (k' : Nat) (f' : Option (Int × Int)) (w : World) (h : QT w b A n c zs k f) (hA : 0 < n → ∀ x : Addr, A = some x → x.block < w.heap.size) (ht : Tk zs k f x1 x2 x3 x4 k' f') :
    Calls Try.prog 26 #[.pointer (some ⟨b, 0, none⟩)] w fun r w' => r = .returned (stV (tz f' x1) (tz f' x2) (tz f' x3) (tz f' x4)) ∧ QT w' b A n c zs k' f' ∧ Kep (fun i => i = b) w w' := by
  obtain ⟨k1, f1, k2, f2, k3, f3, y3, f4, r1, r2, r3, r4, rfl, y0, y1, hf'⟩ := ht
  have hbl : b < w.heap.size := by obtain ⟨k2, hr, _⟩ := h; exact hr.blk.lt
  have T0 : Tq w ((w.alloc (.cells #[.int .i64 0, .int .i64 0, .int .i64 0, .int .i64 0] 23)).alloc (.cells #[.int .i64 0, .int .i64 0, .int .i64 0, .int .i64 0] 23)) b (w.heap.size + 1) w.heap.size A n c zs k f 0 0 0 0 := by
    have b0 : Bel w ((w.alloc (.cells #[.int .i64 0, .int .i64 0, .int .i64 0, .int .i64 0] 23)).alloc (.cells #[.int .i64 0, .int .i64 0, .int .i64 0, .int .i64 0] 23)) := ((Bel.refl w).alloc _).alloc _
    have p0 := Blk.new (w.alloc (.cells #[.int .i64 0, .int .i64 0, .int .i64 0, .int .i64 0] 23)) #[.int .i64 0, .int .i64 0, .int .i64 0, .int .i64 0] 23
    rw [World.size_alloc] at p0
    exact ⟨h.bel b0, p0, (Blk.new w _ _).alloc _, Kep.of_bel b0, hbl, Nat.le_succ _, Nat.le_refl _, by omega, hA⟩
  have T0 := Lib.hid T0
  have CK := Lib.hid (fun V => checkR x1 x2 (y3 - 1) x4 V)
  have AT := Lib.hid (fun V (hv : QT V b A n c zs k f) => tAt b A n c zs k f V hv)
  have N1 := Lib.hid (fun V (hv : QT V b A n c zs k f) => tN b A n c zs k f 0 31 x1 k1 f1 V hv r1 (by decide) (by decide))
  have N2 := Lib.hid (fun V (hv : QT V b A n c zs k1 f1) => tN b A n c zs k1 f1 1 4294967296 x2 k2 f2 V hv r2 (by decide) (by decide))
  have N3 := Lib.hid (fun V (hv : QT V b A n c zs k2 f2) => tN b A n c zs k2 f2 0 32 y3 k3 f3 V hv r3 (by decide) (by decide))
  have N4 := Lib.hid (fun V (hv : QT V b A n c zs k3 f3) => tN b A n c zs k3 f3 0 4294967296 x4 k' f4 V hv r4 (by decide) (by decide))
  have FL := Lib.hid (fun V e (hv : QT V b A n c zs k' f4) => tFail b A n c zs k' f4 e (atOf k f) V hv)
  have w3 : IntKind.i64.wrap (y3 - 1) = y3 - 1 := IntWalk.i64_in _ (by omega)
  obtain ⟨x3, hx3⟩ : ∃ x, y3 - 1 = x := ⟨_, rfl⟩
  obtain ⟨e, he⟩ : ∃ e, ck x1 x2 x3 x4 = e := ⟨_, rfl⟩
  obtain ⟨a, ha⟩ : ∃ a, atOf k f = a := ⟨_, rfl⟩
  rw [hx3] at CK hf' w3 ⊢
  rw [he] at CK hf'
  rw [ha] at AT hf' FL
  have HF := Lib.hid hf'
  have h0 := h
  clear h hA r1 r2 r3 r4 y0 y1 he ha hbl hf'
  go_enter Try.func26, Try.ntmps26
  have AT0 := Lib.hid (AT.out _ (h0.bel ((Bel.refl w).alloc (.cells #[.int .i64 0, .int .i64 0, .int .i64 0, .int .i64 0] 23))))
  go_wp2_with fail
  refine (AT0.out).mono ?_
  rintro r wz ⟨rfl, rfl⟩
  clear h0
  go_upto_region 3 with fail
  obtain ⟨W, hW⟩ : ∃ W, (w.alloc (.cells #[.int .i64 0, .int .i64 0, .int .i64 0, .int .i64 0] 23)).alloc (.cells #[.int .i64 0, .int .i64 0, .int .i64 0, .int .i64 0] 23) = W := ⟨_, rfl⟩
  obtain ⟨p, hp⟩ : ∃ p, w.heap.size + 1 = p := ⟨_, rfl⟩
  obtain ⟨q, hq⟩ : ∃ q, w.heap.size = q := ⟨_, rfl⟩
  rw [hW, hp, hq] at T0
  rw [hW, hp, hq]
  clear hW hp hq
  go_wp2_with fail
  refine (N1.out _ T0.out.rd).mono ?_
  rintro r w2 ⟨rfl, hr, hk⟩
  have T1 := Lib.hid (T0.out.call hr hk)
  clear hr hk T0
  have c0 := T1.out.sp.cell 0 rfl
  have f0 := T1.out.sp.frozen 0
  go_upto_region 4 with fail
  have T2 := Lib.hid (T1.out.put (y1 := x1) (y2 := 0) (y3 := 0) (y4 := 0) 0 (.int .i64 x1) rfl)
  obtain ⟨W2, hW⟩ : ∃ W, w2.setCell ⟨p, 0, none⟩ (.int .i64 x1) = W := ⟨_, rfl⟩
  rw [hW] at T2 ⊢
  clear hW c0 f0 T1
  go_wp2_with fail
  refine (N2.out _ T2.out.rd).mono ?_
  rintro r w3 ⟨rfl, hr, hk⟩
  have T3 := Lib.hid (T2.out.call hr hk)
  clear hr hk T2
  have c1 := T3.out.sp.cell 1 rfl
  have f1' := T3.out.sp.frozen 1
  go_upto_region 5 with fail
  have T4 := Lib.hid (T3.out.put (y1 := x1) (y2 := x2) (y3 := 0) (y4 := 0) 1 (.int .i64 x2) rfl)
  obtain ⟨W4, hW⟩ : ∃ W, w3.setCell ⟨p, 1, none⟩ (.int .i64 x2) = W := ⟨_, rfl⟩
  rw [hW] at T4 ⊢
  clear hW c1 f1' T3
  go_wp2_with fail
  refine (N3.out _ T4.out.rd).mono ?_
  rintro r w5 ⟨rfl, hr, hk⟩
  have T5 := Lib.hid (T4.out.call hr hk)
  clear hr hk T4
  have c2 := T5.out.sp.cell 2 rfl
  have f2' := T5.out.sp.frozen 2
  go_upto_region 6 with fail
  have T6 := Lib.hid (T5.out.put (y1 := x1) (y2 := x2) (y3 := x3) (y4 := 0) 2 (.int .i64 x3) rfl)
  obtain ⟨W6, hW⟩ : ∃ W, w5.setCell ⟨p, 2, none⟩ (.int .i64 x3) = W := ⟨_, rfl⟩
  rw [hW] at T6 ⊢
  clear hW c2 f2' T5
  go_wp2_with fail
  refine (N4.out _ T6.out.rd).mono ?_
  rintro r w7 ⟨rfl, hr, hk⟩
  have T7 := Lib.hid (T6.out.call hr hk)
  clear hr hk T6
  have c3 := T7.out.sp.cell 3 rfl
  have f3' := T7.out.sp.frozen 3
  go_upto_region 7 with fail
  have T8 := Lib.hid (T7.out.put (y1 := x1) (y2 := x2) (y3 := x3) (y4 := x4) 3 (.int .i64 x4) rfl)
  obtain ⟨W8, hW⟩ : ∃ W, w7.setCell ⟨p, 3, none⟩ (.int .i64 x4) = W := ⟨_, rfl⟩
  rw [hW] at T8 ⊢
  clear hW c3 f3' T7
  have fin : ∀ (W : World) f' , Tq w W b p q A n c zs k' f' x1 x2 x3 x4 → ∀ (v1 v2 v3 v4 : Value), QT ((((W.setCell ⟨q, 0, none⟩ v1).setCell ⟨q, 1, none⟩ v2).setCell ⟨q, 2, none⟩ v3).setCell ⟨q, 3, none⟩ v4) b A n c zs k' f' ∧ Kep (fun i => i = b) w ((((W.setCell ⟨q, 0, none⟩ v1).setCell ⟨q, 1, none⟩ v2).setCell ⟨q, 2, none⟩ v3).setCell ⟨q, 3, none⟩ v4) := fun W f' h v1 v2 v3 v4 => by
    have hk : Kep (fun i => i = q) W ((((W.setCell ⟨q, 0, none⟩ v1).setCell ⟨q, 1, none⟩ v2).setCell ⟨q, 2, none⟩ v3).setCell ⟨q, 3, none⟩ v4) := ((((Kep.refl _ _).set_self 0 v1).set_self 1 v2).set_self 2 v3).set_self 3 v4
    exact ⟨h.rd.kep hk (by have := h.bp; have := h.hq; omega) (fun hn x hx => by have := h.ap hn x hx; have := h.hq; omega), kep_past1 h.kep hk h.hq⟩
  have HFin := Lib.hid fin
  clear fin
  obtain ⟨q1, q2⟩ := qt_flt T8.out.rd
  cases f4 with
  | some p4 =>
    obtain rfl : f' = some p4 := by rw [HF.out]; unfold failOf; split <;> rfl
    have q3 : (p4.1 == 0) = false := beq_eq_false_iff_ne.2 (q2 _ rfl)
    have q4 : (p4.1 != 0) = true := by rw [bne_iff_ne]; exact q2 _ rfl
    replace q1 : W8.cell? ⟨b, 2, none⟩ = some (.int .i64 p4.1) := q1
    obtain ⟨z, hz⟩ : ∃ z, p4.1 = z := ⟨_, rfl⟩
    rw [hz] at q1 q3 q4
    clear q2 hz
    have HRQ := Lib.hid T8.out.rq
    have FI := Lib.hid (HFin.out W8 _ T8.out)
    have d0 := T8.out.rq.cell 0 rfl
    have d1 := T8.out.rq.cell 1 rfl
    have d2 := T8.out.rq.cell 2 rfl
    have d3 := T8.out.rq.cell 3 rfl
    have g0 := T8.out.rq.frozen 0
    have g1 := T8.out.rq.frozen 1
    have g2 := T8.out.rq.frozen 2
    have g3 := T8.out.rq.frozen 3
    clear T8 HFin HF CK AT AT0 N1 N2 N3 N4 FL
    go_wp2_with fail
    refine bodyPost_ret (Pm.res_c rfl _ _ ⟨q, 0, none⟩ _ rfl (load_st ((((HRQ.out.set 0 _).set 1 _).set 2 _).set 3 _))) rfl ⟨rfl, FI.out _ _ _ _⟩
  | none =>
    replace q1 : W8.cell? ⟨b, 2, none⟩ = some (.int .i64 0) := q1
    have c0 := T8.out.sp.cell 0 rfl
    have c1 := T8.out.sp.cell 1 rfl
    have c2 := T8.out.sp.cell 2 rfl
    have c3 := T8.out.sp.cell 3 rfl
    clear q2
    go_wp2_with fail
    refine (CK.out _).mono ?_
    rintro r w9 ⟨rfl, kb⟩
    have T9 := Lib.hid (T8.out.bel kb)
    clear kb T8 c0 c1 c2 c3 q1
    go_wp2_with fail
    refine (FL.out _ _ T9.out.rd).mono ?_
    rintro r wa ⟨rfl, hr, hk⟩
    rw [← HF.out] at hr
    have Ta := Lib.hid (T9.out.call hr hk)
    clear hr hk T9
    obtain ⟨q1, q2⟩ := qt_flt Ta.out.rd
    have HRQ := Lib.hid Ta.out.rq
    have FI := Lib.hid (HFin.out wa _ Ta.out)
    have d0 := Ta.out.rq.cell 0 rfl
    have d1 := Ta.out.rq.cell 1 rfl
    have d2 := Ta.out.rq.cell 2 rfl
    have d3 := Ta.out.rq.cell 3 rfl
    have g0 := Ta.out.rq.frozen 0
    have g1 := Ta.out.rq.frozen 1
    have g2 := Ta.out.rq.frozen 2
    have g3 := Ta.out.rq.frozen 3
    have c0 := Ta.out.sp.cell 0 rfl
    have c1 := Ta.out.sp.cell 1 rfl
    have c2 := Ta.out.sp.cell 2 rfl
    have c3 := Ta.out.sp.cell 3 rfl
    clear Ta HFin HF CK AT AT0 N1 N2 N3 N4 FL
    cases f' with
    | none =>
      replace q1 : wa.cell? ⟨b, 2, none⟩ = some (.int .i64 0) := q1
      clear q2
      go_wp2_with fail
      refine bodyPost_ret (Pm.res_c rfl _ _ ⟨q, 0, none⟩ _ rfl (load_st ((((HRQ.out.set 0 _).set 1 _).set 2 _).set 3 _))) rfl ⟨rfl, FI.out _ _ _ _⟩
    | some p4 =>
      have q4 : (p4.1 != 0) = true := by rw [bne_iff_ne]; exact q2 _ rfl
      replace q1 : wa.cell? ⟨b, 2, none⟩ = some (.int .i64 p4.1) := q1
      obtain ⟨z, hz⟩ : ∃ z, p4.1 = z := ⟨_, rfl⟩
      rw [hz] at q1 q4
      clear q2 hz
      go_wp2_with fail
      refine bodyPost_ret (Pm.res_c rfl _ _ ⟨q, 0, none⟩ _ rfl (load_st ((((HRQ.out.set 0 _).set 1 _).set 2 _).set 3 _))) rfl ⟨rfl, FI.out _ _ _ _⟩

set_option maxRecDepth 10000 in
set_option maxHeartbeats 2000000 in
theorem readR (A : Option Addr) (n c : Nat) (zs : List Int) (x1 x2 x3 x4 : Int) (k' : Nat) (f' : Option (Int × Int)) (e1 e2 : Int) (w : World) (hs : Sl w A n c zs) (hn : n ≤ 1000000) (hb : Bytes zs) (ht : Tk zs 0 none x1 x2 x3 x4 k' f') (he : endOf zs.length k' f' = (e1, e2)) :
    Calls Try.prog 15 #[.slice A n c] w fun r w' => r = .returned (.tuple #[stV (rz e1 x1) (rz e1 x2) (rz e1 x3) (rz e1 x4), .agg #[.int .i64 e1, .int .i64 e2]]) ∧ Bel w w' := by
  have HS := Lib.hid hs
  have HB := Lib.hid hb
  have HT := Lib.hid ht
  have HE := Lib.hid he
  have HN := Lib.hid hn
  clear hs hb ht he hn
  have Q0 : Blk ((w.alloc (.cells #[.int .i64 0, .int .i64 0, .int .i64 0, .int .i64 0] 23)).alloc (.cells #[.int .i64 0, .int .i64 0] 33)) w.heap.size #[.int .i64 0, .int .i64 0, .int .i64 0, .int .i64 0] 23 := (Blk.new w _ _).alloc _
  have R0 := Blk.new (w.alloc (.cells #[.int .i64 0, .int .i64 0, .int .i64 0, .int .i64 0] 23)) #[.int .i64 0, .int .i64 0] 33
  rw [World.size_alloc] at R0
  have B0 : Bel w ((w.alloc (.cells #[.int .i64 0, .int .i64 0, .int .i64 0, .int .i64 0] 23)).alloc (.cells #[.int .i64 0, .int .i64 0] 33)) := ((Bel.refl w).alloc _).alloc _
  obtain ⟨W, hW⟩ : ∃ W, (w.alloc (.cells #[.int .i64 0, .int .i64 0, .int .i64 0, .int .i64 0] 23)).alloc (.cells #[.int .i64 0, .int .i64 0] 33) = W := ⟨_, rfl⟩
  obtain ⟨q, hq⟩ : ∃ q, w.heap.size = q := ⟨_, rfl⟩
  obtain ⟨p, hp⟩ : ∃ p, q + 1 = p := ⟨_, rfl⟩
  rw [hW, hq] at Q0
  rw [hW, hq, hp] at R0
  rw [hW] at B0
  have Q0 := Lib.hid Q0
  have R0 := Lib.hid R0
  have B0 := Lib.hid B0
  have HW := Lib.hid hW
  have HQ := Lib.hid hq
  have HP := Lib.hid hp
  clear hW hq hp
  go_enter Try.func15, Try.ntmps15
  go_upto_region 1 with fail
  rw [HW.out, HQ.out, HP.out]
  go_wp2_with fail
  refine (qNew A n c zs W (HS.out.bel B0.out) HN.out HB.out).mono ?_
  rintro r w1 ⟨b, A', c', rfl, hbb, hr, hA, k1⟩
  have Q1 := Lib.hid (Q0.out.bel k1)
  have R1 := Lib.hid (R0.out.bel k1)
  have K1 := Lib.hid (B0.out.trans k1)
  have HBQ := Lib.hid (show q < b ∧ p < b from ⟨Nat.lt_of_lt_of_le Q0.out.lt hbb, Nat.lt_of_lt_of_le R0.out.lt hbb⟩)
  have TK := Lib.hid (takeR b A' n c' zs 0 none x1 x2 x3 x4 k' f' w1 ⟨0, hr, fun _ => rfl⟩ (fun hn x hx => by
    obtain ⟨b', o', e, hlt, _⟩ := hr.sl.ints.cell (i := 0) hn
    rw [e] at hx; injection hx with hx; subst hx; exact hlt) HT.out)
  have HSB := Lib.hid (show w.heap.size ≤ b from Nat.le_trans (Below.size B0.out) hbb)
  clear hbb hr hA k1
  go_wp2_with fail
  refine (TK.out).mono ?_
  rintro r w2 ⟨rfl, hr, hk⟩
  have Q2 := Lib.hid (Q1.out.kep hk (by have := HBQ.out; omega))
  have R2 := Lib.hid (R1.out.kep hk (by have := HBQ.out; omega))
  have K2 := Lib.hid (show Bel w w2 from Kep.bel K1.out hk (fun i hi => by rw [hi]; exact HSB.out))
  have EN := Lib.hid (fun V (hv : Bel w2 V) => tEnd b A' n c' zs k' f' V (hr.bel hv))
  rw [HE.out] at EN
  have EN := Lib.hid (fun V (hv : Bel w2 V) => show Calls Try.prog 32 #[.pointer (some ⟨b, 0, none⟩)] V fun e w' => e = .returned (.agg #[.int .i64 e1, .int .i64 e2]) ∧ Bel V w' from EN.out V hv)
  have HFP := Lib.hid (fun p (hp : f' = some p) => (qt_flt hr).2 p hp)
  clear hr hk Q1 R1 TK
  obtain ⟨y1, hy1⟩ : ∃ y, tz f' x1 = y := ⟨_, rfl⟩
  obtain ⟨y2, hy2⟩ : ∃ y, tz f' x2 = y := ⟨_, rfl⟩
  obtain ⟨y3, hy3⟩ : ∃ y, tz f' x3 = y := ⟨_, rfl⟩
  obtain ⟨y4, hy4⟩ : ∃ y, tz f' x4 = y := ⟨_, rfl⟩
  rw [hy1, hy2, hy3, hy4]
  have HY := Lib.hid (fun h0 : e1 = 0 => show x1 = y1 ∧ x2 = y2 ∧ x3 = y3 ∧ x4 = y4 from ⟨by rw [← hy1, tz_end HE.out HFP.out h0], by rw [← hy2, tz_end HE.out HFP.out h0], by rw [← hy3, tz_end HE.out HFP.out h0], by rw [← hy4, tz_end HE.out HFP.out h0]⟩)
  clear hy1 hy2 hy3 hy4
  have S0 := Blk.new w2 #[.int .i64 y1, .int .i64 y2, .int .i64 y3, .int .i64 y4] 23
  have SB := (Bel.refl w2).alloc (.cells #[.int .i64 y1, .int .i64 y2, .int .i64 y3, .int .i64 y4] 23)
  go_upto_region 3 with fail
  obtain ⟨W3, hW⟩ : ∃ W, w2.alloc (.cells #[.int .i64 y1, .int .i64 y2, .int .i64 y3, .int .i64 y4] 23) = W := ⟨_, rfl⟩
  obtain ⟨s, hs⟩ : ∃ s, w2.heap.size = s := ⟨_, rfl⟩
  rw [hW] at S0 SB ⊢
  rw [hs] at S0 ⊢
  have S3 := Lib.hid S0
  have Q3 := Lib.hid (Q2.out.bel SB)
  have R3 := Lib.hid (R2.out.bel SB)
  have K3 := Lib.hid (K2.out.trans SB)
  have E3 := Lib.hid (EN.out W3 SB)
  have LS := Lib.hid (show q < s ∧ p < s from ⟨by rw [← hs]; exact Q2.out.lt, by rw [← hs]; exact R2.out.lt⟩)
  clear hW hs S0 SB Q2 R2 K2 EN
  go_wp2_with fail
  refine (E3.out).mono ?_
  rintro r w4 ⟨rfl, kb⟩
  have S4 := Lib.hid (S3.out.bel kb)
  have Q4 := Lib.hid (Q3.out.bel kb)
  have R4 := Lib.hid (R3.out.bel kb)
  have K4 := Lib.hid (K3.out.trans kb)
  clear kb S3 Q3 R3 K3 E3
  have T0 := Blk.new w4 #[.int .i64 e1, .int .i64 e2] 33
  have TB := (Bel.refl w4).alloc (.cells #[.int .i64 e1, .int .i64 e2] 33)
  go_upto_region 4 with fail
  obtain ⟨W5, hW⟩ : ∃ W, w4.alloc (.cells #[.int .i64 e1, .int .i64 e2] 33) = W := ⟨_, rfl⟩
  obtain ⟨u, hu⟩ : ∃ u, w4.heap.size = u := ⟨_, rfl⟩
  rw [hW] at T0 TB ⊢
  rw [hu] at T0 ⊢
  have T5 := Lib.hid T0
  have S5 := Lib.hid (S4.out.bel TB)
  have Q5 := Lib.hid (Q4.out.bel TB)
  have R5 := Lib.hid (R4.out.bel TB)
  have K5 := Lib.hid (K4.out.trans TB)
  have LU := Lib.hid (show q < u ∧ p < u ∧ s < u from ⟨by rw [← hu]; exact Q4.out.lt, by rw [← hu]; exact R4.out.lt, by rw [← hu]; exact S4.out.lt⟩)
  clear hW hu T0 TB S4 Q4 R4 K4
  have hqs : q ≠ s := by have := LS.out; omega
  have hps : p ≠ s := by have := LS.out; omega
  have hqu : q ≠ u := by have := LU.out; omega
  have hpu : p ≠ u := by have := LU.out; omega
  have hpq : q ≠ p := by have := HP.out; omega
  have t0 := T5.out.cell 0 rfl
  have t1 := T5.out.cell 1 rfl
  have s0 := S5.out.cell 0 rfl
  have s1 := S5.out.cell 1 rfl
  have s2 := S5.out.cell 2 rfl
  have s3 := S5.out.cell 3 rfl
  have q0 := Q5.out.cell 0 rfl
  have q1 := Q5.out.cell 1 rfl
  have q2 := Q5.out.cell 2 rfl
  have q3 := Q5.out.cell 3 rfl
  have r0 := R5.out.cell 0 rfl
  have r1 := R5.out.cell 1 rfl
  have fq0 := Q5.out.frozen 0
  have fq1 := Q5.out.frozen 1
  have fq2 := Q5.out.frozen 2
  have fq3 := Q5.out.frozen 3
  have fr0 := R5.out.frozen 0
  have fr1 := R5.out.frozen 1
  have HLQ := Lib.hid (show w.heap.size ≤ q by rw [HQ.out]; exact Nat.le_refl _)
  have HLP := Lib.hid (show w.heap.size ≤ p by rw [← HP.out]; have := HLQ.out; omega)
  by_cases h0 : e1 = 0
  · obtain ⟨rfl, rfl, rfl, rfl⟩ := HY.out h0
    obtain ⟨rfl, -, -⟩ := end_e2 HE.out HFP.out h0
    subst h0
    go_wp2_with fail
    have QF := (((((Q5.out.set 0 (.int .i64 x1)).set 1 (.int .i64 x2)).set 2 (.int .i64 x3)).set 3 (.int .i64 x4)).other hpq 0 (.int .i64 0)).other hpq 1 (.int .i64 0)
    have RF := (((((R5.out.other hpq.symm 0 (.int .i64 x1)).other hpq.symm 1 (.int .i64 x2)).other hpq.symm 2 (.int .i64 x3)).other hpq.symm 3 (.int .i64 x4)).set 0 (.int .i64 0)).set 1 (.int .i64 0)
    refine bodyPost_ret (Pm.res_cc rfl _ _ ⟨q, 0, none⟩ ⟨p, 0, none⟩ _ _ rfl rfl (load_st QF) (load_flt RF)) rfl ⟨rfl, ?_⟩
    exact (((((K5.out.set HLQ.out _).set HLQ.out _).set HLQ.out _).set HLQ.out _).set HLP.out _).set HLP.out _
  · have h1 : (e1 != 0) = true := by rw [bne_iff_ne]; exact h0
    go_wp2_with fail
    go_region
    all_goals
      go_wp2_with fail
      have QF := ((((((Q5.out.set 0 (.int .i64 0)).set 1 (.int .i64 0)).set 2 (.int .i64 0)).set 3 (.int .i64 0)).other hpq 0 (.int .i64 e1)).other hpq 1 (.int .i64 e2)).bel (Bel.refl _).drew
      have RF := ((((((R5.out.other hpq.symm 0 (.int .i64 0)).other hpq.symm 1 (.int .i64 0)).other hpq.symm 2 (.int .i64 0)).other hpq.symm 3 (.int .i64 0)).set 0 (.int .i64 e1)).set 1 (.int .i64 e2)).bel (Bel.refl _).drew
      refine bodyPost_ret (Pm.res_cc rfl _ _ ⟨q, 0, none⟩ ⟨p, 0, none⟩ _ _ rfl rfl (load_st QF) (load_flt RF)) rfl ⟨?_, ?_⟩
      · rw [show rz e1 x1 = 0 from if_neg h0, show rz e1 x2 = 0 from if_neg h0, show rz e1 x3 = 0 from if_neg h0, show rz e1 x4 = 0 from if_neg h0]
      · exact ((((((K5.out.set HLQ.out _).set HLQ.out _).set HLQ.out _).set HLQ.out _).set HLP.out _).set HLP.out _).drew
end Sm
end Go.Proofs.Ytagcpphkabkgjaa
