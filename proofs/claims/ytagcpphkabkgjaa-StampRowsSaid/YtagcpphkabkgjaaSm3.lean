/-
  What stamp.Take and stamp.Read read. Conditions: the reader is one that NewReader made of at most 10^6 bytes; the bytes are bytes.
-/
import Derived.Test.YtagcpphkabkgjaaSm2
import Derived.Test.YtagcpphkabkgjaaRm
namespace Go.Proofs.Ytagcpphkabkgjaa
open Go.RowKit Go.Shelf
set_option linter.unusedVariables false
namespace Sm
open Cd

/-- A reader stands while a block that is no fault's turns. -/
theorem rd_kep {w w' : World} {b p : Nat} {A : Option Addr} {n c : Nat} {zs : List Int} {k : Nat} {f : Option (Int × Int)} {C : Array Value} {t : TypeId} (h : RD b w b A n c zs k f) (hp : Blk w p C t) (ht : t ≠ 33)
    (hk : Kep (fun i => i = p) w w') (hbp : b ≠ p) (hA : 0 < n → ∀ x : Addr, A = some x → x.block ≠ p) : RD b w' b A n c zs k f := by
  obtain ⟨F, h1, h2, h3⟩ := h
  refine ⟨F, h1.kep0 hk hbp hA, h2.kep hk (fun x hx e => ?_), h3⟩
  rcases h2 with ⟨_, h⟩ | ⟨e', q, fb, _, h5, _, h7, _⟩
  · rw [h] at hx; cases hx
  · rw [h5] at hx
    injection hx with hx
    subst hx
    have e : fb = p := e
    subst e
    have := (show w.heap[fb]? = _ from hp).symm.trans h7
    simp at this
    exact ht this.2

/-- The memory while a stamp is read: the stamp's block p, the result's q. -/
structure Ts (w0 w : World) (b p q : Nat) (A : Option Addr) (n c : Nat) (zs : List Int) (k : Nat) (f : Option (Int × Int)) (x1 x2 x3 x4 : Int) : Prop where
  rd : RD b w b A n c zs k f
  sp : Blk w p #[.int .i64 x1, .int .i64 x2, .int .i64 x3, .int .i64 x4] 23
  rq : Blk w q #[.int .i64 0, .int .i64 0, .int .i64 0, .int .i64 0] 23
  kep : Kep (fun i => i = b) w0 w
  bp : b < w0.heap.size
  hp : w0.heap.size ≤ p
  hq : w0.heap.size ≤ q
  pq : p ≠ q
  ap : 0 < n → ∀ x : Addr, A = some x → x.block < w0.heap.size
theorem Ts.call {w0 w w' : World} {b p q : Nat} {A : Option Addr} {n c : Nat} {zs : List Int} {k k' : Nat} {f f' : Option (Int × Int)} {x1 x2 x3 x4 : Int} (h : Ts w0 w b p q A n c zs k f x1 x2 x3 x4) (hr : RD b w' b A n c zs k' f') (hk : Kep (fun i => i = b) w w') : Ts w0 w' b p q A n c zs k' f' x1 x2 x3 x4 :=
  ⟨hr, h.sp.kep hk (by have := h.bp; have := h.hp; omega), h.rq.kep hk (by have := h.bp; have := h.hq; omega), h.kep.trans hk, h.bp, h.hp, h.hq, h.pq, h.ap⟩
theorem Ts.bel {w0 w w' : World} {b p q : Nat} {A : Option Addr} {n c : Nat} {zs : List Int} {k : Nat} {f : Option (Int × Int)} {x1 x2 x3 x4 : Int} (h : Ts w0 w b p q A n c zs k f x1 x2 x3 x4) (hk : Bel w w') : Ts w0 w' b p q A n c zs k f x1 x2 x3 x4 :=
  h.call (h.rd.bel hk) (Kep.of_bel hk)
theorem kep_past1 {w0 w w' : World} {b p : Nat} (h : Kep (fun i => i = b) w0 w) (hk : Kep (fun i => i = p) w w') (hp : w0.heap.size ≤ p) : Kep (fun i => i = b) w0 w' :=
  ⟨hk.os.trans h.os, hk.tape.trans h.tape, hk.output.trans h.output, Nat.le_trans h.size hk.size, fun i hi hS => (hk.block i (Nat.lt_of_lt_of_le hi h.size) (by omega)).trans (h.block i hi hS)⟩
theorem Ts.put {w0 w : World} {b p q : Nat} {A : Option Addr} {n c : Nat} {zs : List Int} {k : Nat} {f : Option (Int × Int)} {x1 x2 x3 x4 y1 y2 y3 y4 : Int} (h : Ts w0 w b p q A n c zs k f x1 x2 x3 x4) (i : Nat) (v : Value)
    (e : (#[.int .i64 x1, .int .i64 x2, .int .i64 x3, .int .i64 x4] : Array Value).setIfInBounds i v = #[.int .i64 y1, .int .i64 y2, .int .i64 y3, .int .i64 y4]) : Ts w0 (w.setCell ⟨p, i, none⟩ v) b p q A n c zs k f y1 y2 y3 y4 := by
  have hk : Kep (fun i => i = p) w (w.setCell ⟨p, i, none⟩ v) := (Kep.refl _ _).set_self i v
  refine ⟨rd_kep h.rd h.sp (by decide) hk (by have := h.bp; have := h.hp; omega) (fun hn x hx => by have := h.ap hn x hx; have := h.hp; omega), ?_, h.rq.kep hk (fun e => h.pq e.symm), kep_past1 h.kep hk h.hp, h.bp, h.hp, h.hq, h.pq, h.ap⟩
  rw [← e]
  exact h.sp.set i v

/-- How a stamp is read. -/
def Tk (zs : List Int) (k : Nat) (f : Option (Int × Int)) (a b c d : Int) (k' : Nat) (f' : Option (Int × Int)) : Prop :=
  ∃ k1 f1 k2 f2 k3 f3 c1 f4, RN zs k f 0 31 a k1 f1 ∧ RN zs k1 f1 1 4294967296 b k2 f2 ∧ RN zs k2 f2 0 32 c1 k3 f3 ∧ RN zs k3 f3 0 4294967296 d k' f4 ∧ c = c1 - 1 ∧ 0 ≤ c1 ∧ c1 ≤ 32 ∧ f' = failOf f4 (ck a b c d) (atOf k f)
/-- What is told of what is read. -/
def tz (f : Option (Int × Int)) (x : Int) : Int := match f with
  | none => x
  | some _ => 0

theorem flt_ne {w : World} {b : Nat} {A : Option Addr} {n c : Nat} {zs : List Int} {k : Nat} {p : Int × Int} (h : RD b w b A n c zs k (some p)) : p.1 ≠ 0 := by
  obtain ⟨F, _, h2, _⟩ := h
  rcases h2 with ⟨h, _⟩ | ⟨e, q, fb, h, _, _, _, h5⟩
  · cases h
  · injection h with h; subst h; exact h5

theorem field_flt (e p : Int) (w : World) : (Instr.field 33 (.agg #[.int .i64 e, .int .i64 p]) 0).run Try.prog w = .ok (.int .i64 e) w := by kernel_rfl
set_option maxRecDepth 10000 in
set_option maxHeartbeats 1000000 in
theorem faulty (b : Nat) (A : Option Addr) (n c : Nat) (zs : List Int) (k : Nat) (f : Option (Int × Int)) (w : World) (h : RD b w b A n c zs k f) :
    Calls Try.prog 51 #[.pointer (some ⟨b, 0, none⟩)] w fun r w' => r = .returned (.bool f.isSome) ∧ Bel w w' := by
  have LE := Lib.hid (fun V (hv : Bel w V) => rLeft b zs k f V (h.rs.bel hv))
  have EN := Lib.hid (fun V (hv : Bel w V) => rEnd b zs k f V (h.rs.bel hv))
  obtain ⟨l, hl⟩ : ∃ l, Cd.leftOf zs.length k f = l := ⟨_, rfl⟩
  obtain ⟨e, he⟩ : ∃ e, endOf zs.length k f = e := ⟨_, rfl⟩
  obtain ⟨e1, e2⟩ := e
  obtain ⟨x, hx⟩ : ∃ x, f.isSome = x := ⟨_, rfl⟩
  have hcase : (x = true ∧ l = 0 ∧ e1 ≠ 0) ∨ (x = false ∧ l ≠ 0) ∨ (x = false ∧ l = 0 ∧ e1 = 0) := by
    cases f with
    | some p =>
      refine .inl ⟨hx.symm, hl.symm, ?_⟩
      have h1 : p = (e1, e2) := he
      have h2 := flt_ne h
      rw [h1] at h2
      exact h2
    | none =>
      have hle : k ≤ zs.length := by
        obtain ⟨F, hr, _⟩ := h
        have := hr.sl.len; have := hr.le; omega
      have h1 : (zs.length : Int) - k = l := hl
      have h2 : (if k < zs.length then ((4 : Int), (k : Int)) else (0, 0)) = (e1, e2) := he
      by_cases hk : k < zs.length
      · exact .inr (.inl ⟨hx.symm, by omega⟩)
      · rw [if_neg hk] at h2
        injection h2 with h2 _
        exact .inr (.inr ⟨hx.symm, by omega, h2.symm⟩)
  rw [hl] at LE
  rw [he] at EN
  have hfd := field_flt e1 e2
  have EN := Lib.hid (fun V (hv : Bel w V) => show Calls Try.prog 31 #[.pointer (some ⟨b, 0, none⟩)] V fun e w' => e = .returned (.agg #[.int .i64 e1, .int .i64 e2]) ∧ Bel V w' from EN.out V hv)
  rw [hx]
  clear hl he hx h
  go_enter Try.func51, Try.ntmps51
  go_wp2_with fail
  refine (LE.out _ (Bel.refl _)).mono ?_
  rintro r w1 ⟨rfl, kb⟩
  have K1 := Lib.hid kb
  clear kb LE
  rcases hcase with ⟨rfl, rfl, h1⟩ | ⟨rfl, h1⟩ | ⟨rfl, rfl, rfl⟩
  · have h1' : (e1 != 0) = true := by rw [bne_iff_ne]; exact h1
    clear h1
    go_wp2_with fail
    refine (EN.out _ K1.out).mono ?_
    rintro r w2 ⟨rfl, kb⟩
    have K2 := Lib.hid (K1.out.trans kb)
    clear kb
    go_wp2_with fail
    go_ret
    exact ⟨rfl, K2.out⟩
  · have h1' : (l == 0) = false := beq_eq_false_iff_ne.2 h1
    clear h1
    go_wp2_with fail
    go_ret
    exact ⟨rfl, K1.out⟩
  · go_wp2_with fail
    refine (EN.out _ K1.out).mono ?_
    rintro r w2 ⟨rfl, kb⟩
    have K2 := Lib.hid (K1.out.trans kb)
    clear kb
    go_wp2_with fail
    go_ret
    exact ⟨rfl, K2.out⟩

set_option maxRecDepth 10000 in
set_option maxHeartbeats 2000000 in
theorem take (b : Nat) (A : Option Addr) (n c : Nat) (zs : List Int) (k : Nat) (f : Option (Int × Int)) (x1 x2 x3 x4 : Int) (k' : Nat) (f' : Option (Int × Int)) (w : World) (h : RD b w b A n c zs k f) (hA : 0 < n → ∀ x : Addr, A = some x → x.block < w.heap.size) (ht : Tk zs k f x1 x2 x3 x4 k' f') :
    Calls Try.prog 25 #[.pointer (some ⟨b, 0, none⟩)] w fun r w' => r = .returned (stV (tz f' x1) (tz f' x2) (tz f' x3) (tz f' x4)) ∧ RD b w' b A n c zs k' f' ∧ Kep (fun i => i = b) w w' := by
  obtain ⟨k1, f1, k2, f2, k3, f3, y3, f4, r1, r2, r3, r4, rfl, y0, y1, hf'⟩ := ht
  have hbl : b < w.heap.size := by obtain ⟨F, hr, _⟩ := h; exact hr.blk.lt
  have T0 : Ts w ((w.alloc (.cells #[.int .i64 0, .int .i64 0, .int .i64 0, .int .i64 0] 23)).alloc (.cells #[.int .i64 0, .int .i64 0, .int .i64 0, .int .i64 0] 23)) b (w.heap.size + 1) w.heap.size A n c zs k f 0 0 0 0 := by
    have b0 : Bel w ((w.alloc (.cells #[.int .i64 0, .int .i64 0, .int .i64 0, .int .i64 0] 23)).alloc (.cells #[.int .i64 0, .int .i64 0, .int .i64 0, .int .i64 0] 23)) := ((Bel.refl w).alloc _).alloc _
    have p0 := Blk.new (w.alloc (.cells #[.int .i64 0, .int .i64 0, .int .i64 0, .int .i64 0] 23)) #[.int .i64 0, .int .i64 0, .int .i64 0, .int .i64 0] 23
    rw [World.size_alloc] at p0
    exact ⟨h.bel b0, p0, (Blk.new w _ _).alloc _, Kep.of_bel b0, hbl, Nat.le_succ _, Nat.le_refl _, by omega, hA⟩
  have T0 := Lib.hid T0
  have CK := Lib.hid (fun V => check x1 x2 (y3 - 1) x4 V)
  have AT := Lib.hid (fun V (hv : RD b V b A n c zs k f) => rAt b zs k f V hv.rs)
  have N1 := Lib.hid (fun V (hv : RD b V b A n c zs k f) (hb : b < V.heap.size) => yN b b A n c zs k f 0 31 x1 k1 f1 V hv r1 (by decide) hb)
  have N2 := Lib.hid (fun V (hv : RD b V b A n c zs k1 f1) (hb : b < V.heap.size) => yN b b A n c zs k1 f1 1 4294967296 x2 k2 f2 V hv r2 (by decide) hb)
  have N3 := Lib.hid (fun V (hv : RD b V b A n c zs k2 f2) (hb : b < V.heap.size) => yN b b A n c zs k2 f2 0 32 y3 k3 f3 V hv r3 (by decide) hb)
  have N4 := Lib.hid (fun V (hv : RD b V b A n c zs k3 f3) (hb : b < V.heap.size) => yN b b A n c zs k3 f3 0 4294967296 x4 k' f4 V hv r4 (by decide) hb)
  have FL := Lib.hid (fun V e (hv : RD b V b A n c zs k' f4) (hb : b < V.heap.size) => yFail b b A n c zs k' f4 e (atOf k f) V hv hb)
  have FY := Lib.hid (fun V (hv : RD b V b A n c zs k' f') => faulty b A n c zs k' f' V hv)
  have LT := Lib.hid (fun (V : World) (hv : Kep (fun i => i = b) w V) => Nat.lt_of_lt_of_le hbl hv.size)
  have w3 : IntKind.i64.wrap (y3 - 1) = y3 - 1 := IntWalk.i64_in _ (by omega)
  obtain ⟨x3, hx3⟩ : ∃ x, y3 - 1 = x := ⟨_, rfl⟩
  obtain ⟨e, he⟩ : ∃ e, ck x1 x2 x3 x4 = e := ⟨_, rfl⟩
  obtain ⟨a, ha⟩ : ∃ a, atOf k f = a := ⟨_, rfl⟩
  rw [hx3] at CK hf' w3 ⊢
  rw [he] at CK hf'
  rw [ha] at AT hf' FL
  have HF := Lib.hid hf'
  clear h hA r1 r2 r3 r4 y0 y1 he ha hbl hf'
  go_enter Try.func25, Try.ntmps25
  go_upto_region 2 with fail
  obtain ⟨W, hW⟩ : ∃ W, (w.alloc (.cells #[.int .i64 0, .int .i64 0, .int .i64 0, .int .i64 0] 23)).alloc (.cells #[.int .i64 0, .int .i64 0, .int .i64 0, .int .i64 0] 23) = W := ⟨_, rfl⟩
  obtain ⟨p, hp⟩ : ∃ p, w.heap.size + 1 = p := ⟨_, rfl⟩
  obtain ⟨q, hq⟩ : ∃ q, w.heap.size = q := ⟨_, rfl⟩
  rw [hW, hp, hq] at T0
  rw [hW, hp, hq]
  clear hW hp hq
  go_wp2_with fail
  refine (AT.out _ T0.out.rd).mono ?_
  rintro r w1 ⟨rfl, rfl⟩
  go_wp2_with fail
  refine (N1.out _ T0.out.rd (LT.out _ T0.out.kep)).mono ?_
  rintro r w2 ⟨rfl, hr, hk⟩
  have T1 := Lib.hid (T0.out.call hr hk)
  clear hr hk T0
  have c0 := T1.out.sp.cell 0 rfl
  have f0 := T1.out.sp.frozen 0
  go_upto_region 4 with fail
  have T2 := Lib.hid (T1.out.put (y1 := x1) (y2 := 0) (y3 := 0) (y4 := 0) 0 (.int .i64 x1) rfl)
  obtain ⟨W2, hW⟩ : ∃ W, w2.setCell ⟨p, 0, none⟩ (.int .i64 x1) = W := ⟨_, rfl⟩
  rw [hW] at T2 ⊢
  clear hW c0 f0 T1
  go_wp2_with fail
  refine (N2.out _ T2.out.rd (LT.out _ T2.out.kep)).mono ?_
  rintro r w3 ⟨rfl, hr, hk⟩
  have T3 := Lib.hid (T2.out.call hr hk)
  clear hr hk T2
  have c1 := T3.out.sp.cell 1 rfl
  have f1' := T3.out.sp.frozen 1
  go_upto_region 5 with fail
  have T4 := Lib.hid (T3.out.put (y1 := x1) (y2 := x2) (y3 := 0) (y4 := 0) 1 (.int .i64 x2) rfl)
  obtain ⟨W4, hW⟩ : ∃ W, w3.setCell ⟨p, 1, none⟩ (.int .i64 x2) = W := ⟨_, rfl⟩
  rw [hW] at T4 ⊢
  clear hW c1 f1' T3
  go_wp2_with fail
  refine (N3.out _ T4.out.rd (LT.out _ T4.out.kep)).mono ?_
  rintro r w5 ⟨rfl, hr, hk⟩
  have T5 := Lib.hid (T4.out.call hr hk)
  clear hr hk T4
  have c2 := T5.out.sp.cell 2 rfl
  have f2' := T5.out.sp.frozen 2
  go_upto_region 6 with fail
  have T6 := Lib.hid (T5.out.put (y1 := x1) (y2 := x2) (y3 := x3) (y4 := 0) 2 (.int .i64 x3) rfl)
  obtain ⟨W6, hW⟩ : ∃ W, w5.setCell ⟨p, 2, none⟩ (.int .i64 x3) = W := ⟨_, rfl⟩
  rw [hW] at T6 ⊢
  clear hW c2 f2' T5
  go_wp2_with fail
  refine (N4.out _ T6.out.rd (LT.out _ T6.out.kep)).mono ?_
  rintro r w7 ⟨rfl, hr, hk⟩
  have T7 := Lib.hid (T6.out.call hr hk)
  clear hr hk T6
  have c3 := T7.out.sp.cell 3 rfl
  have f3' := T7.out.sp.frozen 3
  go_upto_region 7 with fail
  have T8 := Lib.hid (T7.out.put (y1 := x1) (y2 := x2) (y3 := x3) (y4 := x4) 3 (.int .i64 x4) rfl)
  obtain ⟨W8, hW⟩ : ∃ W, w7.setCell ⟨p, 3, none⟩ (.int .i64 x4) = W := ⟨_, rfl⟩
  rw [hW] at T8 ⊢
  clear hW c3 f3' T7
  have c0 := T8.out.sp.cell 0 rfl
  have c1 := T8.out.sp.cell 1 rfl
  have c2 := T8.out.sp.cell 2 rfl
  have c3 := T8.out.sp.cell 3 rfl
  go_wp2_with fail
  refine (CK.out _).mono ?_
  rintro r w9 ⟨rfl, kb⟩
  have T9 := Lib.hid (T8.out.bel kb)
  clear kb T8 c0 c1 c2 c3
  go_wp2_with fail
  refine (FL.out _ _ T9.out.rd (LT.out _ T9.out.kep)).mono ?_
  rintro r wa ⟨rfl, hr, hk⟩
  rw [← HF.out] at hr
  have Ta := Lib.hid (T9.out.call hr hk)
  clear hr hk T9
  go_wp2_with fail
  refine (FY.out _ Ta.out.rd).mono ?_
  rintro r wb ⟨rfl, kb⟩
  have Tb := Lib.hid (Ta.out.bel kb)
  clear kb Ta HF CK AT N1 N2 N3 N4 FL FY
  have d0 := Tb.out.rq.cell 0 rfl
  have d1 := Tb.out.rq.cell 1 rfl
  have d2 := Tb.out.rq.cell 2 rfl
  have d3 := Tb.out.rq.cell 3 rfl
  have g0 := Tb.out.rq.frozen 0
  have g1 := Tb.out.rq.frozen 1
  have g2 := Tb.out.rq.frozen 2
  have g3 := Tb.out.rq.frozen 3
  have c0 := Tb.out.sp.cell 0 rfl
  have c1 := Tb.out.sp.cell 1 rfl
  have c2 := Tb.out.sp.cell 2 rfl
  have c3 := Tb.out.sp.cell 3 rfl
  have fin : ∀ (v1 v2 v3 v4 : Value), RD b ((((wb.setCell ⟨q, 0, none⟩ v1).setCell ⟨q, 1, none⟩ v2).setCell ⟨q, 2, none⟩ v3).setCell ⟨q, 3, none⟩ v4) b A n c zs k' f' ∧ Kep (fun i => i = b) w ((((wb.setCell ⟨q, 0, none⟩ v1).setCell ⟨q, 1, none⟩ v2).setCell ⟨q, 2, none⟩ v3).setCell ⟨q, 3, none⟩ v4) := fun v1 v2 v3 v4 => by
    have hk : Kep (fun i => i = q) wb ((((wb.setCell ⟨q, 0, none⟩ v1).setCell ⟨q, 1, none⟩ v2).setCell ⟨q, 2, none⟩ v3).setCell ⟨q, 3, none⟩ v4) := ((((Kep.refl _ _).set_self 0 v1).set_self 1 v2).set_self 2 v3).set_self 3 v4
    exact ⟨rd_kep Tb.out.rd Tb.out.rq (by decide) hk (by have := Tb.out.bp; have := Tb.out.hq; omega) (fun hn x hx => by have := Tb.out.ap hn x hx; have := Tb.out.hq; omega), kep_past1 Tb.out.kep hk Tb.out.hq⟩
  have HFin := Lib.hid fin
  have HRQ := Lib.hid Tb.out.rq
  clear fin
  cases f' with
  | none =>
    go_wp2_with fail
    refine bodyPost_ret (Pm.res_c rfl _ _ ⟨q, 0, none⟩ _ rfl (load_st ((((HRQ.out.set 0 _).set 1 _).set 2 _).set 3 _))) rfl ⟨rfl, HFin.out _ _ _ _⟩
  | some pp =>
    go_wp2_with fail
    refine bodyPost_ret (Pm.res_c rfl _ _ ⟨q, 0, none⟩ _ rfl (load_st ((((HRQ.out.set 0 _).set 1 _).set 2 _).set 3 _))) rfl ⟨rfl, HFin.out _ _ _ _⟩
end Sm
end Go.Proofs.Ytagcpphkabkgjaa
