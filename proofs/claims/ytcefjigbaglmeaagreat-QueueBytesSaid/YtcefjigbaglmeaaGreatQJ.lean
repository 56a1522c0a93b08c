/-
  Texts of this claim, put together: QuF, Qu36, Kept, Qu37. What each one says, and under which conditions, stands ahead of it.
-/
import Derived.Laws.StructEq
import Derived.ChangeKeysEq
import Derived.BigRegion
import Derived.Test.YtcefjigbaglmeaaGreatGRwEq14
import Derived.Test.YtcefjigbaglmeaaGreatQF
import Derived.Test.YtcefjigbaglmeaaGreatGQu8
import Derived.Test.YtcefjigbaglmeaaGreatQA
import Derived.Test.YtcefjigbaglmeaaGreatQH
import Derived.Test.YtcefjigbaglmeaaGreatGKit
import Derived.Test.YtcefjigbaglmeaaGreatQI
import Derived.Test.YtcefjigbaglmeaaGreatQE

section
/-
  What == and != of faults tell, field by field. No condition.
-/
namespace Go.Proofs.YtcefjigbaglmeaaGreat
open Go.RowKit Go.Shelf
set_option linter.unusedVariables false
set_option linter.unusedSimpArgs false
namespace Rw
theorem eqIn_fault (d : Nat) (a0 a1 b0 b1 : Int) (W : World) : (Op.equalIn (d + 2) 32 (.agg #[Value.int .i64 a0, Value.int .i64 a1]) (.agg #[Value.int .i64 b0, Value.int .i64 b1])).run Tryz.prog W = .ok ((a0 == b0) && ((a1 == b1) && true)) W := by
  have hS : Tryz.prog.underlying 32 = some (.struct (Tryz.prog.fieldsOf 32)) := by kernel_rfl
  rw [show d + 2 = (d + 1) + 1 from rfl, run_equalIn_struct W (d + 1) _ _ _ hS (by kernel_rfl)]
  simp only [Program.fieldsOf, Tryz.underlying32]
  exact eqF_cons (by decide) (partI Tryz.underlying25 rfl _) (partI Tryz.underlying25 rfl _) (run_equalIn_int W _ _ _ _ _ _ Tryz.underlying25) (eqF_cons (by decide) (partI Tryz.underlying3 rfl _) (partI Tryz.underlying3 rfl _) (run_equalIn_int W _ _ _ _ _ _ Tryz.underlying3) (eqF_nil))
theorem eq_fault (a0 a1 b0 b1 : Int) : ((a0 == b0) && ((a1 == b1) && true)) = decide ((a0, a1) = (b0, b1)) := by
  rw [Bool.eq_iff_iff]
  simp only [Bool.and_eq_true, beq_iff_eq, Prod.mk.injEq, and_assoc, and_true, decide_eq_true_eq]
theorem eql_fault (a0 a1 b0 b1 : Int) (W : World) : (binOp .eql 32 (.agg #[Value.int .i64 a0, Value.int .i64 a1]) (.agg #[Value.int .i64 b0, Value.int .i64 b1])).run Tryz.prog W = .ok (.bool (decide ((a0, a1) = (b0, b1)))) W := by
  rw [run_eql_struct, show (10000 : Nat) = 9998 + 2 from rfl, eqIn_fault, eq_fault]
  rfl
theorem neq_fault (a0 a1 b0 b1 : Int) (W : World) : (binOp .neq 32 (.agg #[Value.int .i64 a0, Value.int .i64 a1]) (.agg #[Value.int .i64 b0, Value.int .i64 b1])).run Tryz.prog W = .ok (.bool (!decide ((a0, a1) = (b0, b1)))) W := by
  rw [run_neq_struct, show (10000 : Nat) = 9998 + 2 from rfl, eqIn_fault, eq_fault]
  rfl

end Rw
end Go.Proofs.YtcefjigbaglmeaaGreat
end

section
/-
  What the reference's Read answers. Conditions: at most 10^6 bytes; the bytes are bytes.
-/
namespace Go.Proofs.YtcefjigbaglmeaaGreat
open Go.RowKit Go.Shelf
set_option linter.unusedVariables false
set_option linter.unusedSimpArgs false
set_option Elab.async false
namespace Qu
open Cd

section
variable {w0 w w' : World} {b p : Nat} {A : Option Addr} {n c : Nat} {zs : List Int} {k k' : Nat} {f f' : Option (Int × Int)} {x1 x2 x3 x4 x5 x6 x7 x8 y1 y2 y3 y4 y5 y6 y7 y8 : Int} {v : Value} {l : List E8}
theorem qt_to (h : QT w b A n c zs k f) : ∃ t : Nat, w.cell? ⟨b, 1, none⟩ = some (.int .i64 (t : Int)) ∧ (f = none → t = k) := by
  obtain ⟨k2, h1, h2⟩ := h
  exact ⟨k2, h1.blk.cell 1 rfl, h2⟩
theorem qt_err (h : QT w b A n c zs k f) : w.cell? ⟨b, 2, none⟩ = some (.int .i64 (fE f)) := by
  obtain ⟨k2, h1, _⟩ := h
  exact h1.blk.cell 2 rfl
theorem qt_ne {q : Int × Int} (h : QT w b A n c zs k (some q)) : q.1 ≠ 0 := by
  obtain ⟨k2, h1, _⟩ := h
  exact h1.flt _ rfl
theorem qt_blk (h : QT w b A n c zs k f) : ∃ C, Blk w b C 70 := by
  obtain ⟨k2, h1, _⟩ := h
  exact ⟨_, h1.blk⟩
/-- The memory while the reference reads an entry: its block p; v: what was read ahead of it. -/
structure Tq (w0 w : World) (b p : Nat) (A : Option Addr) (n c : Nat) (zs : List Int) (k : Nat) (f : Option (Int × Int)) (x1 x2 x3 x4 x5 x6 x7 x8 : Int) (v : Value) (l : List E8) : Prop where
  rd : QT w b A n c zs k f
  sp : Blk w p #[.int .i64 x1, .int .i64 x2, .int .i64 x3, .int .i64 x4, .int .i64 x5, .int .i64 x6, .int .u64 x7, .int .u64 x8] 53
  kep : Kep (fun i => i = b) w0 w
  bp : b < w0.heap.size
  hp : w0.heap.size ≤ p
  ap : 0 < n → ∀ x : Addr, A = some x → x.block < w0.heap.size
  own : OwnE w w0.heap.size v l
  np : v.ownBlock ≠ some p
theorem Tq.call (h : Tq w0 w b p A n c zs k f x1 x2 x3 x4 x5 x6 x7 x8 v l) (hr : QT w' b A n c zs k' f') (hk : Kep (fun i => i = b) w w') : Tq w0 w' b p A n c zs k' f' x1 x2 x3 x4 x5 x6 x7 x8 v l :=
  ⟨hr, h.sp.kep hk (by have := h.bp; have := h.hp; omega), h.kep.trans hk, h.bp, h.hp, h.ap, h.own.kep (S := fun i => i = b) (toK hk) (fun j hj e => by
    subst e
    obtain ⟨C, hC⟩ := qt_blk h.rd
    exact Rw.own_ne h.own hC (by decide) hj), h.np⟩
theorem Tq.bel (h : Tq w0 w b p A n c zs k f x1 x2 x3 x4 x5 x6 x7 x8 v l) (hk : Bel w w') : Tq w0 w' b p A n c zs k f x1 x2 x3 x4 x5 x6 x7 x8 v l := h.call (h.rd.bel hk) (Kep.of_bel hk)
theorem Tq.al (h : Tq w0 w b p A n c zs k f x1 x2 x3 x4 x5 x6 x7 x8 v l) : 0 < n → ∀ x : Addr, A = some x → x.block < w.heap.size := fun hn x hx => Nat.lt_of_lt_of_le (h.ap hn x hx) h.kep.size
theorem Tq.put (h : Tq w0 w b p A n c zs k f x1 x2 x3 x4 x5 x6 x7 x8 v l) (i : Nat) (u : Value)
    (e : (#[.int .i64 x1, .int .i64 x2, .int .i64 x3, .int .i64 x4, .int .i64 x5, .int .i64 x6, .int .u64 x7, .int .u64 x8] : Array Value).setIfInBounds i u = #[.int .i64 y1, .int .i64 y2, .int .i64 y3, .int .i64 y4, .int .i64 y5, .int .i64 y6, .int .u64 y7, .int .u64 y8]) : Tq w0 (w.setCell ⟨p, i, none⟩ u) b p A n c zs k f y1 y2 y3 y4 y5 y6 y7 y8 v l := by
  have hk : Kep (fun i => i = p) w (w.setCell ⟨p, i, none⟩ u) := (Kep.refl _ _).set_self i u
  refine ⟨h.rd.kep hk (by have := h.bp; have := h.hp; omega) (fun hn x hx => by have := h.ap hn x hx; have := h.hp; omega), ?_, kep_past1 h.kep hk h.hp, h.bp, h.hp, h.ap, h.own.kep (S := fun i => i = p) (toK hk) (fun j hj e => h.np (e ▸ hj)), h.np⟩
  rw [← e]
  exact h.sp.set i u
end
/-- Where the reference stands behind i rounds of m. -/
def Wr (zs : List Int) (l : List E8) (m i : Nat) (pre : List E8) (kk : Nat) (ff : Option (Int × Int)) (k' : Nat) (f' : Option (Int × Int)) : Prop :=
  (ff = none ∧ pre.length = i ∧ ∃ rest, Rl zs (m - i) rest kk (bef 0 pre pre.length) k' f' ∧ (f' = none → l = pre ++ rest)) ∨ (ff ≠ none ∧ kk = k' ∧ ff = f')
theorem own_rs5 {w : World} {base i c : Nat} {A : Option Addr} {l : List E8} (h : OwnE w base (.slice A i c) l) (hl : l.length = i) : Rw.RS eR w A i c l := by
  obtain ⟨A6, c6, e6, hrs⟩ := h.slice
  rw [hl] at e6 hrs
  injection e6 with e6 e7 e8
  subst e6 e8
  exact hrs
theorem sum_is (l : List E8) : (sumP l).2 = !decide (4611686018427387904 < tot l) := by
  unfold sumP
  by_cases h : 4611686018427387904 < tot l
  · rw [if_pos h, decide_eq_true h]; rfl
  · rw [if_neg h, decide_eq_false h]; rfl
set_option maxRecDepth 100000 in
set_option maxHeartbeats 8000000 in
theorem readR (A : Option Addr) (n c : Nat) (zs : List Int) (l : List E8) (k' : Nat) (f' : Option (Int × Int)) (e1 e2 : Int) (w : World) (hs : Sl w A n c zs) (hn : n ≤ 1000000) (hb : Bytes zs)
    (hr : Rq zs l k' f') (hl : l.length ≤ 32768) (hw : Wd l) (he : endOf zs.length k' f' = (e1, e2)) :
    Calls Tryz.prog 11 #[.slice A n c] w fun r w' => ∃ v, r = .returned (.tuple #[v, .agg #[.int .i64 (rdE (e1, e2) l).1, .int .i64 (rdE (e1, e2) l).2]]) ∧ OwnE w' w.heap.size v (rdL (e1, e2) l) ∧ Bel w w' := by
  have HS := Lib.hid hs
  have HB := Lib.hid hb
  have HL := Lib.hid hl
  have HWD := Lib.hid hw
  have HE := Lib.hid he
  have HN := Lib.hid hn
  obtain ⟨m', k0, f0, r0, hwq⟩ := hr
  obtain ⟨m, hm, rfl⟩ : ∃ m : Nat, m ≤ 32768 ∧ m' = (m : Int) := by
    rcases hwq with ⟨p, _, h2, _⟩ | ⟨_, h2, h3, _⟩
    · exact ⟨0, by omega, h2⟩
    · exact ⟨m'.toNat, by omega, by omega⟩
  have HM := Lib.hid hm
  have HR := Lib.hid r0
  have HWH := Lib.hid (show Wr zs l m 0 [] k0 f0 k' f' from by
    rcases hwq with ⟨p, h1, h2, h3, h4, h5⟩ | ⟨h1, h2, h3, h4⟩
    · exact .inr ⟨by rw [h1]; simp, h4.symm, h5.symm⟩
    · refine .inl ⟨h1, rfl, l, ?_, fun _ => rfl⟩
      rw [Int.toNat_natCast] at h4
      exact h4)
  clear hs hb r0 hwq hl hw he hn hm
  have Q0 := Blk.new w #[.int .i64 0, .int .i64 0] 32
  have B0 := (Bel.refl w).alloc (.cells #[.int .i64 0, .int .i64 0] 32)
  obtain ⟨W, hW⟩ : ∃ W, w.alloc (.cells #[.int .i64 0, .int .i64 0] 32) = W := ⟨_, rfl⟩
  obtain ⟨q, hq⟩ : ∃ q, w.heap.size = q := ⟨_, rfl⟩
  rw [hW, hq] at Q0
  rw [hW] at B0
  have Q0 := Lib.hid Q0
  have B0 := Lib.hid B0
  have HW := Lib.hid hW
  have HQ := Lib.hid hq
  clear hW hq
  go_enter Tryz.func11, Tryz.ntmps11
  go_upto_region 1 with fail
  rw [HW.out, HQ.out]
  go_wp2_with fail
  refine (qNew A n c zs W (HS.out.bel B0.out) HN.out HB.out).mono ?_
  rintro r w1 ⟨b, A', c', rfl, hbb, hr, hA, kb⟩
  have Q1 := Lib.hid (Q0.out.bel kb)
  have K1 := Lib.hid (B0.out.trans kb)
  have HBQ := Lib.hid (show q < b from Nat.lt_of_lt_of_le Q0.out.lt hbb)
  have HSB := Lib.hid (show w.heap.size ≤ b from Nat.le_trans (Below.size B0.out) hbb)
  have R1 := Lib.hid (show QT w1 b A' n c' zs 0 none from ⟨0, hr, fun _ => rfl⟩)
  have HBL := Lib.hid (show b < w1.heap.size from hr.blk.lt)
  have HA1 := Lib.hid (fun (hn : 0 < n) (x : Addr) (hx : A' = some x) => show x.block < w1.heap.size from Nat.lt_trans (hA hn x hx).2 HBL.out)
  clear hbb hr hA kb
  have NN := Lib.hid (tN b A' n c' zs 0 none 0 32768 (m : Int) k0 f0 w1 R1.out HR.out (by decide) (by decide))
  go_wp2_with fail
  refine NN.out.mono ?_
  rintro r w2 ⟨rfl, hr, hk⟩
  have R2 := Lib.hid hr
  have Q2 := Lib.hid (Q1.out.kep hk (by have := HBQ.out; omega))
  have K2 := Lib.hid (show Bel w w2 from Kep.bel K1.out hk (fun i hi => by rw [hi]; exact HSB.out))
  have HA2 := Lib.hid (fun (hn : 0 < n) (x : Addr) (hx : A' = some x) => show x.block < w2.heap.size from Nat.lt_of_lt_of_le (HA1.out hn x hx) hk.size)
  have HBL2 := Lib.hid (Nat.lt_of_lt_of_le HBL.out hk.size)
  clear hr hk NN R1 Q1 K1
  go_wp2_with fail
  go_loopw [6, 7] (fun s6 s7 wr => ∃ (i kk : Nat) (ff : Option (Int × Int)) (pre : List E8), s7 = .int .i64 i ∧ i ≤ m ∧ Hid (pre.length ≤ i) ∧ Hid (OwnE wr w2.heap.size s6 pre) ∧ Hid (QT wr b A' n c' zs kk ff) ∧ Hid (Wr zs l m i pre kk ff k' f') ∧ Hid (Kep (fun j => j = b) w2 wr)) (fun _ s7 _ => m - (intOf s7).toNat)
  case atStart => exact ⟨0, k0, f0, [], rfl, Nat.zero_le _, Lib.hid (Nat.le_refl _), Lib.hid (Rw.OwnR.nil_ _ _ _ _), R2, HWH, Lib.hid (Kep.refl _ _)⟩
  case round =>
    obtain ⟨i, kk, ff, pre, rfl, hi, hpl, ho, hrd, hwh, hkp⟩ := hrel
    by_cases hlt : i < m
    · have hlt3 : (i : Int) < m := by omega
      have wI : IntKind.i64.wrap ((i : Int) + 1) = ((i + 1 : Nat) : Int) := by rw [IntWalk.i64_in _ (by have := HM.out; omega)]; omega
      cases ff with
      | none =>
        obtain ⟨hpe, rest, hrl, hll⟩ : pre.length = i ∧ ∃ rest, Rl zs (m - i) rest kk (bef 0 pre pre.length) k' f' ∧ (f' = none → l = pre ++ rest) := by
          rcases hwh.out with h | h
          · exact h.2
          · exact absurd rfl h.1
        rw [show m - i = (m - (i + 1)) + 1 by omega] at hrl
        obtain ⟨x, kn, f1, ⟨o, a, b', c'', d, u, ii, mm, q1, g1, q2, g2, q3, g3, q4, g4, fn, hx, t1, t2, t3, t4, t5, hf1⟩, hww, hor⟩ := hrl
        have HLL := Lib.hid hll
        have HOR := Lib.hid hor
        have HPE := Lib.hid hpe
        have ATC := Lib.hid (tAt b A' n c' zs kk none wr hrd.out)
        obtain ⟨at_, hat⟩ : ∃ a, atOf kk none = a := ⟨_, rfl⟩
        rw [hat] at ATC hf1
        have HF1 := Lib.hid hf1
        obtain ⟨x1, x2, x3, x4, x5, x6, x7, x8⟩ := x
        have hx' := hx
        injection hx' with e1 e2
        injection e2 with e2 e3
        injection e3 with e3 e4
        injection e4 with e4 e5
        injection e5 with e5 e6
        injection e6 with e6 e7
        injection e7 with e7 e8
        rw [← e1] at t1
        rw [← e6] at t3
        rw [← e7] at t4
        rw [← e8] at t5
        have N1 := Lib.hid (fun V (hv : QT V b A' n c' zs kk none) => tN b A' n c' zs kk none 0 63 x1 q1 g1 V hv t1 (by decide) (by decide))
        have N2 := Lib.hid (fun V (hv : QT V b A' n c' zs q1 g1) (ha : 0 < n → ∀ x : Addr, A' = some x → x.block < V.heap.size) => Sm.takeR b A' n c' zs q1 g1 a b' c'' d q2 g2 V hv ha t2)
        rw [← e2, ← e3, ← e4, ← e5] at N2
        have N3 := Lib.hid (fun V (hv : QT V b A' n c' zs q2 g2) => tN b A' n c' zs q2 g2 1 4294967296 x6 q3 g3 V hv t3 (by decide) (by decide))
        have N4 := Lib.hid (fun V (hv : QT V b A' n c' zs q3 g3) => tU b A' n c' zs q3 g3 x7 q4 g4 V hv t4)
        have N5 := Lib.hid (fun V (hv : QT V b A' n c' zs q4 g4) => tU b A' n c' zs q4 g4 x8 kn fn V hv t5)
        obtain ⟨A5, ca5, e5', -⟩ := ho.out.slice
        rw [hpe] at e5'
        subst e5'
        have cE : wr.cell? ⟨b, 2, none⟩ = some (.int .i64 0) := qt_err hrd.out
        clear hll hor hf1 hww hwh hx t1 t2 t3 t4 t5 hat e1 e2 e3 e4 e5 e6 e7 e8 hpe
        go_wp2_with fail
        refine ATC.out.mono ?_
        rintro r wz ⟨rfl, rfl⟩
        clear ATC cE
        go_upto_region 9 with fail
        have T0 := Lib.hid (show Tq w2 (wr.alloc (.cells #[.int .i64 0, .int .i64 0, .int .i64 0, .int .i64 0, .int .i64 0, .int .i64 0, .int .u64 0, .int .u64 0] 53)) b wr.heap.size A' n c' zs kk none 0 0 0 0 0 0 0 0 (.slice A5 i ca5) pre from by
          have ba := (Bel.refl wr).alloc (.cells #[.int .i64 0, .int .i64 0, .int .i64 0, .int .i64 0, .int .i64 0, .int .i64 0, .int .u64 0, .int .u64 0] 53)
          refine ⟨hrd.out.bel ba, Blk.new wr _ _, hkp.out.trans (Kep.of_bel ba), HBL2.out, hkp.out.size, HA2.out, ho.out.bel ba, fun e => ?_⟩
          exact absurd ((Rw.own_blk ho.out e).elim fun _ hC => hC.lt) (Nat.lt_irrefl _))
        obtain ⟨wb, hW⟩ : ∃ W, wr.alloc (.cells #[.int .i64 0, .int .i64 0, .int .i64 0, .int .i64 0, .int .i64 0, .int .i64 0, .int .u64 0, .int .u64 0] 53) = W := ⟨_, rfl⟩
        obtain ⟨p, hp⟩ : ∃ p, wr.heap.size = p := ⟨_, rfl⟩
        rw [hW, hp] at T0
        (try rw [hW, hp])
        clear hW hp ho hrd hkp
        go_wp2_with fail
        refine (N1.out _ T0.out.rd).mono ?_
        rintro r w3 ⟨rfl, hr, hk⟩
        have T1 := Lib.hid (T0.out.call hr hk)
        clear hr hk T0 N1
        have c0 := T1.out.sp.cell 0 rfl
        have z0 := T1.out.sp.frozen 0
        go_upto_region 10 with fail
        have T2 := Lib.hid (T1.out.put (y1 := x1) (y2 := 0) (y3 := 0) (y4 := 0) (y5 := 0) (y6 := 0) (y7 := 0) (y8 := 0) 0 (.int .i64 x1) rfl)
        obtain ⟨WT2, hW⟩ : ∃ W, World.setCell w3 ⟨p, 0, none⟩ (.int .i64 x1) = W := ⟨_, rfl⟩
        rw [hW] at T2 ⊢
        clear hW T1 c0 z0
        go_wp2_with fail
        refine (N2.out _ T2.out.rd T2.out.al).mono ?_
        rintro r w4 ⟨rfl, hr, hk⟩
        have T3 := Lib.hid (T2.out.call hr hk)
        clear hr hk T2 N2
        have c1 := T3.out.sp.cell 1 rfl
        have z1 := T3.out.sp.frozen 1
        have c2 := T3.out.sp.cell 2 rfl
        have z2 := T3.out.sp.frozen 2
        have c3 := T3.out.sp.cell 3 rfl
        have z3 := T3.out.sp.frozen 3
        have c4 := T3.out.sp.cell 4 rfl
        have z4 := T3.out.sp.frozen 4
        go_upto_region 11 with fail
        have T4 := Lib.hid ((((T3.out.put (y1 := x1) (y2 := x2) (y3 := 0) (y4 := 0) (y5 := 0) (y6 := 0) (y7 := 0) (y8 := 0) 1 (.int .i64 x2) rfl).put (y1 := x1) (y2 := x2) (y3 := x3) (y4 := 0) (y5 := 0) (y6 := 0) (y7 := 0) (y8 := 0) 2 (.int .i64 x3) rfl).put (y1 := x1) (y2 := x2) (y3 := x3) (y4 := x4) (y5 := 0) (y6 := 0) (y7 := 0) (y8 := 0) 3 (.int .i64 x4) rfl).put (y1 := x1) (y2 := x2) (y3 := x3) (y4 := x4) (y5 := x5) (y6 := 0) (y7 := 0) (y8 := 0) 4 (.int .i64 x5) rfl)
        obtain ⟨WT4, hW⟩ : ∃ W, World.setCell (World.setCell (World.setCell (World.setCell w4 ⟨p, 1, none⟩ (.int .i64 x2)) ⟨p, 2, none⟩ (.int .i64 x3)) ⟨p, 3, none⟩ (.int .i64 x4)) ⟨p, 4, none⟩ (.int .i64 x5) = W := ⟨_, rfl⟩
        rw [hW] at T4 ⊢
        clear hW T3 c1 z1 c2 z2 c3 z3 c4 z4
        go_wp2_with fail
        refine (N3.out _ T4.out.rd).mono ?_
        rintro r w5 ⟨rfl, hr, hk⟩
        have T5 := Lib.hid (T4.out.call hr hk)
        clear hr hk T4 N3
        have c5 := T5.out.sp.cell 5 rfl
        have z5 := T5.out.sp.frozen 5
        go_upto_region 12 with fail
        have T6 := Lib.hid (T5.out.put (y1 := x1) (y2 := x2) (y3 := x3) (y4 := x4) (y5 := x5) (y6 := x6) (y7 := 0) (y8 := 0) 5 (.int .i64 x6) rfl)
        obtain ⟨WT6, hW⟩ : ∃ W, World.setCell w5 ⟨p, 5, none⟩ (.int .i64 x6) = W := ⟨_, rfl⟩
        rw [hW] at T6 ⊢
        clear hW T5 c5 z5
        go_wp2_with fail
        refine (N4.out _ T6.out.rd).mono ?_
        rintro r w6 ⟨rfl, hr, hk⟩
        have T7 := Lib.hid (T6.out.call hr hk)
        clear hr hk T6 N4
        have c6 := T7.out.sp.cell 6 rfl
        have z6 := T7.out.sp.frozen 6
        go_upto_region 13 with fail
        have T8 := Lib.hid (T7.out.put (y1 := x1) (y2 := x2) (y3 := x3) (y4 := x4) (y5 := x5) (y6 := x6) (y7 := x7) (y8 := 0) 6 (.int .u64 x7) rfl)
        obtain ⟨WT8, hW⟩ : ∃ W, World.setCell w6 ⟨p, 6, none⟩ (.int .u64 x7) = W := ⟨_, rfl⟩
        rw [hW] at T8 ⊢
        clear hW T7 c6 z6
        go_wp2_with fail
        refine (N5.out _ T8.out.rd).mono ?_
        rintro r w7 ⟨rfl, hr, hk⟩
        have T9 := Lib.hid (T8.out.call hr hk)
        clear hr hk T8 N5
        have c7 := T9.out.sp.cell 7 rfl
        have z7 := T9.out.sp.frozen 7
        go_upto_region 14 with fail
        have T10 := Lib.hid (T9.out.put (y1 := x1) (y2 := x2) (y3 := x3) (y4 := x4) (y5 := x5) (y6 := x6) (y7 := x7) (y8 := x8) 7 (.int .u64 x8) rfl)
        obtain ⟨WT10, hW⟩ : ∃ W, World.setCell w7 ⟨p, 7, none⟩ (.int .u64 x8) = W := ⟨_, rfl⟩
        rw [hW] at T10 ⊢
        clear hW T9 c7 z7
        obtain ⟨WC, hWC⟩ : ∃ W, WT10 = W := ⟨_, rfl⟩
        rw [hWC] at T10 ⊢
        clear hWC
        cases fn with
        | none =>
          have cE : WC.cell? ⟨b, 2, none⟩ = some (.int .i64 0) := qt_err T10.out.rd
          have c0 := T10.out.sp.cell 0 rfl
          have c1 := T10.out.sp.cell 1 rfl
          have c2 := T10.out.sp.cell 2 rfl
          have c3 := T10.out.sp.cell 3 rfl
          have c4 := T10.out.sp.cell 4 rfl
          have c5 := T10.out.sp.cell 5 rfl
          have c6 := T10.out.sp.cell 6 rfl
          have c7 := T10.out.sp.cell 7 rfl
          obtain ⟨A6, c6', e6, hrs⟩ := T10.out.own.slice
          rw [HPE.out] at e6 hrs
          injection e6 with e6 e7 e8
          subst e6 e8
          have LAS := Lib.hid (fun V (hv : Tq w2 V b p A' n c' zs kn none x1 x2 x3 x4 x5 x6 x7 x8 (.slice A5 i ca5) pre ∨ Tq w2 V b p A' n c' zs kn f1 x1 x2 x3 x4 x5 x6 x7 x8 (.slice A5 i ca5) pre) => lastR A5 i ca5 pre V (own_rs5 (hv.elim (fun t => t.own) (fun t => t.own)) HPE.out) (by have := HM.out; omega))
          obtain ⟨BF, hBF⟩ : ∃ x, bef 0 pre i = x := ⟨_, rfl⟩
          have HF1 := Lib.hid (show f1 = failOf none (qE BF (x1, x2, x3, x4, x5, x6, x7, x8)) at_ by rw [← hBF, ← HPE.out]; exact HF1.out)
          rw [hBF] at LAS
          have ON := Lib.hid (fun V => oneR BF x1 x2 x3 x4 x5 x6 x7 x8 V)
          obtain ⟨e3, he3⟩ : ∃ e, qE BF (x1, x2, x3, x4, x5, x6, x7, x8) = e := ⟨_, rfl⟩
          rw [he3] at ON HF1
          clear he3 hrs hBF c0 c1 c2 c3 c4 c5 c6 c7
          go_upto_region 15 with fail
          refine wp_region_held_drew (S := fun Vx => Tq w2 Vx b p A' n c' zs kn none x1 x2 x3 x4 x5 x6 x7 x8 (.slice A5 i ca5) pre ∨ Tq w2 Vx b p A' n c' zs kn f1 x1 x2 x3 x4 x5 x6 x7 x8 (.slice A5 i ca5) pre) (by kernel_rfl) (.inl (T10.out.bel (Bel.refl _).drew)) (fun hS0 => ?_)
          have TQ0 := Lib.hid (show Tq w2 (World.drew WC) b p A' n c' zs kn none x1 x2 x3 x4 x5 x6 x7 x8 (.slice A5 i ca5) pre from T10.out.bel (Bel.refl _).drew)
          obtain ⟨w6, hw6⟩ : ∃ w6, World.drew WC = w6 := ⟨_, rfl⟩
          rw [hw6] at hS0 TQ0 ⊢
          clear hw6
          refine wpAnyH_take (i := 0) (oi := { dst := some 53, op := .move (.tmp 4), type := 66, pos := "ref.go:196", after := #[], guard := none }) (v := .pointer (some ⟨b, 0, none⟩)) rfl (by kernel_rfl) (by kernel_rfl) (by kernel_rfl) (fun _ _ _ h => h) (Or.inl ⟨by rfl, by intro w hSw; clear hSw; go_simp⟩) hS0 ?_
          try simp only [Act.put, List.setIfInBounds_toArray, List.set_cons_zero, List.set_cons_succ]
          refine wpAnyH_take (i := 1) (oi := { dst := some 54, op := .load 53 (.tmp 9), type := 53, pos := "ref.go:196", after := #[], guard := none }) (v := .agg #[.int .i64 x1, .int .i64 x2, .int .i64 x3, .int .i64 x4, .int .i64 x5, .int .i64 x6, .int .u64 x7, .int .u64 x8]) rfl (by kernel_rfl) (by kernel_rfl) (by kernel_rfl) (fun _ _ _ h => h) (yieldsIf_load_mid (by rfl) _ _ rfl _ _ rfl _ _ (fun w h => h.elim (fun t => Pm.rngB (C := [.int .i64 x1, .int .i64 x2, .int .i64 x3, .int .i64 x4, .int .i64 x5, .int .i64 x6, .int .u64 x7, .int .u64 x8]) t.sp) (fun t => Pm.rngB (C := [.int .i64 x1, .int .i64 x2, .int .i64 x3, .int .i64 x4, .int .i64 x5, .int .i64 x6, .int .u64 x7, .int .u64 x8]) t.sp)) Tryz.underlying53 rfl info_E) hS0 ?_
          try simp only [Act.put, List.setIfInBounds_toArray, List.set_cons_zero, List.set_cons_succ]
          refine wpAnyH_take (i := 2) (oi := { dst := some 55, op := .move (.tmp 6), type := 22, pos := "ref.go:196", after := #[], guard := none }) (v := .slice A5 i ca5) rfl (by kernel_rfl) (by kernel_rfl) (by kernel_rfl) (fun _ _ _ h => h) (Or.inl ⟨by rfl, by intro w hSw; clear hSw; go_simp⟩) hS0 ?_
          try simp only [Act.put, List.setIfInBounds_toArray, List.set_cons_zero, List.set_cons_succ]
          refine Rw.still_take (i := 3) (x := { dst := some 56, op := .call { callee := .value (.func 42), args := #[.tmp 55], argTypes := #[22] }, type := 3, pos := "ref.go:196", after := #[{ on := 2, ground := .data }], guard := none }) (v := .int .i64 BF) rfl (by kernel_rfl) (by kernel_rfl) (by kernel_rfl) (fun _ _ _ h => h) ⟨by rfl, 42, #[.slice A5 i ca5], by intro w hSw; clear hSw; go_simp, fun w h => LAS.out _ h⟩ hS0 ?_
          try simp only [Act.put, List.setIfInBounds_toArray, List.set_cons_zero, List.set_cons_succ]
          refine wpAnyH_take (i := 5) (oi := { dst := some 58, op := .move (.tmp 8), type := 3, pos := "ref.go:196", after := #[], guard := none }) (v := .int .i64 at_) rfl (by kernel_rfl) (by kernel_rfl) (by kernel_rfl) (fun _ _ _ h => h) (Or.inl ⟨by rfl, by intro w hSw; clear hSw; go_simp⟩) hS0 ?_
          try simp only [Act.put, List.setIfInBounds_toArray, List.set_cons_zero, List.set_cons_succ]
          refine wpAnyH_ready (rs := [4]) (by kernel_rfl) (by simp) ?_
          refine AllReadyH.cons (o := { dst := some 57, op := .call { callee := .value (.func 41), args := #[.tmp 54, .tmp 56], argTypes := #[53, 3] }, type := 25, pos := "ref.go:196", after := #[{ on := 1, ground := .data }, { on := 3, ground := .data }, { on := 3, ground := .chain }], guard := none }) rfl (fun K hK => ?_) AllReadyH.nil
          go_simp
          refine (ON.out _).mono ?_
          rintro e v1 ⟨rfl, kb⟩
          go_wp2_with fail
          refine hK.out _ _ (.inl (TQ0.out.bel kb)) (fun hS1 => ?_)
          clear hK K
          try simp only [Act.put, List.setIfInBounds_toArray, List.set_cons_zero, List.set_cons_succ]
          refine wpAnyH_ready (rs := [6]) (by kernel_rfl) (by simp) ?_
          refine AllReadyH.cons (o := { dst := some 59, op := .call { callee := .value (.func 40), args := #[.tmp 53, .tmp 57, .tmp 58], argTypes := #[66, 25, 3] }, type := 0, pos := "ref.go:196", after := #[{ on := 0, ground := .data }, { on := 4, ground := .data }, { on := 5, ground := .data }, { on := 4, ground := .chain }], guard := none }) rfl (fun K hK => ?_) AllReadyH.nil
          go_simp
          refine (tFail b A' n c' zs kn none e3 at_ _ (TQ0.out.bel kb).rd).mono ?_
          rintro e v2 ⟨rfl, hr, hk⟩
          go_wp2_with fail
          refine hK.out _ _ (.inr (by rw [HF1.out]; exact (TQ0.out.bel kb).call hr hk)) (fun hS2 => ?_)
          clear hK K
          try simp only [Act.put, List.setIfInBounds_toArray, List.set_cons_zero, List.set_cons_succ]
          refine wpAnyH_done (by kernel_rfl) ?_ _
          have TZ := Lib.hid (show Tq w2 v2 b p A' n c' zs kn f1 x1 x2 x3 x4 x5 x6 x7 x8 (.slice A5 i ca5) pre from by rw [HF1.out]; exact (TQ0.out.bel kb).call hr hk)
          clear hr hk kb TQ0 hS2
          obtain ⟨wz, hwz⟩ : ∃ W, v2 = W := ⟨_, rfl⟩
          rw [hwz] at TZ ⊢
          clear hwz
          have HWN := Lib.hid (show Wr zs l m (i + 1) (pre ++ [(x1, x2, x3, x4, x5, x6, x7, x8)]) kn f1 k' f' from by
            rcases HOR.out with ⟨h1, t, h2, h3⟩ | ⟨p, h1, h2, h3, h4⟩
            · refine .inl ⟨h1, by rw [List.length_append, HPE.out]; rfl, t, by rw [srt_bef]; exact h3, fun h => ?_⟩
              rw [HLL.out h, h2]; simp
            · exact .inr ⟨by rw [h1]; simp, h3.symm, h4.symm⟩)
          clear T10 cE
          have c0 := TZ.out.sp.cell 0 rfl
          have c1 := TZ.out.sp.cell 1 rfl
          have c2 := TZ.out.sp.cell 2 rfl
          have c3 := TZ.out.sp.cell 3 rfl
          have c4 := TZ.out.sp.cell 4 rfl
          have c5 := TZ.out.sp.cell 5 rfl
          have c6 := TZ.out.sp.cell 6 rfl
          have c7 := TZ.out.sp.cell 7 rfl
          have HX := Lib.hid (Rw.rs_one eR (r := (x1, x2, x3, x4, x5, x6, x7, x8)) (Kk.Blk.new wz #[.int .i64 x1, .int .i64 x2, .int .i64 x3, .int .i64 x4, .int .i64 x5, .int .i64 x6, .int .u64 x7, .int .u64 x8] 53))
          have B5 := (Bel.refl wz).alloc (.cells #[.int .i64 x1, .int .i64 x2, .int .i64 x3, .int .i64 x4, .int .i64 x5, .int .i64 x6, .int .u64 x7, .int .u64 x8] 53)
          have O5 := Lib.hid (TZ.out.own.bel B5)
          have R5 := Lib.hid (TZ.out.rd.bel B5)
          have K4 := Lib.hid TZ.out.kep
          have K5 := Lib.hid (K4.out.trans (Kep.of_bel B5))
          clear B5 TZ
          go_wp2_with (at_builtin; refine Rw.append_R eR rfl _ _ _ 53 rfl underE zero_E rfl (by decide) w2.heap.size _ pre rfl O5.out (some ⟨wz.heap.size, 0, none⟩) 1 1 [(x1, x2, x3, x4, x5, x6, x7, x8)] rfl HX.out (by have := HPE.out; have := HM.out; omega) (by have := K4.out.size; simp; omega) ?_; intro v' w6 hown' hgrow)
          have hgrow : World.grownBy _ w6 (Value.ownBlock (.slice A5 i ca5)) := hgrow
          have O6 := Lib.hid hown'
          have R6 := Lib.hid (show QT w6 b A' n c' zs kn _ from by
            rcases hob : Value.ownBlock (.slice A5 i ca5) with _ | j
            · rw [hob] at hgrow
              exact R5.out.bel ⟨hgrow.os, hgrow.tape, hgrow.output, hgrow.size, fun i hi => hgrow.block i hi (by simp)⟩
            · rw [hob] at hgrow
              have hjb : b ≠ j := fun e => by
                subst e
                obtain ⟨C', hC'⟩ := qt_blk R5.out
                exact Rw.own_ne O5.out hC' (by decide) hob
              refine R5.out.kep (kep_grown hgrow) hjb (fun hn x hx => ?_)
              have h1 := HA2.out hn x hx
              have h2 := Rw.own_ge O5.out hob
              omega)
          have K6 := Lib.hid (show Kep (fun j => j = b) w2 w6 from ⟨hgrow.os.trans K5.out.os, hgrow.tape.trans K5.out.tape, hgrow.output.trans K5.out.output, Nat.le_trans K5.out.size hgrow.size, fun j hj hne => (hgrow.block j (Nat.lt_of_lt_of_le hj K5.out.size) (fun e => by
            have h2 := Rw.own_ge O5.out e.symm
            omega)).trans (K5.out.block j hj hne)⟩)
          have L6 := Lib.hid (show (pre ++ [(x1, x2, x3, x4, x5, x6, x7, x8)]).length ≤ i + 1 by rw [List.length_append, HPE.out]; exact Nat.le_refl _)
          clear hown' hgrow
          go_wp2_with fail
          go_roundw
          case rel => exact ⟨i + 1, kn, _, pre ++ [(x1, x2, x3, x4, x5, x6, x7, x8)], rfl, by omega, L6, O6, R6, HWN, K6⟩
          case measure => have := HM.out; simp [intOf]; omega
        | some pf =>
          have cE : WC.cell? ⟨b, 2, none⟩ = some (.int .i64 pf.1) := qt_err T10.out.rd
          have fe : (pf.1 == 0) = false := beq_eq_false_iff_ne.2 (qt_ne T10.out.rd)
          have HWN := Lib.hid (show Wr zs l m (i + 1) (pre ++ [(x1, x2, x3, x4, x5, x6, x7, x8)]) kn (some pf) k' f' from by
            have hf : f1 = some pf := by rw [HF1.out, fail_some]
            rcases HOR.out with ⟨h1, t, h2, h3⟩ | ⟨p, h1, h2, h3, h4⟩
            · rw [hf] at h1; cases h1
            · exact .inr ⟨by simp, h3.symm, by rw [h4, hf]⟩)
          obtain ⟨z, hz⟩ : ∃ z, pf.1 = z := ⟨_, rfl⟩
          rw [hz] at cE fe
          clear hz
          have TZ := T10
          clear T10
          obtain ⟨wz, hwz⟩ : ∃ W, WC = W := ⟨_, rfl⟩
          rw [hwz] at TZ cE ⊢
          clear hwz
          have c0 := TZ.out.sp.cell 0 rfl
          have c1 := TZ.out.sp.cell 1 rfl
          have c2 := TZ.out.sp.cell 2 rfl
          have c3 := TZ.out.sp.cell 3 rfl
          have c4 := TZ.out.sp.cell 4 rfl
          have c5 := TZ.out.sp.cell 5 rfl
          have c6 := TZ.out.sp.cell 6 rfl
          have c7 := TZ.out.sp.cell 7 rfl
          have HX := Lib.hid (Rw.rs_one eR (r := (x1, x2, x3, x4, x5, x6, x7, x8)) (Kk.Blk.new wz #[.int .i64 x1, .int .i64 x2, .int .i64 x3, .int .i64 x4, .int .i64 x5, .int .i64 x6, .int .u64 x7, .int .u64 x8] 53))
          have B5 := (Bel.refl wz).alloc (.cells #[.int .i64 x1, .int .i64 x2, .int .i64 x3, .int .i64 x4, .int .i64 x5, .int .i64 x6, .int .u64 x7, .int .u64 x8] 53)
          have O5 := Lib.hid (TZ.out.own.bel B5)
          have R5 := Lib.hid (TZ.out.rd.bel B5)
          have K4 := Lib.hid TZ.out.kep
          have K5 := Lib.hid (K4.out.trans (Kep.of_bel B5))
          clear B5 TZ
          go_wp2_with (at_builtin; refine Rw.append_R eR rfl _ _ _ 53 rfl underE zero_E rfl (by decide) w2.heap.size _ pre rfl O5.out (some ⟨wz.heap.size, 0, none⟩) 1 1 [(x1, x2, x3, x4, x5, x6, x7, x8)] rfl HX.out (by have := HPE.out; have := HM.out; omega) (by have := K4.out.size; simp; omega) ?_; intro v' w6 hown' hgrow)
          have hgrow : World.grownBy _ w6 (Value.ownBlock (.slice A5 i ca5)) := hgrow
          have O6 := Lib.hid hown'
          have R6 := Lib.hid (show QT w6 b A' n c' zs kn _ from by
            rcases hob : Value.ownBlock (.slice A5 i ca5) with _ | j
            · rw [hob] at hgrow
              exact R5.out.bel ⟨hgrow.os, hgrow.tape, hgrow.output, hgrow.size, fun i hi => hgrow.block i hi (by simp)⟩
            · rw [hob] at hgrow
              have hjb : b ≠ j := fun e => by
                subst e
                obtain ⟨C', hC'⟩ := qt_blk R5.out
                exact Rw.own_ne O5.out hC' (by decide) hob
              refine R5.out.kep (kep_grown hgrow) hjb (fun hn x hx => ?_)
              have h1 := HA2.out hn x hx
              have h2 := Rw.own_ge O5.out hob
              omega)
          have K6 := Lib.hid (show Kep (fun j => j = b) w2 w6 from ⟨hgrow.os.trans K5.out.os, hgrow.tape.trans K5.out.tape, hgrow.output.trans K5.out.output, Nat.le_trans K5.out.size hgrow.size, fun j hj hne => (hgrow.block j (Nat.lt_of_lt_of_le hj K5.out.size) (fun e => by
            have h2 := Rw.own_ge O5.out e.symm
            omega)).trans (K5.out.block j hj hne)⟩)
          have L6 := Lib.hid (show (pre ++ [(x1, x2, x3, x4, x5, x6, x7, x8)]).length ≤ i + 1 by rw [List.length_append, HPE.out]; exact Nat.le_refl _)
          clear hown' hgrow
          go_wp2_with fail
          go_roundw
          case rel => exact ⟨i + 1, kn, _, pre ++ [(x1, x2, x3, x4, x5, x6, x7, x8)], rfl, by omega, L6, O6, R6, HWN, K6⟩
          case measure => have := HM.out; simp [intOf]; omega
      | some p =>
        have cE : wr.cell? ⟨b, 2, none⟩ = some (.int .i64 p.1) := qt_err hrd.out
        have fe : (p.1 == 0) = false := beq_eq_false_iff_ne.2 (qt_ne hrd.out)
        obtain ⟨q1, q2⟩ : kk = k' ∧ some p = f' := by
          rcases hwh.out with h | h
          · cases h.1
          · exact h.2
        have HNZ := Lib.hid (show e1 ≠ 0 from fun h0 => by
          have h1 : endOf zs.length k' f' = p := by rw [← q2]; rfl
          have h2 := HE.out.symm.trans h1
          exact absurd (show p.1 = 0 by rw [← h2]; exact h0) (qt_ne hrd.out))
        have hrd : Hid (QT wr b A' n c' zs k' f') := Lib.hid (by rw [← q1, ← q2]; exact hrd.out)
        clear q1 q2
        obtain ⟨z, hz⟩ : ∃ z, p.1 = z := ⟨_, rfl⟩
        rw [hz] at cE fe
        clear hwh hz
        have Q3 := Lib.hid (Q2.out.kep hkp.out (by have := HBQ.out; omega))
        have K3 := Lib.hid (show Bel w wr from Kep.bel K2.out hkp.out (fun i hi => by rw [hi]; exact HSB.out))
        have EN := Lib.hid (tEnd b A' n c' zs k' f' wr hrd.out)
        rw [HE.out] at EN
        have EN := Lib.hid (show Calls Tryz.prog 43 #[.pointer (some ⟨b, 0, none⟩)] wr fun e w' => e = .returned (.agg #[.int .i64 e1, .int .i64 e2]) ∧ Bel wr w' from EN.out)
        have HFP := Lib.hid (fun p (hp : f' = some p) => qt_ne (by rw [hp] at hrd; exact hrd.out))
        have O3 := Lib.hid (show OwnE wr w.heap.size _ pre from ho.out.mono (Below.size K2.out))
        clear hkp ho hrd
        go_wp2_with fail
        refine EN.out.mono ?_
        rintro r w4 ⟨rfl, kb⟩
        have Q4 := Lib.hid (Q3.out.bel kb)
        have K4 := Lib.hid (K3.out.trans kb)
        have O4 := Lib.hid (O3.out.bel kb)
        clear kb EN Q3 K3 O3
        have T0 := Blk.new w4 #[.int .i64 e1, .int .i64 e2] 32
        have TB := (Bel.refl w4).alloc (.cells #[.int .i64 e1, .int .i64 e2] 32)
        go_upto_region 18 with fail
        obtain ⟨W5, hW⟩ : ∃ W, w4.alloc (.cells #[.int .i64 e1, .int .i64 e2] 32) = W := ⟨_, rfl⟩
        obtain ⟨u, hu⟩ : ∃ u, w4.heap.size = u := ⟨_, rfl⟩
        rw [hW] at T0 TB ⊢
        rw [hu] at T0 ⊢
        have T5 := Lib.hid T0
        have Q5 := Lib.hid (Q4.out.bel TB)
        have K5 := Lib.hid (K4.out.trans TB)
        have O5 := Lib.hid (O4.out.bel TB)
        have LU := Lib.hid (show q < u by rw [← hu]; exact Q4.out.lt)
        clear hW hu T0 TB Q4 K4 O4
        have hqu : q ≠ u := by have := LU.out; omega
        have t0 := T5.out.cell 0 rfl
        have t1 := T5.out.cell 1 rfl
        have q0 := Q5.out.cell 0 rfl
        have q1 := Q5.out.cell 1 rfl
        have fq0 := Q5.out.frozen 0
        have fq1 := Q5.out.frozen 1
        have HLQ := Lib.hid (show w.heap.size ≤ q by rw [HQ.out]; exact Nat.le_refl _)
        have h0 := HNZ.out
        have h1 : (e1 != 0) = true := by rw [bne_iff_ne]; exact h0
        have H0 := Lib.hid h0
        have HE1 := Lib.hid (show rdE (e1, e2) l = (e1, e2) from if_pos h0)
        have EQ := Lib.hid (fun V => (Rw.neq_fault e1 e2 0 0 V).trans (show Result.ok (Value.bool (!decide ((e1, e2) = ((0 : Int), (0 : Int))))) V = Result.ok (.bool true) V by rw [decide_eq_false (fun h => h0 (by injection h))]; rfl))
        clear h0
        go_wp2_with (refine Rw.wpList_val (by rfl) (.bool true) (fun w => Rw.exec_neq rfl _ _ rfl rfl (by kernel_rfl) EQ.out w) ?_)
        go_wp2_with fail
        go_region
        all_goals
          go_wp2_with fail
          have QF := ((Q5.out.set 0 (.int .i64 e1)).set 1 (.int .i64 e2)).bel (Bel.refl _).drew
          refine bodyPost_ret (res_tc rfl _ _ ⟨q, 0, none⟩ _ _ rfl rfl (load_flt QF)) rfl ⟨_, by rw [HE1.out], ?_, ((K5.out.set HLQ.out _).set HLQ.out _).drew⟩
          unfold rdL
          rw [HE1.out, if_neg H0.out]
          exact Rw.OwnR.nil_ _ _ _ _
    · obtain rfl : i = m := by omega
      have HEQ := Lib.hid (show e1 = 0 → pre = l from fun h0 => by
        rcases hwh.out with ⟨h1, h2, rest, h3, h4⟩ | ⟨h1, h2, h3⟩
        · rw [Nat.sub_self] at h3
          obtain ⟨r1, r2, r3⟩ := h3
          rw [h4 r3, r1]; simp
        · exfalso
          cases ff with
          | none => exact h1 rfl
          | some p =>
            have h5 : endOf zs.length k' f' = p := by rw [← h3]; rfl
            have h6 := HE.out.symm.trans h5
            exact absurd (show p.1 = 0 by rw [← h6]; exact h0) (qt_ne hrd.out))
      obtain ⟨q1, q2⟩ : kk = k' ∧ ff = f' := by
        rcases hwh.out with ⟨h1, h2, rest, h3, h4⟩ | ⟨h1, h2, h3⟩
        · rw [Nat.sub_self] at h3
          obtain ⟨r1, r2, r3⟩ := h3
          exact ⟨r2.symm, by rw [h1, r3]⟩
        · exact ⟨h2, h3⟩
      have hrd : Hid (QT wr b A' n c' zs k' f') := Lib.hid (by rw [← q1, ← q2]; exact hrd.out)
      clear q1 q2 hwh
      have Q3 := Lib.hid (Q2.out.kep hkp.out (by have := HBQ.out; omega))
      have K3 := Lib.hid (show Bel w wr from Kep.bel K2.out hkp.out (fun i hi => by rw [hi]; exact HSB.out))
      have EN := Lib.hid (tEnd b A' n c' zs k' f' wr hrd.out)
      rw [HE.out] at EN
      have EN := Lib.hid (show Calls Tryz.prog 43 #[.pointer (some ⟨b, 0, none⟩)] wr fun e w' => e = .returned (.agg #[.int .i64 e1, .int .i64 e2]) ∧ Bel wr w' from EN.out)
      have HFP := Lib.hid (fun p (hp : f' = some p) => qt_ne (by rw [hp] at hrd; exact hrd.out))
      have O3 := Lib.hid (show OwnE wr w.heap.size _ pre from ho.out.mono (Below.size K2.out))
      clear hkp ho hrd
      go_wp2_with fail
      refine EN.out.mono ?_
      rintro r w4 ⟨rfl, kb⟩
      have Q4 := Lib.hid (Q3.out.bel kb)
      have K4 := Lib.hid (K3.out.trans kb)
      have O4 := Lib.hid (O3.out.bel kb)
      clear kb EN Q3 K3 O3
      have T0 := Blk.new w4 #[.int .i64 e1, .int .i64 e2] 32
      have TB := (Bel.refl w4).alloc (.cells #[.int .i64 e1, .int .i64 e2] 32)
      go_upto_region 18 with fail
      obtain ⟨W5, hW⟩ : ∃ W, w4.alloc (.cells #[.int .i64 e1, .int .i64 e2] 32) = W := ⟨_, rfl⟩
      obtain ⟨u, hu⟩ : ∃ u, w4.heap.size = u := ⟨_, rfl⟩
      rw [hW] at T0 TB ⊢
      rw [hu] at T0 ⊢
      have T5 := Lib.hid T0
      have Q5 := Lib.hid (Q4.out.bel TB)
      have K5 := Lib.hid (K4.out.trans TB)
      have O5 := Lib.hid (O4.out.bel TB)
      have LU := Lib.hid (show q < u by rw [← hu]; exact Q4.out.lt)
      clear hW hu T0 TB Q4 K4 O4
      have hqu : q ≠ u := by have := LU.out; omega
      have t0 := T5.out.cell 0 rfl
      have t1 := T5.out.cell 1 rfl
      have q0 := Q5.out.cell 0 rfl
      have q1 := Q5.out.cell 1 rfl
      have fq0 := Q5.out.frozen 0
      have fq1 := Q5.out.frozen 1
      have HLQ := Lib.hid (show w.heap.size ≤ q by rw [HQ.out]; exact Nat.le_refl _)
      by_cases h0 : e1 = 0
      case neg =>
        have h1 : (e1 != 0) = true := by rw [bne_iff_ne]; exact h0
        have H0 := Lib.hid h0
        have HE1 := Lib.hid (show rdE (e1, e2) l = (e1, e2) from if_pos h0)
        have EQ := Lib.hid (fun V => (Rw.neq_fault e1 e2 0 0 V).trans (show Result.ok (Value.bool (!decide ((e1, e2) = ((0 : Int), (0 : Int))))) V = Result.ok (.bool true) V by rw [decide_eq_false (fun h => h0 (by injection h))]; rfl))
        clear h0
        go_wp2_with (refine Rw.wpList_val (by rfl) (.bool true) (fun w => Rw.exec_neq rfl _ _ rfl rfl (by kernel_rfl) EQ.out w) ?_)
        go_wp2_with fail
        go_region
        all_goals
          go_wp2_with fail
          have QF := ((Q5.out.set 0 (.int .i64 e1)).set 1 (.int .i64 e2)).bel (Bel.refl _).drew
          refine bodyPost_ret (res_tc rfl _ _ ⟨q, 0, none⟩ _ _ rfl rfl (load_flt QF)) rfl ⟨_, by rw [HE1.out], ?_, ((K5.out.set HLQ.out _).set HLQ.out _).drew⟩
          unfold rdL
          rw [HE1.out, if_neg H0.out]
          exact Rw.OwnR.nil_ _ _ _ _
      obtain ⟨h2, -, -⟩ := end_e2 HE.out HFP.out h0
      subst h2
      subst h0
      have HPR := Lib.hid (HEQ.out rfl)
      rw [HPR.out] at O5
      obtain ⟨Av, cv, e5', hrs⟩ := Rw.OwnR.slice O5.out
      subst e5'
      have SU := Lib.hid (sumR Av l.length cv l W5 hrs (by have := HL.out; omega) HWD.out)
      rw [sum_is] at SU
      obtain ⟨SN, hSN⟩ : ∃ x, (sumP l).1 = x := ⟨_, rfl⟩
      rw [hSN] at SU
      have EQ := Lib.hid (fun V => (Rw.neq_fault 0 0 0 0 V).trans (by first | (rw [decide_eq_true (rfl : ((0 : Int), (0 : Int)) = (0, 0))]; done) | (rw [decide_eq_true (rfl : ((0 : Int), (0 : Int)) = (0, 0))]; rfl)))
      clear hrs hSN q0 q1 fq0 fq1
      go_wp2_with (refine Rw.wpList_val (by rfl) (.bool false) (fun w => Rw.exec_neq rfl _ _ rfl rfl (by kernel_rfl) EQ.out w) ?_)
      refine SU.out.mono ?_
      rintro r w6 ⟨rfl, kb⟩
      have Q6 := Lib.hid (Q5.out.bel kb)
      have K6 := Lib.hid (K5.out.trans kb)
      have O6 := Lib.hid (O5.out.bel kb)
      clear kb SU EQ t0 t1
      have q0 := Q6.out.cell 0 rfl
      have q1 := Q6.out.cell 1 rfl
      have fq0 := Q6.out.frozen 0
      have fq1 := Q6.out.frozen 1
      by_cases hov : 4611686018427387904 < tot l
      · have HE1 := Lib.hid (show rdE (0, 0) l = (12, 0) from by unfold rdE; rw [if_neg (by simp), if_pos hov])
        rw [decide_eq_true hov]
        clear hov
        go_wp2_with fail
        have QF := ((Q6.out.set 0 (.int .i64 12)).set 1 (.int .i64 0))
        refine bodyPost_ret (res_tc rfl _ _ ⟨q, 0, none⟩ _ _ rfl rfl (load_flt QF)) rfl ⟨_, by rw [HE1.out], ?_, (K6.out.set HLQ.out _).set HLQ.out _⟩
        unfold rdL
        rw [HE1.out, if_neg (by decide)]
        exact Rw.OwnR.nil_ _ _ _ _
      · have HE1 := Lib.hid (show rdE (0, 0) l = (0, 0) from by unfold rdE; rw [if_neg (by simp), if_neg hov])
        have OF := Lib.hid (show OwnE ((w6.setCell ⟨q, 0, none⟩ (.int .i64 0)).setCell ⟨q, 1, none⟩ (.int .i64 0)) w.heap.size _ l from O6.out.kep (((Kk.Kep.refl (fun j => j = q) w6).set_self 0 _).set_self 1 _) (fun j hj e => by
          subst e
          exact Rw.own_ne O6.out Q6.out (by decide) hj))
        rw [decide_eq_false hov]
        clear hov
        go_wp2_with fail
        have QF := ((Q6.out.set 0 (.int .i64 0)).set 1 (.int .i64 0))
        refine bodyPost_ret (res_tc rfl _ _ ⟨q, 0, none⟩ _ _ rfl rfl (load_flt QF)) rfl ⟨_, by rw [HE1.out], ?_, (K6.out.set HLQ.out _).set HLQ.out _⟩
        unfold rdL
        rw [HE1.out, if_pos rfl]
        exact OF.out
end Qu
end Go.Proofs.YtcefjigbaglmeaaGreat
end

section
/-
  What distraintkit.KeptBytes answers in this program of bytes that were lent and left alone: true.
  Conditions: at most 10^9 bytes.
-/
namespace Go.Proofs.YtcefjigbaglmeaaGreat
open Go.RowKit Go.Shelf
set_option linter.unusedVariables false
namespace Cd

set_option maxRecDepth 100000 in
set_option maxHeartbeats 2000000 in
theorem kept (base : Nat) (v : Value) (B : Option Addr) (n d : Nat) (zs : List Int) (w : World) (hl : Lent base w v n zs) (hb : Ints .u8 w B n zs) (hn : n ≤ 1000000000) :
    Calls Tryz.prog 14 #[v, .slice B n d] w fun e w' => e = .returned (.bool true) ∧ Bel w w' := by
  have hw0 := hl.own
  obtain ⟨g, c, rfl, hc1, hc2, hrow⟩ := hl.row
  obtain ⟨A', c', e', hiA, _, _⟩ := ints_of_own hw0
  obtain ⟨A2, c2', e2', hiW, _, _⟩ := ints_of_own hrow
  injection e' with e1 _ e3
  injection e2' with e4 _ e5
  subst e1 e3 e4 e5
  unfold maxLen at hc2
  have hcl := hl.len
  obtain ⟨A3, hs, hi3⟩ := head_ (some ⟨g, 0, none⟩) (n + 4) c n 4 (zs ++ [201, 202, 203, 204]) w hiW (by omega) (by omega)
  have hz3 : ((zs ++ [201, 202, 203, 204]).drop n).take 4 = [201, 202, 203, 204] := by
    rw [List.drop_left' hcl]; rfl
  rw [hz3] at hi3
  rw [show ((n + 4 : Nat) : Int) = (n : Int) + 4 by omega] at hs
  have hs' : ∀ w' : World, (Instr.slice 23 (.slice (some ⟨g, 0, none⟩) c c) (some (.int .i64 (n : Int))) (some (.int .i64 ((n : Int) + 4))) none).run Tryz.prog w' = .ok (.slice A3 4 (c - n)) w' := by
    intro w'
    have h := hs w'
    rw [slice_lh _ _ _ _ _ _ (by omega) (by omega) (by omega)] at h ⊢
    exact h
  have c1 := conv (hiA.bel ((Bel.refl w).drew)) (c := c)
  have c2 := conv (hb.bel ((Bel.refl w).drew)) (c := d)
  have c3 := conv (hi3.bel ((Bel.refl w).drew)) (c := c - n)
  have c4 := conv (hi3.bel (((Bel.refl w).alloc (.cells #[.int .u8 201, .int .u8 202, .int .u8 203, .int .u8 204] 5)).drew)) (c := c - n)
  have c5 : (convert 23 9 (.slice (some ⟨w.heap.size, 0, none⟩) 4 4)).run Tryz.prog (w.alloc (.cells #[.int .u8 201, .int .u8 202, .int .u8 203, .int .u8 204] 5)).drew = .ok (.string (strOfNums [201, 202, 203, 204])) (w.alloc (.cells #[.int .u8 201, .int .u8 202, .int .u8 203, .int .u8 204] 5)).drew := conv ((sl_lit w [201, 202, 203, 204]).ints.bel ((Bel.refl _).drew)) (c := 4)
  generalize strOfNums zs = s1 at *
  generalize hs4 : strOfNums [201, 202, 203, 204] = s4 at *
  clear hs hs4 hz3 hi3 hiW hiA hrow hw0 hb hl hcl
  have hc : c ≤ 9223372036854775807 := by omega
  have h4 : (n : Int) + 4 ≤ (c : Int) := by omega
  clear hc2
  go_enter Tryz.func14, Tryz.ntmps14
  go_wp2
  go_region
  all_goals
    go_wp2
    go_ret
    exact ⟨rfl, ((Bel.refl _).alloc _).drew⟩
end Cd
end Go.Proofs.YtcefjigbaglmeaaGreat
end

section
/-
  What the law QueueBytes answers: true, for all lists of entries and all bytes. Conditions: the numbers are ints and words; the bytes are bytes.
-/
namespace Go.Proofs.YtcefjigbaglmeaaGreat
open Go.RowKit Go.Shelf
set_option linter.unusedVariables false
set_option linter.unusedSimpArgs false
set_option Elab.async false
namespace Qu
open Cd

theorem rl_len {zs : List Int} : ∀ (m : Nat) (l : List E8) (k : Nat) (bf : Int) (k' : Nat) (f' : Option (Int × Int)), Rl zs m l k bf k' f' → l.length ≤ m
  | 0, l, k, bf, k', f', h => by rw [h.1]; simp
  | m + 1, l, k, bf, k', f', h => by
    obtain ⟨x, k1, f1, _, _, ⟨_, t, rfl, h2⟩ | ⟨_, _, rfl, _⟩⟩ := h
    · have := rl_len m t k1 (cr x) k' f' h2
      simp; omega
    · simp
theorem rq_len {zs : List Int} {l : List E8} {k' : Nat} {f' : Option (Int × Int)} (h : Rq zs l k' f') : l.length ≤ 32768 := by
  obtain ⟨m, k0, f0, _, ⟨_, _, _, rfl, _⟩ | ⟨_, h1, h2, h3⟩⟩ := h
  · simp
  · have := rl_len _ _ _ _ _ _ h3
    omega
theorem ents_rs2 {w : World} {A : Option Addr} {n c : Nat} (h : Ents w A n c) : ∃ l, Rw.RS eR w A n c l ∧ ∀ r ∈ l, Ww r := by
  obtain ⟨h1, h2, h3⟩ := h
  by_cases h0 : 0 < n
  · obtain ⟨b, o, rfl, hb, hr⟩ := h3 h0
    obtain ⟨l, q1, q2, q3⟩ := rows_in eR Ww (w := w) (b := b) (o := o) n (fun i hi => by
      obtain ⟨z0, z1, z2, z3, z4, z5, z6, z7, hz, hc⟩ := hr i hi
      obtain ⟨_, _, _, _, _, _, _, _, _, _, _, _, p1, p2, p3, p4⟩ := hz
      exact ⟨(z0, z1, z2, z3, z4, z5, z6, z7), ⟨⟨p1, p2⟩, p3, p4⟩, hc⟩)
    exact ⟨l, ⟨q1, h1, h2, fun _ => ⟨b, o, rfl, hb, q3⟩⟩, q2⟩
  · obtain rfl : n = 0 := by omega
    exact ⟨[], ⟨rfl, h1, h2, fun h => absurd h (by omega)⟩, fun r hr => by cases hr⟩
set_option maxRecDepth 100000 in
set_option maxHeartbeats 16000000 in
theorem bytesLaw (A : Option Addr) (n c : Nat) (l : List E8) (B : Option Addr) (m d : Nat) (raw : List Int) (w : World) (hi : Rw.RS eR w A n c l) (hw : ∀ r ∈ l, Ww r) (hs : Sl w B m d raw) (hb : Bytes raw) :
    Calls Tryz.prog 3 #[.slice A n c, .slice B m d] w fun e w' => e = .returned (.bool true) ∧ Bel w w' := by
  have HI := Lib.hid hi
  have HW := Lib.hid hw
  have HLN := Lib.hid hi.len
  have HS := Lib.hid hs
  have HBY := Lib.hid hb
  have HRL := Lib.hid (show raw.length = m from hs.ints.1)
  clear hi hs hb hw
  by_cases hlong : 60 < n
  · have AW := Lib.hid (Qu.awake w)
    have hlong3 : (60 : Int) < n := by omega
    go_enter Tryz.func3, Tryz.ntmps3
    go_wp2_with fail
    refine AW.out.mono ?_
    rintro e w1 ⟨rfl, kb⟩
    have KB := Lib.hid (show Bel w w1 from kb)
    clear kb AW
    go_wp2_with fail
    go_ret
    exact ⟨rfl, KB.out⟩
  have hlong3 : ¬ (60 : Int) < n := by omega
  by_cases hlm : 600 < m
  · have AW := Lib.hid (Qu.awake w)
    have hlm3 : (600 : Int) < m := by omega
    go_enter Tryz.func3, Tryz.ntmps3
    go_wp2_with fail
    refine AW.out.mono ?_
    rintro e w1 ⟨rfl, kb⟩
    have KB := Lib.hid (show Bel w w1 from kb)
    clear kb AW
    go_wp2_with fail
    go_ret
    exact ⟨rfl, KB.out⟩
  have hlm3 : ¬ (600 : Int) < m := by omega
  have HN := Lib.hid (show n ≤ 60 ∧ m ≤ 600 by omega)
  clear hlong hlm
  obtain ⟨e0, he0⟩ : ∃ e, (chk l).1 = e := ⟨_, rfl⟩
  obtain ⟨ys, hys⟩ : ∃ ys, (if (chk l).1 = 0 then encL l else []) = ys := ⟨_, rfl⟩
  have HYL := Lib.hid (show ys.length ≤ 1000000 from by
    rw [← hys]
    split
    · rename_i h
      have h1 := encP_len (l.length : Int) l
      have h2 := HLN.out
      have h3 := HN.out
      show (encP (l.length : Int) l).length ≤ 1000000
      omega
    · simp)
  have BY := Lib.hid (show Calls Tryz.prog 5 #[.slice A n c] w fun e w' => ∃ v, e = .returned (.tuple #[v, .int .i64 e0]) ∧ Fresh w w' v ys from by rw [← hys, ← he0]; exact bytes_ A n c l w HI.out (by have := HN.out; omega) (fun r hr => (HW.out r hr).2) (fun r hr => (HW.out r hr).1))
  have BY2 := Lib.hid (fun V (hv : Bel w V) => show Calls Tryz.prog 6 #[.slice A n c] V fun e w' => ∃ v, e = .returned (.tuple #[v, .int .i64 e0]) ∧ Fresh V w' v ys from by rw [← hys, ← he0]; exact bytesR A n c l V (HI.out.bel hv) (by have := HN.out; omega) (fun r hr => (HW.out r hr).2) (fun r hr => (HW.out r hr).1))
  clear hys he0
  go_enter Tryz.func3, Tryz.ntmps3
  go_wp2_with fail
  refine BY.out.mono ?_
  rintro e w3 ⟨vx, rfl, hf⟩
  have X3 := Lib.hid hf.1
  have K3 := Lib.hid (show Bel w w3 from hf.2)
  clear hf BY
  go_wp2_with fail
  refine (BY2.out _ K3.out).mono ?_
  rintro e w4 ⟨vy, rfl, hf⟩
  have Y4 := Lib.hid hf.1
  have X4 := Lib.hid (Kk.owns_bel X3.out hf.2)
  have K4 := Lib.hid (K3.out.trans hf.2)
  clear hf BY2 X3 K3
  obtain ⟨Ax, cx, rfl, hxs⟩ := sl_of_own X4.out
  obtain ⟨Ay, cy, rfl, hys⟩ := sl_of_own Y4.out
  have SM := Lib.hid (same Ax Ay ys.length cx ys.length cy ys w4 hxs.ints hys.ints)
  have OV := Lib.hid (Kk.over_any w.heap.size ys.length (.slice Ax ys.length cx) ys w4 (by have := HYL.out; omega) X4.out)
  clear hxs hys Y4
  go_wp2_with fail
  refine SM.out.mono ?_
  rintro e w9 ⟨rfl, rfl⟩
  clear SM
  go_wp2_with fail
  refine OV.out.mono ?_
  rintro e w5 ⟨rfl, ko⟩
  have K5 := Lib.hid (show Bel w w5 from Kk.Kep.bel K4.out ko (fun k hk => (X4.out.lt k hk).1))
  clear ko OV X4 K4
  have LN := Lib.hid (lent B m d raw w5 (HS.out.bel K5.out) (by have := HN.out; omega))
  go_wp2_with fail
  refine LN.out.mono ?_
  rintro e w6 ⟨vl, rfl, hl, kb⟩
  have HL6 := Lib.hid hl
  have K6 := Lib.hid (K5.out.trans kb)
  clear hl kb LN K5
  obtain ⟨Al, cl, rfl, hls⟩ := sl_of_own HL6.out.own
  obtain ⟨L, k', f', hrq, hk', hnz, hww, hgood⟩ := rq_of raw HBY.out
  obtain ⟨⟨c1, c2⟩, he⟩ : ∃ e, endOf raw.length k' f' = e := ⟨_, rfl⟩
  have HLL := rq_len hrq
  have RD := Lib.hid (read_ Al m cl raw L k' f' c1 c2 w6 hls (by have := HN.out; omega) HBY.out hrq HLL (fun r hr => (hww r hr).2) he)
  have RD2 := Lib.hid (fun V (hv : Bel w6 V) => readR B m d raw L k' f' c1 c2 V (HS.out.bel (K6.out.trans hv)) (by have := HN.out; omega) HBY.out hrq HLL (fun r hr => (hww r hr).2) he)
  obtain ⟨⟨e1, e2⟩, hE⟩ : ∃ x, rdE (c1, c2) L = x := ⟨_, rfl⟩
  obtain ⟨LP, hLP⟩ : ∃ x, rdL (c1, c2) L = x := ⟨_, rfl⟩
  have HLP := Lib.hid (show LP.length ≤ 32768 from by
    rw [← hLP]
    unfold rdL
    split
    · exact HLL
    · simp)
  rw [hE, hLP] at RD RD2
  clear hrq hk' hnz hww hgood he hE hLP HLL hls
  go_wp2_with fail
  refine RD.out.mono ?_
  rintro e w7 ⟨vp, rfl, hp, kb⟩
  have P7 := Lib.hid hp
  have K7 := Lib.hid (show Bel w6 w7 from kb)
  clear hp kb RD
  have F0 := Blk.new w7 #[.int .i64 e1, .int .i64 e2] 32
  have FB := (Bel.refl w7).alloc (.cells #[.int .i64 e1, .int .i64 e2] 32)
  go_upto_region 9 with fail
  obtain ⟨w8, hw8⟩ : ∃ V, w7.alloc (.cells #[.int .i64 e1, .int .i64 e2] 32) = V := ⟨_, rfl⟩
  obtain ⟨g, hg⟩ : ∃ g, w7.heap.size = g := ⟨_, rfl⟩
  rw [hw8] at F0 FB ⊢
  rw [hg] at F0 ⊢
  have F8 := Lib.hid F0
  have K8 := Lib.hid (K7.out.trans FB)
  have P8 := Lib.hid (P7.out.bel FB)
  clear hw8 hg F0 FB K7 P7
  go_wp2_with fail
  refine (RD2.out _ K8.out).mono ?_
  rintro e w9 ⟨vq, rfl, hq, kb⟩
  have Q9 := Lib.hid hq
  have P9 := Lib.hid (P8.out.bel kb)
  have F9 := Lib.hid (F8.out.bel kb)
  have K9 := Lib.hid (K8.out.trans kb)
  clear hq kb RD2 P8 F8 K8
  have G0 := Blk.new w9 #[.int .i64 e1, .int .i64 e2] 32
  have FB := (Bel.refl w9).alloc (.cells #[.int .i64 e1, .int .i64 e2] 32)
  go_upto_region 10 with fail
  obtain ⟨wa, hwa⟩ : ∃ V, w9.alloc (.cells #[.int .i64 e1, .int .i64 e2] 32) = V := ⟨_, rfl⟩
  obtain ⟨g2, hg⟩ : ∃ g, w9.heap.size = g := ⟨_, rfl⟩
  rw [hwa] at G0 FB ⊢
  rw [hg] at G0 ⊢
  have Ga := Lib.hid G0
  have Fa := Lib.hid (F9.out.bel FB)
  have Pa := Lib.hid (P9.out.bel FB)
  have Qa := Lib.hid (Q9.out.bel FB)
  have Ka := Lib.hid (K9.out.trans FB)
  clear hwa hg G0 FB F9 P9 Q9 K9
  obtain ⟨Ap, cp, rfl, hpr⟩ := Pa.out.slice
  obtain ⟨Aq, cq, rfl, hqr⟩ := Qa.out.slice
  have SV := Lib.hid (same_entries Ap Aq LP.length cp LP.length cq LP LP wa hpr hqr (by have := HLP.out; omega) (by have := HLP.out; omega))
  rw [decide_eq_true (rfl : LP = LP)] at SV
  clear hpr hqr
  go_wp2_with fail
  refine SV.out.mono ?_
  rintro e wb ⟨rfl, kb⟩
  have Gb := Lib.hid (Ga.out.bel kb)
  have Fb := Lib.hid (Fa.out.bel kb)
  have Pb := Lib.hid (Pa.out.bel kb)
  have Kb := Lib.hid (Ka.out.trans kb)
  clear kb SV Ga Fa Pa Ka
  have f0 := Fb.out.cell 0 rfl
  have f1_ := Fb.out.cell 1 rfl
  have g0 := Gb.out.cell 0 rfl
  have g1 := Gb.out.cell 1 rfl
  have EQ := Lib.hid (fun V => (Rw.eql_fault e1 e2 e1 e2 V).trans (by rw [decide_eq_true (rfl : (e1, e2) = (e1, e2))]))
  go_wp2_with (refine Rw.wpList_val (by rfl) (.bool true) (fun w => Rw.exec_eql rfl _ _ rfl rfl (by kernel_rfl) EQ.out w) ?_)
  have OVV := Lib.hid (Qu.over_any Ap LP.length cp wb (lay_own Pb.out) (by have := HLP.out; omega))
  refine OVV.out.mono ?_
  rintro e wc ⟨rfl, ko⟩
  have Kc := Lib.hid (show Bel w6 wc from ov_bel Pb.out Kb.out (Nat.le_refl _) ko)
  clear ko OVV f0 f1_ g0 g1 EQ
  have KP := Lib.hid (kept w5.heap.size (.slice Al m cl) B m d raw wc (HL6.out.bel Kc.out) (HS.out.bel (K6.out.trans Kc.out)).ints (by have := HN.out; omega))
  go_wp2_with fail
  refine KP.out.mono ?_
  rintro e wd ⟨rfl, kb⟩
  have Kd := Lib.hid ((K6.out.trans Kc.out).trans kb)
  clear kb KP
  go_wp2_with fail
  refine (Qu.awake _).mono ?_
  rintro e we ⟨rfl, kb⟩
  have KZ := Lib.hid (Kd.out.trans kb)
  clear kb
  go_wp2_with fail
  go_ret
  exact ⟨rfl, KZ.out⟩
theorem bytesLawW (A : Option Addr) (n c : Nat) (B : Option Addr) (m d : Nat) (raw : List Int) (w : World) (hn : n ≤ 9223372036854775807) (hi : Ents w A n c) (hm : m ≤ 9223372036854775807) (hs : Sl w B m d raw) (hb : Bytes raw) :
    Calls Tryz.prog 3 #[.slice A n c, .slice B m d] w fun e w' => e = .returned (.bool true) ∧ Bel w w' := by
  obtain ⟨l, hl, hw⟩ := ents_rs2 hi
  exact bytesLaw A n c l B m d raw w hl hw hs hb
end Qu
end Go.Proofs.YtcefjigbaglmeaaGreat
end
