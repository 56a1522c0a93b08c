/-
  What the reference's Read answers. Conditions: at most 10^6 bytes; the bytes are bytes.
-/
import Derived.Test.YtahhnfnonekbmaaQG
import Derived.Test.YtahhnfnonekbmaaGQRead3
namespace Go.Proofs.Ytahhnfnonekbmaa
open Go.RowKit Go.Shelf
set_option linter.unusedVariables false
set_option linter.unusedSimpArgs false
namespace Hp
open Cd

section
variable {w0 w w' : World} {b p : Nat} {A : Option Addr} {n c : Nat} {zs : List Int} {k k' : Nat} {f f' : Option (Int × Int)} {x1 x2 x3 x4 y1 y2 y3 y4 : Int} {v : Value} {l : List R4}
theorem qt_to (h : QT w b A n c zs k f) : ∃ t : Nat, w.cell? ⟨b, 1, none⟩ = some (.int .i64 (t : Int)) ∧ (f = none → t = k) := by
  obtain ⟨k2, h1, h2⟩ := h
  exact ⟨k2, h1.blk.cell 1 rfl, h2⟩
theorem qt_err (h : QT w b A n c zs k f) : w.cell? ⟨b, 2, none⟩ = some (.int .i64 (fE f)) := by
  obtain ⟨k2, h1, _⟩ := h
  exact h1.blk.cell 2 rfl
theorem qt_ne {q : Int × Int} (h : QT w b A n c zs k (some q)) : q.1 ≠ 0 := by
  obtain ⟨k2, h1, _⟩ := h
  exact h1.flt _ rfl
theorem qt_blk (h : QT w b A n c zs k f) : ∃ C, Blk w b C 87 := by
  obtain ⟨k2, h1, _⟩ := h
  exact ⟨_, h1.blk⟩
theorem fail_at {f2 f3 : Option (Int × Int)} {t k2 : Nat} {e : Int} (h : f2 = none → t = k2) (h3 : ∀ q, f2 = some q → f3 = some q) : failOf f3 e (t : Int) = failOf f3 e (atOf k2 f2) := by
  cases f2 with
  | none => rw [h rfl]; rfl
  | some q => rw [h3 q rfl, fail_some, fail_some]
theorem rn_pos {most d : Int} (h : RN zs k f 1 most d k' f') : 0 ≤ d := by
  rcases h with ⟨q, _, h, _⟩ | ⟨_, tl, e, bad, ⟨x0, t0, e0, b0, hw, h0, h1, hcs⟩, hm, hk', hx⟩
  · omega
  · rcases hcs with h | h | h
    · have := h.2.1; omega
    · have := h.2.2.1; omega
    · have := h.2.1; have := h.2.2.2.1; omega
/-- The memory while the reference reads a hop: its block p; v: what was read ahead of it. -/
structure Tq (w0 w : World) (b p : Nat) (A : Option Addr) (n c : Nat) (zs : List Int) (k : Nat) (f : Option (Int × Int)) (x1 x2 x3 x4 : Int) (v : Value) (l : List R4) : Prop where
  rd : QT w b A n c zs k f
  sp : Blk w p #[.int .i64 x1, .int .i64 x2, .int .i64 x3, .int .i64 x4] 24
  kep : Kep (fun i => i = b) w0 w
  bp : b < w0.heap.size
  hp : w0.heap.size ≤ p
  ap : 0 < n → ∀ x : Addr, A = some x → x.block < w0.heap.size
  own : OwnH w w0.heap.size v l
  np : v.ownBlock ≠ some p
theorem Tq.call (h : Tq w0 w b p A n c zs k f x1 x2 x3 x4 v l) (hr : QT w' b A n c zs k' f') (hk : Kep (fun i => i = b) w w') : Tq w0 w' b p A n c zs k' f' x1 x2 x3 x4 v l :=
  ⟨hr, h.sp.kep hk (by have := h.bp; have := h.hp; omega), h.kep.trans hk, h.bp, h.hp, h.ap, h.own.kep (S := fun i => i = b) (toK hk) (fun j hj e => by
    subst e
    obtain ⟨C, hC⟩ := qt_blk h.rd
    exact Rw.own_ne h.own hC (by decide) hj), h.np⟩
theorem Tq.bel (h : Tq w0 w b p A n c zs k f x1 x2 x3 x4 v l) (hk : Bel w w') : Tq w0 w' b p A n c zs k f x1 x2 x3 x4 v l := h.call (h.rd.bel hk) (Kep.of_bel hk)
theorem Tq.put (h : Tq w0 w b p A n c zs k f x1 x2 x3 x4 v l) (i : Nat) (u : Value)
    (e : (#[.int .i64 x1, .int .i64 x2, .int .i64 x3, .int .i64 x4] : Array Value).setIfInBounds i u = #[.int .i64 y1, .int .i64 y2, .int .i64 y3, .int .i64 y4]) : Tq w0 (w.setCell ⟨p, i, none⟩ u) b p A n c zs k f y1 y2 y3 y4 v l := by
  have hk : Kep (fun i => i = p) w (w.setCell ⟨p, i, none⟩ u) := (Kep.refl _ _).set_self i u
  refine ⟨h.rd.kep hk (by have := h.bp; have := h.hp; omega) (fun hn x hx => by have := h.ap hn x hx; have := h.hp; omega), ?_, kep_past1 h.kep hk h.hp, h.bp, h.hp, h.ap, h.own.kep (S := fun i => i = p) (toK hk) (fun j hj e => h.np (e ▸ hj)), h.np⟩
  rw [← e]
  exact h.sp.set i u
end
set_option maxRecDepth 100000 in
set_option maxHeartbeats 8000000 in
theorem readR (A : Option Addr) (n c : Nat) (zs : List Int) (m k1 : Nat) (f1 : Option (Int × Int)) (L : List R4) (k' : Nat) (f' : Option (Int × Int)) (e1 e2 : Int) (w : World) (hs : Sl w A n c zs) (hn : n ≤ 1000000) (hb : Bytes zs)
    (hr : RN zs 0 none 0 4096 (m : Int) k1 f1) (hm : m ≤ 4096) (hl : L.length = m) (hk : Lk zs L k1 f1 0 k' f') (he : endOf zs.length k' f' = (e1, e2)) :
    Calls Try.prog 31 #[.slice A n c] w fun r w' => ∃ v, r = .returned (.tuple #[v, .agg #[.int .i64 e1, .int .i64 e2]]) ∧ OwnH w' w.heap.size v (if e1 = 0 then L else []) ∧ Bel w w' := by
  have HS := Lib.hid hs
  have HB := Lib.hid hb
  have HR := Lib.hid hr
  have HL := Lib.hid hl
  have HK := Lib.hid hk
  have HE := Lib.hid he
  have HN := Lib.hid hn
  clear hs hb hr hl hk he hn
  have Q0 := Blk.new w #[.int .i64 0, .int .i64 0] 48
  have B0 := (Bel.refl w).alloc (.cells #[.int .i64 0, .int .i64 0] 48)
  obtain ⟨W, hW⟩ : ∃ W, w.alloc (.cells #[.int .i64 0, .int .i64 0] 48) = W := ⟨_, rfl⟩
  obtain ⟨q, hq⟩ : ∃ q, w.heap.size = q := ⟨_, rfl⟩
  rw [hW, hq] at Q0
  rw [hW] at B0
  have Q0 := Lib.hid Q0
  have B0 := Lib.hid B0
  have HW := Lib.hid hW
  have HQ := Lib.hid hq
  clear hW hq
  go_enter Try.func31, Try.ntmps31
  go_upto_region 1 with fail
  rw [HW.out, HQ.out]
  go_wp2_with fail
  refine (qNew A n c zs W (HS.out.bel B0.out) HN.out HB.out).mono ?_
  rintro r w1 ⟨b, A', c', rfl, hbb, hr, hA, kb⟩
  have Q1 := Lib.hid (Q0.out.bel kb)
  have K1 := Lib.hid (B0.out.trans kb)
  have HBQ := Lib.hid (show q < b from Nat.lt_of_lt_of_le Q0.out.lt hbb)
  have HSB := Lib.hid (show w.heap.size ≤ b from Nat.le_trans (Below.size B0.out) hbb)
  have R1 := Lib.hid (show QT w1 b A' n c' zs 0 none from ⟨0, hr, fun _ => rfl⟩)
  have HBL := Lib.hid (show b < w1.heap.size from hr.blk.lt)
  have HA1 := Lib.hid (fun (hn : 0 < n) (x : Addr) (hx : A' = some x) => show x.block < w1.heap.size from Nat.lt_trans (hA hn x hx).2 HBL.out)
  clear hbb hr hA kb
  have NN := Lib.hid (tN b A' n c' zs 0 none 0 4096 (m : Int) k1 f1 w1 R1.out HR.out (by decide) (by decide))
  go_wp2_with fail
  refine NN.out.mono ?_
  rintro r w2 ⟨rfl, hr, hk⟩
  have R2 := Lib.hid hr
  have Q2 := Lib.hid (Q1.out.kep hk (by have := HBQ.out; omega))
  have K2 := Lib.hid (show Bel w w2 from Kep.bel K1.out hk (fun i hi => by rw [hi]; exact HSB.out))
  have HA2 := Lib.hid (fun (hn : 0 < n) (x : Addr) (hx : A' = some x) => show x.block < w2.heap.size from Nat.lt_of_lt_of_le (HA1.out hn x hx) hk.size)
  have HBL2 := Lib.hid (Nat.lt_of_lt_of_le HBL.out hk.size)
  clear hr hk NN R1 Q1 K1
  go_wp2_with fail
  go_loopw [5, 7] (fun s5 s7 wr => ∃ (i kk : Nat) (ff : Option (Int × Int)) (bf : Int), s7 = .int .i64 i ∧ i ≤ m ∧ Hid (OwnH wr w2.heap.size s5 (L.take i)) ∧ Hid (QT wr b A' n c' zs kk ff) ∧ Hid (Lk zs (L.drop i) kk ff bf k' f') ∧ Hid ((i = 0 → bf = 0) ∧ ∀ (j : Nat) (r : R4), i = j + 1 → L[j]? = some r → bf = cr r) ∧ Hid (Kep (fun j => j = b) w2 wr)) (fun _ s7 _ => m - (intOf s7).toNat)
  case atStart => exact ⟨0, k1, f1, 0, rfl, Nat.zero_le _, Lib.hid (Rw.OwnR.nil_ _ _ _ _), R2, HK, Lib.hid ⟨fun _ => rfl, fun j r hj => absurd hj (by omega)⟩, Lib.hid (Kep.refl _ _)⟩
  case round =>
    obtain ⟨i, kk, ff, bf, rfl, hi, ho, hrd, hlk, hbf, hkp⟩ := hrel
    by_cases hlt : i < m
    · have hlt3 : (i : Int) < m := by omega
      cases ff with
      | none =>
        obtain ⟨⟨x1, x2, x3, x4⟩, hx⟩ : ∃ r, L[i]? = some r := ⟨_, List.getElem?_eq_getElem (by rw [HL.out]; exact hlt)⟩
        have hd : L.drop i = (x1, x2, x3, x4) :: L.drop (i + 1) := by
          obtain ⟨h1, h2⟩ := List.getElem?_eq_some_iff.1 hx
          rw [List.drop_eq_getElem_cons h1, h2]
        rw [hd] at hlk
        obtain ⟨kn, fn, ⟨a1, g1, a2, g2, a3, g3, g4, r1, r2, r3, r4, hf'⟩, hlk2⟩ := hlk.out
        have HLK := Lib.hid hlk2
        have HNX := Lib.hid (show L.take (i + 1) = L.take i ++ [(x1, x2, x3, x4)] by rw [List.take_add_one, hx]; rfl)
        have HBN := Lib.hid (show (i + 1 = 0 → x4 = 0) ∧ ∀ (j : Nat) (r : R4), i + 1 = j + 1 → L[j]? = some r → x4 = cr r from ⟨fun h => absurd h (by omega), fun j r hj hr => by
          obtain rfl : i = j := by omega
          rw [hx] at hr
          injection hr with hr
          subst hr
          rfl⟩)
        have HLE := Lib.hid (show (L.take i).length = i by rw [List.length_take, HL.out]; omega)
        have HX4 := Lib.hid (rn_pos r4)
        have S2 := Lib.hid (show ∀ q, g2 = some q → g3 = some q from fun q h => by subst h; exact (rn_some r3).2.2)
        obtain ⟨g5, hg5⟩ : ∃ f, failOf g3 (if x3 = x2 then 3 else 0) (atOf a2 g2) = f := ⟨_, rfl⟩
        rw [hg5] at r4 hf'
        have HF5 := Lib.hid hg5
        have S4 := Lib.hid (show ∀ q, g5 = some q → g4 = some q from fun q h => by rw [h] at r4; exact (rn_some r4).2.2)
        have HF := Lib.hid hf'
        have HBF := hbf
        have N1 := Lib.hid (tN b A' n c' zs kk none 0 63 x1 a1 g1 wr hrd.out r1 (by decide) (by decide))
        have N2 := Lib.hid (fun V (hv : QT V b A' n c' zs a1 g1) => tN b A' n c' zs a1 g1 0 31 x2 a2 g2 V hv r2 (by decide) (by decide))
        have N3 := Lib.hid (fun V (hv : QT V b A' n c' zs a2 g2) => tN b A' n c' zs a2 g2 0 31 x3 a3 g3 V hv r3 (by decide) (by decide))
        have F3 := Lib.hid (fun V (t : Int) (hv : QT V b A' n c' zs a3 g3) => tFail b A' n c' zs a3 g3 3 t V hv)
        have N4 := Lib.hid (fun V (hv : QT V b A' n c' zs a3 g5) => tN b A' n c' zs a3 g5 1 4294967296 x4 kn g4 V hv r4 (by decide) (by decide))
        have F4 := Lib.hid (fun V (t : Int) (hv : QT V b A' n c' zs kn g4) => tFail b A' n c' zs kn g4 9 t V hv)
        have cE : wr.cell? ⟨b, 2, none⟩ = some (.int .i64 0) := qt_err hrd.out
        obtain ⟨A5, c5, e5, -⟩ := ho.out.slice
        rw [HLE.out] at e5
        subst e5
        clear hd hx hlk hlk2 hf' hg5 r1 r2 r3 r4 hbf
        go_wp2_with fail
        refine N1.out.mono ?_
        rintro r wa ⟨rfl, hr, hk⟩
        have T0 := Lib.hid (show Tq w2 (wa.alloc (.cells #[.int .i64 x1, .int .i64 0, .int .i64 0, .int .i64 0] 24)) b wa.heap.size A' n c' zs a1 g1 x1 0 0 0 (.slice A5 i c5) (L.take i) from by
          have ka := hkp.out.trans hk
          have oa : OwnH wa w2.heap.size (.slice A5 i c5) (L.take i) := ho.out.kep (S := fun i => i = b) (toK hk) (fun j hj e => by
            subst e
            obtain ⟨C, hC⟩ := qt_blk hrd.out
            exact Rw.own_ne ho.out hC (by decide) hj)
          have ba := (Bel.refl wa).alloc (.cells #[.int .i64 x1, .int .i64 0, .int .i64 0, .int .i64 0] 24)
          refine ⟨hr.bel ba, Blk.new wa _ _, ka.trans (Kep.of_bel ba), HBL2.out, ka.size, HA2.out, oa.bel ba, fun e => ?_⟩
          exact absurd ((Rw.own_blk oa e).elim fun _ hC => hC.lt) (Nat.lt_irrefl _))
        clear hr hk ho hrd hkp cE N1
        go_upto_region 8 with fail
        obtain ⟨wb, hW⟩ : ∃ W, wa.alloc (.cells #[.int .i64 x1, .int .i64 0, .int .i64 0, .int .i64 0] 24) = W := ⟨_, rfl⟩
        obtain ⟨p, hp⟩ : ∃ p, wa.heap.size = p := ⟨_, rfl⟩
        rw [hW, hp] at T0
        rw [hW, hp]
        clear hW hp
        go_wp2_with fail
        refine (N2.out _ T0.out.rd).mono ?_
        rintro r w3 ⟨rfl, hr, hk⟩
        have T3 := Lib.hid (T0.out.call hr hk)
        clear hr hk T0
        have c0 := T3.out.sp.cell 1 rfl
        have f0_ := T3.out.sp.frozen 1
        go_upto_region 9 with fail
        have T4 := Lib.hid (T3.out.put (y1 := x1) (y2 := x2) (y3 := 0) (y4 := 0) 1 (.int .i64 x2) rfl)
        obtain ⟨w4, hW⟩ : ∃ W, World.setCell w3 ⟨p, 1, none⟩ (.int .i64 x2) = W := ⟨_, rfl⟩
        rw [hW] at T4 ⊢
        clear hW c0 f0_ T3
        obtain ⟨t2, ct2, ht2⟩ := qt_to T4.out.rd
        have HT2 := Lib.hid ht2
        clear ht2
        go_wp2_with fail
        refine (N3.out _ T4.out.rd).mono ?_
        rintro r w5 ⟨rfl, hr, hk⟩
        have T5 := Lib.hid (T4.out.call hr hk)
        clear hr hk ct2 T4
        have c0 := T5.out.sp.cell 2 rfl
        have f0_ := T5.out.sp.frozen 2
        go_upto_region 11 with fail
        have T6 := Lib.hid (T5.out.put (y1 := x1) (y2 := x2) (y3 := x3) (y4 := 0) 2 (.int .i64 x3) rfl)
        obtain ⟨w6_, hW⟩ : ∃ W, World.setCell w5 ⟨p, 2, none⟩ (.int .i64 x3) = W := ⟨_, rfl⟩
        rw [hW] at T6 ⊢
        clear hW c0 f0_ T5
        have c1 := T6.out.sp.cell 1 rfl
        have c2 := T6.out.sp.cell 2 rfl
        by_cases h6 : x3 = x2
        · have HFF := Lib.hid (show failOf g3 3 (t2 : Int) = g5 by rw [fail_at HT2.out S2.out, ← HF5.out, if_pos h6])
          have e6 : (x3 == x2) = true := by rw [beq_iff_eq]; exact h6
          clear h6
          go_wp2_with fail
          refine (F3.out _ (t2 : Int) T6.out.rd).mono ?_
          rintro r w7 ⟨rfl, hr, hk⟩
          rw [HFF.out] at hr
          have T7 := Lib.hid (T6.out.call hr hk)
          clear hr hk c1 c2 T6 e6
          obtain ⟨t3, ct3, ht3⟩ := qt_to T7.out.rd
          have HT3 := Lib.hid ht3
          clear ht3
          go_wp2_with fail
          refine (N4.out _ T7.out.rd).mono ?_
          rintro r w8 ⟨rfl, hr, hk⟩
          have T8 := Lib.hid (T7.out.call hr hk)
          clear hr hk ct3 T7
          have c0 := T8.out.sp.cell 3 rfl
          have f0_ := T8.out.sp.frozen 3
          go_upto_region 15 with fail
          have T9 := Lib.hid (T8.out.put (y1 := x1) (y2 := x2) (y3 := x3) (y4 := x4) 3 (.int .i64 x4) rfl)
          obtain ⟨w9, hW⟩ : ∃ W, World.setCell w8 ⟨p, 3, none⟩ (.int .i64 x4) = W := ⟨_, rfl⟩
          rw [hW] at T9 ⊢
          clear hW c0 f0_ T8
          have c3 := T9.out.sp.cell 3 rfl
          by_cases h0 : i = 0
          · subst h0
            obtain rfl : fn = g4 := by rw [HF.out, fail_eq (by rw [HBF.out.1 rfl]; have := HX4.out; omega)]
            go_quiet (fail)
            rename_i nq
            obtain ⟨Wq, hWq⟩ : ∃ W, w9.drewN nq = W := ⟨_, rfl⟩
            rw [hWq]
            have TQ := Lib.hid (T9.out.bel (show Bel w9 Wq by rw [← hWq]; exact bel_drewN _ _))
            clear hWq T9
            clear c3
            have c0 := TQ.out.sp.cell 0 rfl
            have c1 := TQ.out.sp.cell 1 rfl
            have c2 := TQ.out.sp.cell 2 rfl
            have c3 := TQ.out.sp.cell 3 rfl
            have HX := Lib.hid (Rw.rs_one hR (r := (x1, x2, x3, x4)) (Kk.Blk.new Wq #[.int .i64 x1, .int .i64 x2, .int .i64 x3, .int .i64 x4] 24))
            have B5 := (Bel.refl Wq).alloc (.cells #[.int .i64 x1, .int .i64 x2, .int .i64 x3, .int .i64 x4] 24)
            have O5 := Lib.hid (TQ.out.own.bel B5)
            have R5 := Lib.hid (TQ.out.rd.bel B5)
            have K4 := Lib.hid TQ.out.kep
            have K5 := Lib.hid (K4.out.trans (Kep.of_bel B5))
            clear B5 TQ
            go_wp2_with (at_builtin; refine Rw.append_R hR rfl _ _ _ 24 rfl underH zero_h rfl (by decide) w2.heap.size _ (L.take (0)) rfl O5.out (some ⟨Wq.heap.size, 0, none⟩) 1 1 [(x1, x2, x3, x4)] rfl HX.out (by have := HLE.out; omega) (by have := K4.out.size; simp; omega) ?_; intro v' w6 hown' hgrow)
            have hgrow : World.grownBy _ w6 (Value.ownBlock (.slice A5 (0) c5)) := hgrow
            have O6 := Lib.hid hown'
            have R6 := Lib.hid (show QT w6 b A' n c' zs kn fn from by
              rcases hob : Value.ownBlock (.slice A5 (0) c5) with _ | j
              · rw [hob] at hgrow
                exact R5.out.bel ⟨hgrow.os, hgrow.tape, hgrow.output, hgrow.size, fun i hi => hgrow.block i hi (by simp)⟩
              · rw [hob] at hgrow
                have hjb : b ≠ j := fun e => by
                  subst e
                  obtain ⟨C', hC'⟩ := qt_blk R5.out
                  exact Rw.own_ne O5.out hC' (by decide) hob
                refine R5.out.kep (ofK (Ms.kep_grown hgrow)) hjb (fun hn x hx => ?_)
                have h1 := HA2.out hn x hx
                have h2 := Rw.own_ge O5.out hob
                omega)
            have K6 := Lib.hid (show Kep (fun j => j = b) w2 w6 from ⟨hgrow.os.trans K5.out.os, hgrow.tape.trans K5.out.tape, hgrow.output.trans K5.out.output, Nat.le_trans K5.out.size hgrow.size, fun j hj hne => (hgrow.block j (Nat.lt_of_lt_of_le hj K5.out.size) (fun e => by
              have h2 := Rw.own_ge O5.out e.symm
              omega)).trans (K5.out.block j hj hne)⟩)
            clear hown' hgrow
            go_wp2_with fail
            go_roundw
            case rel => exact ⟨0 + 1, kn, fn, x4, by go_num, by omega, Lib.hid (by rw [HNX.out]; exact O6.out), R6, HLK, HBN, K6⟩
            case measure => simp [intOf]; omega
          · obtain ⟨j, hj⟩ : ∃ j, i = j + 1 := ⟨i - 1, by omega⟩
            subst hj
            obtain ⟨⟨p1, p2, p3, p4⟩, hp⟩ : ∃ r, L[j]? = some r := ⟨_, List.getElem?_eq_getElem (by rw [HL.out]; omega)⟩
            obtain rfl : bf = p4 := HBF.out.2 j _ rfl hp
            obtain ⟨A6, c6, e6, hrs⟩ := T9.out.own.slice
            rw [HLE.out] at e6 hrs
            injection e6 with e6 e7 e8
            subst e6 e8
            obtain ⟨bb, oo, e9, hbb, hrow⟩ := hrs.at (show j < j + 1 by omega) (r := (p1, p2, p3, bf)) (by rw [List.getElem?_take_of_lt (by omega)]; exact hp)
            subst e9
            obtain ⟨d0, d1, d2, d3⟩ := rng4 (show w9.rangeAt bb (oo + j * 4) [.int .i64 p1, .int .i64 p2, .int .i64 p3, .int .i64 bf] from hrow)
            have hs : IntKind.i64.wrap (((j + 1 : Nat) : Int) - 1) = (j : Int) := by rw [IntWalk.i64_in _ (by omega)]; omega
            clear hrow hp h0 d0 d1 d2 hrs hbb
            by_cases h9 : x4 < bf
            · have HFF := Lib.hid (show failOf g4 9 (t3 : Int) = fn by rw [fail_at HT3.out S4.out, HF.out, if_pos h9])
              go_quiet (fail)
              rename_i nq
              obtain ⟨Wq, hWq⟩ : ∃ W, w9.drewN nq = W := ⟨_, rfl⟩
              rw [hWq]
              have TQ := Lib.hid (T9.out.bel (show Bel w9 Wq by rw [← hWq]; exact bel_drewN _ _))
              clear hWq T9
              clear c3 d3 hs h9
              go_wp2_with fail
              refine (F4.out _ (t3 : Int) TQ.out.rd).mono ?_
              rintro r wz ⟨rfl, hr, hk⟩
              rw [HFF.out] at hr
              have TZ := Lib.hid (TQ.out.call hr hk)
              clear hr hk TQ
              have c0 := TZ.out.sp.cell 0 rfl
              have c1 := TZ.out.sp.cell 1 rfl
              have c2 := TZ.out.sp.cell 2 rfl
              have c3 := TZ.out.sp.cell 3 rfl
              have HX := Lib.hid (Rw.rs_one hR (r := (x1, x2, x3, x4)) (Kk.Blk.new wz #[.int .i64 x1, .int .i64 x2, .int .i64 x3, .int .i64 x4] 24))
              have B5 := (Bel.refl wz).alloc (.cells #[.int .i64 x1, .int .i64 x2, .int .i64 x3, .int .i64 x4] 24)
              have O5 := Lib.hid (TZ.out.own.bel B5)
              have R5 := Lib.hid (TZ.out.rd.bel B5)
              have K4 := Lib.hid TZ.out.kep
              have K5 := Lib.hid (K4.out.trans (Kep.of_bel B5))
              clear B5 TZ
              go_wp2_with (at_builtin; refine Rw.append_R hR rfl _ _ _ 24 rfl underH zero_h rfl (by decide) w2.heap.size _ (L.take (j + 1)) rfl O5.out (some ⟨wz.heap.size, 0, none⟩) 1 1 [(x1, x2, x3, x4)] rfl HX.out (by have := HLE.out; omega) (by have := K4.out.size; simp; omega) ?_; intro v' w6 hown' hgrow)
              have hgrow : World.grownBy _ w6 (Value.ownBlock (.slice (some ⟨bb, oo, none⟩) (j + 1) c5)) := hgrow
              have O6 := Lib.hid hown'
              have R6 := Lib.hid (show QT w6 b A' n c' zs kn fn from by
                rcases hob : Value.ownBlock (.slice (some ⟨bb, oo, none⟩) (j + 1) c5) with _ | j
                · rw [hob] at hgrow
                  exact R5.out.bel ⟨hgrow.os, hgrow.tape, hgrow.output, hgrow.size, fun i hi => hgrow.block i hi (by simp)⟩
                · rw [hob] at hgrow
                  have hjb : b ≠ j := fun e => by
                    subst e
                    obtain ⟨C', hC'⟩ := qt_blk R5.out
                    exact Rw.own_ne O5.out hC' (by decide) hob
                  refine R5.out.kep (ofK (Ms.kep_grown hgrow)) hjb (fun hn x hx => ?_)
                  have h1 := HA2.out hn x hx
                  have h2 := Rw.own_ge O5.out hob
                  omega)
              have K6 := Lib.hid (show Kep (fun j => j = b) w2 w6 from ⟨hgrow.os.trans K5.out.os, hgrow.tape.trans K5.out.tape, hgrow.output.trans K5.out.output, Nat.le_trans K5.out.size hgrow.size, fun j hj hne => (hgrow.block j (Nat.lt_of_lt_of_le hj K5.out.size) (fun e => by
                have h2 := Rw.own_ge O5.out e.symm
                omega)).trans (K5.out.block j hj hne)⟩)
              clear hown' hgrow
              go_wp2_with fail
              go_roundw
              case rel => exact ⟨j + 1 + 1, kn, fn, x4, by go_num, by omega, Lib.hid (by rw [HNX.out]; exact O6.out), R6, HLK, HBN, K6⟩
              case measure => simp [intOf]; omega
            · obtain rfl : fn = g4 := by rw [HF.out, fail_eq h9]
              go_quiet (fail)
              rename_i nq
              obtain ⟨Wq, hWq⟩ : ∃ W, w9.drewN nq = W := ⟨_, rfl⟩
              rw [hWq]
              have TQ := Lib.hid (T9.out.bel (show Bel w9 Wq by rw [← hWq]; exact bel_drewN _ _))
              clear hWq T9
              clear c3 d3 hs h9
              have c0 := TQ.out.sp.cell 0 rfl
              have c1 := TQ.out.sp.cell 1 rfl
              have c2 := TQ.out.sp.cell 2 rfl
              have c3 := TQ.out.sp.cell 3 rfl
              have HX := Lib.hid (Rw.rs_one hR (r := (x1, x2, x3, x4)) (Kk.Blk.new Wq #[.int .i64 x1, .int .i64 x2, .int .i64 x3, .int .i64 x4] 24))
              have B5 := (Bel.refl Wq).alloc (.cells #[.int .i64 x1, .int .i64 x2, .int .i64 x3, .int .i64 x4] 24)
              have O5 := Lib.hid (TQ.out.own.bel B5)
              have R5 := Lib.hid (TQ.out.rd.bel B5)
              have K4 := Lib.hid TQ.out.kep
              have K5 := Lib.hid (K4.out.trans (Kep.of_bel B5))
              clear B5 TQ
              go_wp2_with (at_builtin; refine Rw.append_R hR rfl _ _ _ 24 rfl underH zero_h rfl (by decide) w2.heap.size _ (L.take (j + 1)) rfl O5.out (some ⟨Wq.heap.size, 0, none⟩) 1 1 [(x1, x2, x3, x4)] rfl HX.out (by have := HLE.out; omega) (by have := K4.out.size; simp; omega) ?_; intro v' w6 hown' hgrow)
              have hgrow : World.grownBy _ w6 (Value.ownBlock (.slice (some ⟨bb, oo, none⟩) (j + 1) c5)) := hgrow
              have O6 := Lib.hid hown'
              have R6 := Lib.hid (show QT w6 b A' n c' zs kn fn from by
                rcases hob : Value.ownBlock (.slice (some ⟨bb, oo, none⟩) (j + 1) c5) with _ | j
                · rw [hob] at hgrow
                  exact R5.out.bel ⟨hgrow.os, hgrow.tape, hgrow.output, hgrow.size, fun i hi => hgrow.block i hi (by simp)⟩
                · rw [hob] at hgrow
                  have hjb : b ≠ j := fun e => by
                    subst e
                    obtain ⟨C', hC'⟩ := qt_blk R5.out
                    exact Rw.own_ne O5.out hC' (by decide) hob
                  refine R5.out.kep (ofK (Ms.kep_grown hgrow)) hjb (fun hn x hx => ?_)
                  have h1 := HA2.out hn x hx
                  have h2 := Rw.own_ge O5.out hob
                  omega)
              have K6 := Lib.hid (show Kep (fun j => j = b) w2 w6 from ⟨hgrow.os.trans K5.out.os, hgrow.tape.trans K5.out.tape, hgrow.output.trans K5.out.output, Nat.le_trans K5.out.size hgrow.size, fun j hj hne => (hgrow.block j (Nat.lt_of_lt_of_le hj K5.out.size) (fun e => by
                have h2 := Rw.own_ge O5.out e.symm
                omega)).trans (K5.out.block j hj hne)⟩)
              clear hown' hgrow
              go_wp2_with fail
              go_roundw
              case rel => exact ⟨j + 1 + 1, kn, fn, x4, by go_num, by omega, Lib.hid (by rw [HNX.out]; exact O6.out), R6, HLK, HBN, K6⟩
              case measure => simp [intOf]; omega
        · obtain rfl : g5 = g3 := by rw [← HF5.out, fail_eq h6]
          have e6 : (x3 == x2) = false := beq_eq_false_iff_ne.2 h6
          clear h6
          go_upto_region 13 with fail
          clear c1 c2 e6
          obtain ⟨t3, ct3, ht3⟩ := qt_to T6.out.rd
          have HT3 := Lib.hid ht3
          clear ht3
          go_wp2_with fail
          refine (N4.out _ T6.out.rd).mono ?_
          rintro r w8 ⟨rfl, hr, hk⟩
          have T8 := Lib.hid (T6.out.call hr hk)
          clear hr hk ct3 T6
          have c0 := T8.out.sp.cell 3 rfl
          have f0_ := T8.out.sp.frozen 3
          go_upto_region 15 with fail
          have T9 := Lib.hid (T8.out.put (y1 := x1) (y2 := x2) (y3 := x3) (y4 := x4) 3 (.int .i64 x4) rfl)
          obtain ⟨w9, hW⟩ : ∃ W, World.setCell w8 ⟨p, 3, none⟩ (.int .i64 x4) = W := ⟨_, rfl⟩
          rw [hW] at T9 ⊢
          clear hW c0 f0_ T8
          have c3 := T9.out.sp.cell 3 rfl
          by_cases h0 : i = 0
          · subst h0
            obtain rfl : fn = g4 := by rw [HF.out, fail_eq (by rw [HBF.out.1 rfl]; have := HX4.out; omega)]
            go_quiet (fail)
            rename_i nq
            obtain ⟨Wq, hWq⟩ : ∃ W, w9.drewN nq = W := ⟨_, rfl⟩
            rw [hWq]
            have TQ := Lib.hid (T9.out.bel (show Bel w9 Wq by rw [← hWq]; exact bel_drewN _ _))
            clear hWq T9
            clear c3
            have c0 := TQ.out.sp.cell 0 rfl
            have c1 := TQ.out.sp.cell 1 rfl
            have c2 := TQ.out.sp.cell 2 rfl
            have c3 := TQ.out.sp.cell 3 rfl
            have HX := Lib.hid (Rw.rs_one hR (r := (x1, x2, x3, x4)) (Kk.Blk.new Wq #[.int .i64 x1, .int .i64 x2, .int .i64 x3, .int .i64 x4] 24))
            have B5 := (Bel.refl Wq).alloc (.cells #[.int .i64 x1, .int .i64 x2, .int .i64 x3, .int .i64 x4] 24)
            have O5 := Lib.hid (TQ.out.own.bel B5)
            have R5 := Lib.hid (TQ.out.rd.bel B5)
            have K4 := Lib.hid TQ.out.kep
            have K5 := Lib.hid (K4.out.trans (Kep.of_bel B5))
            clear B5 TQ
            go_wp2_with (at_builtin; refine Rw.append_R hR rfl _ _ _ 24 rfl underH zero_h rfl (by decide) w2.heap.size _ (L.take (0)) rfl O5.out (some ⟨Wq.heap.size, 0, none⟩) 1 1 [(x1, x2, x3, x4)] rfl HX.out (by have := HLE.out; omega) (by have := K4.out.size; simp; omega) ?_; intro v' w6 hown' hgrow)
            have hgrow : World.grownBy _ w6 (Value.ownBlock (.slice A5 (0) c5)) := hgrow
            have O6 := Lib.hid hown'
            have R6 := Lib.hid (show QT w6 b A' n c' zs kn fn from by
              rcases hob : Value.ownBlock (.slice A5 (0) c5) with _ | j
              · rw [hob] at hgrow
                exact R5.out.bel ⟨hgrow.os, hgrow.tape, hgrow.output, hgrow.size, fun i hi => hgrow.block i hi (by simp)⟩
              · rw [hob] at hgrow
                have hjb : b ≠ j := fun e => by
                  subst e
                  obtain ⟨C', hC'⟩ := qt_blk R5.out
                  exact Rw.own_ne O5.out hC' (by decide) hob
                refine R5.out.kep (ofK (Ms.kep_grown hgrow)) hjb (fun hn x hx => ?_)
                have h1 := HA2.out hn x hx
                have h2 := Rw.own_ge O5.out hob
                omega)
            have K6 := Lib.hid (show Kep (fun j => j = b) w2 w6 from ⟨hgrow.os.trans K5.out.os, hgrow.tape.trans K5.out.tape, hgrow.output.trans K5.out.output, Nat.le_trans K5.out.size hgrow.size, fun j hj hne => (hgrow.block j (Nat.lt_of_lt_of_le hj K5.out.size) (fun e => by
              have h2 := Rw.own_ge O5.out e.symm
              omega)).trans (K5.out.block j hj hne)⟩)
            clear hown' hgrow
            go_wp2_with fail
            go_roundw
            case rel => exact ⟨0 + 1, kn, fn, x4, by go_num, by omega, Lib.hid (by rw [HNX.out]; exact O6.out), R6, HLK, HBN, K6⟩
            case measure => simp [intOf]; omega
          · obtain ⟨j, hj⟩ : ∃ j, i = j + 1 := ⟨i - 1, by omega⟩
            subst hj
            obtain ⟨⟨p1, p2, p3, p4⟩, hp⟩ : ∃ r, L[j]? = some r := ⟨_, List.getElem?_eq_getElem (by rw [HL.out]; omega)⟩
            obtain rfl : bf = p4 := HBF.out.2 j _ rfl hp
            obtain ⟨A6, c6, e6, hrs⟩ := T9.out.own.slice
            rw [HLE.out] at e6 hrs
            injection e6 with e6 e7 e8
            subst e6 e8
            obtain ⟨bb, oo, e9, hbb, hrow⟩ := hrs.at (show j < j + 1 by omega) (r := (p1, p2, p3, bf)) (by rw [List.getElem?_take_of_lt (by omega)]; exact hp)
            subst e9
            obtain ⟨d0, d1, d2, d3⟩ := rng4 (show w9.rangeAt bb (oo + j * 4) [.int .i64 p1, .int .i64 p2, .int .i64 p3, .int .i64 bf] from hrow)
            have hs : IntKind.i64.wrap (((j + 1 : Nat) : Int) - 1) = (j : Int) := by rw [IntWalk.i64_in _ (by omega)]; omega
            clear hrow hp h0 d0 d1 d2 hrs hbb
            by_cases h9 : x4 < bf
            · have HFF := Lib.hid (show failOf g4 9 (t3 : Int) = fn by rw [fail_at HT3.out S4.out, HF.out, if_pos h9])
              go_quiet (fail)
              rename_i nq
              obtain ⟨Wq, hWq⟩ : ∃ W, w9.drewN nq = W := ⟨_, rfl⟩
              rw [hWq]
              have TQ := Lib.hid (T9.out.bel (show Bel w9 Wq by rw [← hWq]; exact bel_drewN _ _))
              clear hWq T9
              clear c3 d3 hs h9
              go_wp2_with fail
              refine (F4.out _ (t3 : Int) TQ.out.rd).mono ?_
              rintro r wz ⟨rfl, hr, hk⟩
              rw [HFF.out] at hr
              have TZ := Lib.hid (TQ.out.call hr hk)
              clear hr hk TQ
              have c0 := TZ.out.sp.cell 0 rfl
              have c1 := TZ.out.sp.cell 1 rfl
              have c2 := TZ.out.sp.cell 2 rfl
              have c3 := TZ.out.sp.cell 3 rfl
              have HX := Lib.hid (Rw.rs_one hR (r := (x1, x2, x3, x4)) (Kk.Blk.new wz #[.int .i64 x1, .int .i64 x2, .int .i64 x3, .int .i64 x4] 24))
              have B5 := (Bel.refl wz).alloc (.cells #[.int .i64 x1, .int .i64 x2, .int .i64 x3, .int .i64 x4] 24)
              have O5 := Lib.hid (TZ.out.own.bel B5)
              have R5 := Lib.hid (TZ.out.rd.bel B5)
              have K4 := Lib.hid TZ.out.kep
              have K5 := Lib.hid (K4.out.trans (Kep.of_bel B5))
              clear B5 TZ
              go_wp2_with (at_builtin; refine Rw.append_R hR rfl _ _ _ 24 rfl underH zero_h rfl (by decide) w2.heap.size _ (L.take (j + 1)) rfl O5.out (some ⟨wz.heap.size, 0, none⟩) 1 1 [(x1, x2, x3, x4)] rfl HX.out (by have := HLE.out; omega) (by have := K4.out.size; simp; omega) ?_; intro v' w6 hown' hgrow)
              have hgrow : World.grownBy _ w6 (Value.ownBlock (.slice (some ⟨bb, oo, none⟩) (j + 1) c5)) := hgrow
              have O6 := Lib.hid hown'
              have R6 := Lib.hid (show QT w6 b A' n c' zs kn fn from by
                rcases hob : Value.ownBlock (.slice (some ⟨bb, oo, none⟩) (j + 1) c5) with _ | j
                · rw [hob] at hgrow
                  exact R5.out.bel ⟨hgrow.os, hgrow.tape, hgrow.output, hgrow.size, fun i hi => hgrow.block i hi (by simp)⟩
                · rw [hob] at hgrow
                  have hjb : b ≠ j := fun e => by
                    subst e
                    obtain ⟨C', hC'⟩ := qt_blk R5.out
                    exact Rw.own_ne O5.out hC' (by decide) hob
                  refine R5.out.kep (ofK (Ms.kep_grown hgrow)) hjb (fun hn x hx => ?_)
                  have h1 := HA2.out hn x hx
                  have h2 := Rw.own_ge O5.out hob
                  omega)
              have K6 := Lib.hid (show Kep (fun j => j = b) w2 w6 from ⟨hgrow.os.trans K5.out.os, hgrow.tape.trans K5.out.tape, hgrow.output.trans K5.out.output, Nat.le_trans K5.out.size hgrow.size, fun j hj hne => (hgrow.block j (Nat.lt_of_lt_of_le hj K5.out.size) (fun e => by
                have h2 := Rw.own_ge O5.out e.symm
                omega)).trans (K5.out.block j hj hne)⟩)
              clear hown' hgrow
              go_wp2_with fail
              go_roundw
              case rel => exact ⟨j + 1 + 1, kn, fn, x4, by go_num, by omega, Lib.hid (by rw [HNX.out]; exact O6.out), R6, HLK, HBN, K6⟩
              case measure => simp [intOf]; omega
            · obtain rfl : fn = g4 := by rw [HF.out, fail_eq h9]
              go_quiet (fail)
              rename_i nq
              obtain ⟨Wq, hWq⟩ : ∃ W, w9.drewN nq = W := ⟨_, rfl⟩
              rw [hWq]
              have TQ := Lib.hid (T9.out.bel (show Bel w9 Wq by rw [← hWq]; exact bel_drewN _ _))
              clear hWq T9
              clear c3 d3 hs h9
              have c0 := TQ.out.sp.cell 0 rfl
              have c1 := TQ.out.sp.cell 1 rfl
              have c2 := TQ.out.sp.cell 2 rfl
              have c3 := TQ.out.sp.cell 3 rfl
              have HX := Lib.hid (Rw.rs_one hR (r := (x1, x2, x3, x4)) (Kk.Blk.new Wq #[.int .i64 x1, .int .i64 x2, .int .i64 x3, .int .i64 x4] 24))
              have B5 := (Bel.refl Wq).alloc (.cells #[.int .i64 x1, .int .i64 x2, .int .i64 x3, .int .i64 x4] 24)
              have O5 := Lib.hid (TQ.out.own.bel B5)
              have R5 := Lib.hid (TQ.out.rd.bel B5)
              have K4 := Lib.hid TQ.out.kep
              have K5 := Lib.hid (K4.out.trans (Kep.of_bel B5))
              clear B5 TQ
              go_wp2_with (at_builtin; refine Rw.append_R hR rfl _ _ _ 24 rfl underH zero_h rfl (by decide) w2.heap.size _ (L.take (j + 1)) rfl O5.out (some ⟨Wq.heap.size, 0, none⟩) 1 1 [(x1, x2, x3, x4)] rfl HX.out (by have := HLE.out; omega) (by have := K4.out.size; simp; omega) ?_; intro v' w6 hown' hgrow)
              have hgrow : World.grownBy _ w6 (Value.ownBlock (.slice (some ⟨bb, oo, none⟩) (j + 1) c5)) := hgrow
              have O6 := Lib.hid hown'
              have R6 := Lib.hid (show QT w6 b A' n c' zs kn fn from by
                rcases hob : Value.ownBlock (.slice (some ⟨bb, oo, none⟩) (j + 1) c5) with _ | j
                · rw [hob] at hgrow
                  exact R5.out.bel ⟨hgrow.os, hgrow.tape, hgrow.output, hgrow.size, fun i hi => hgrow.block i hi (by simp)⟩
                · rw [hob] at hgrow
                  have hjb : b ≠ j := fun e => by
                    subst e
                    obtain ⟨C', hC'⟩ := qt_blk R5.out
                    exact Rw.own_ne O5.out hC' (by decide) hob
                  refine R5.out.kep (ofK (Ms.kep_grown hgrow)) hjb (fun hn x hx => ?_)
                  have h1 := HA2.out hn x hx
                  have h2 := Rw.own_ge O5.out hob
                  omega)
              have K6 := Lib.hid (show Kep (fun j => j = b) w2 w6 from ⟨hgrow.os.trans K5.out.os, hgrow.tape.trans K5.out.tape, hgrow.output.trans K5.out.output, Nat.le_trans K5.out.size hgrow.size, fun j hj hne => (hgrow.block j (Nat.lt_of_lt_of_le hj K5.out.size) (fun e => by
                have h2 := Rw.own_ge O5.out e.symm
                omega)).trans (K5.out.block j hj hne)⟩)
              clear hown' hgrow
              go_wp2_with fail
              go_roundw
              case rel => exact ⟨j + 1 + 1, kn, fn, x4, by go_num, by omega, Lib.hid (by rw [HNX.out]; exact O6.out), R6, HLK, HBN, K6⟩
              case measure => simp [intOf]; omega
      | some p =>
        have cE : wr.cell? ⟨b, 2, none⟩ = some (.int .i64 p.1) := qt_err hrd.out
        have fe : (p.1 == 0) = false := beq_eq_false_iff_ne.2 (qt_ne hrd.out)
        obtain ⟨q1, q2⟩ := lk_some _ hlk.out
        have HEQ := Lib.hid (show e1 = 0 → L.take i = L from fun h0 => by
          have h1 : endOf zs.length k' f' = p := by rw [q1]; rfl
          have h2 := HE.out.symm.trans h1
          exact absurd (show p.1 = 0 by rw [← h2]; exact h0) (qt_ne hrd.out))
        have hrd : Hid (QT wr b A' n c' zs k' f') := Lib.hid (by rw [q1, q2]; exact hrd.out)
        clear q1 q2
        obtain ⟨z, hz⟩ : ∃ z, p.1 = z := ⟨_, rfl⟩
        rw [hz] at cE fe
        clear hlk hbf hz
        have Q3 := Lib.hid (Q2.out.kep hkp.out (by have := HBQ.out; omega))
        have K3 := Lib.hid (show Bel w wr from Kep.bel K2.out hkp.out (fun i hi => by rw [hi]; exact HSB.out))
        have EN := Lib.hid (tEnd b A' n c' zs k' f' wr hrd.out)
        rw [HE.out] at EN
        have EN := Lib.hid (show Calls Try.prog 62 #[.pointer (some ⟨b, 0, none⟩)] wr fun e w' => e = .returned (.agg #[.int .i64 e1, .int .i64 e2]) ∧ Bel wr w' from EN.out)
        have HFP := Lib.hid (fun p (hp : f' = some p) => qt_ne (by rw [hp] at hrd; exact hrd.out))
        have O3 := Lib.hid (show OwnH wr w.heap.size _ (L.take i) from ho.out.mono (Below.size K2.out))
        clear hkp ho hrd
        go_wp2_with fail
        refine EN.out.mono ?_
        rintro r w4 ⟨rfl, kb⟩
        have Q4 := Lib.hid (Q3.out.bel kb)
        have K4 := Lib.hid (K3.out.trans kb)
        have O4 := Lib.hid (O3.out.bel kb)
        clear kb EN Q3 K3 O3
        have T0 := Blk.new w4 #[.int .i64 e1, .int .i64 e2] 48
        have TB := (Bel.refl w4).alloc (.cells #[.int .i64 e1, .int .i64 e2] 48)
        go_upto_region 19 with fail
        obtain ⟨W5, hW⟩ : ∃ W, w4.alloc (.cells #[.int .i64 e1, .int .i64 e2] 48) = W := ⟨_, rfl⟩
        obtain ⟨u, hu⟩ : ∃ u, w4.heap.size = u := ⟨_, rfl⟩
        rw [hW] at T0 TB ⊢
        rw [hu] at T0 ⊢
        have T5 := Lib.hid T0
        have Q5 := Lib.hid (Q4.out.bel TB)
        have K5 := Lib.hid (K4.out.trans TB)
        have O5 := Lib.hid (O4.out.bel TB)
        have LU := Lib.hid (show q < u by rw [← hu]; exact Q4.out.lt)
        clear hW hu T0 TB Q4 K4 O4
        have hqu : q ≠ u := by have := LU.out; omega
        have t0 := T5.out.cell 0 rfl
        have t1 := T5.out.cell 1 rfl
        have q0 := Q5.out.cell 0 rfl
        have q1 := Q5.out.cell 1 rfl
        have fq0 := Q5.out.frozen 0
        have fq1 := Q5.out.frozen 1
        have HLQ := Lib.hid (show w.heap.size ≤ q by rw [HQ.out]; exact Nat.le_refl _)
        by_cases h0 : e1 = 0
        · obtain ⟨h2, -, -⟩ := end_e2 HE.out HFP.out h0
          subst h2
          have HLT := Lib.hid (HEQ.out h0)
          subst h0
          rw [HLT.out] at O5
          have OF := Lib.hid (show OwnH (((W5.setCell ⟨q, 0, none⟩ (.int .i64 0)).setCell ⟨q, 1, none⟩ (.int .i64 0)).drew) w.heap.size _ L from (O5.out.kep (((Kk.Kep.refl (fun j => j = q) W5).set_self 0 _).set_self 1 _) (fun j hj e => by
            subst e
            exact Rw.own_ne O5.out Q5.out (by decide) hj)).bel (Bel.refl _).drew)
          go_wp2_with fail
          go_region
          all_goals
            go_wp2_with fail
            have QF := ((Q5.out.set 0 (.int .i64 0)).set 1 (.int .i64 0)).bel (Bel.refl _).drew
            refine bodyPost_ret (res_tc rfl _ _ ⟨q, 0, none⟩ _ _ rfl rfl (load_flt QF)) rfl ⟨_, rfl, ?_, ((K5.out.set HLQ.out _).set HLQ.out _).drew⟩
            (try rw [if_pos rfl])
            exact OF.out
        · have h1 : (e1 != 0) = true := by rw [bne_iff_ne]; exact h0
          have H0 := Lib.hid h0
          clear h0
          go_wp2_with fail
          go_region
          all_goals
            go_wp2_with fail
            have QF := ((Q5.out.set 0 (.int .i64 e1)).set 1 (.int .i64 e2)).bel (Bel.refl _).drew
            refine bodyPost_ret (res_tc rfl _ _ ⟨q, 0, none⟩ _ _ rfl rfl (load_flt QF)) rfl ⟨_, rfl, ?_, ((K5.out.set HLQ.out _).set HLQ.out _).drew⟩
            first | exact Rw.OwnR.nil_ _ _ _ _ | (rw [if_neg H0.out]; exact Rw.OwnR.nil_ _ _ _ _)
    · obtain rfl : i = m := by omega
      have HEQ := Lib.hid (show e1 = 0 → L.take i = L from fun _ => List.take_of_length_le (by rw [HL.out]; exact Nat.le_refl _))
      have HLD := Lib.hid (show L.drop i = [] from List.drop_eq_nil_of_le (by rw [HL.out]; exact Nat.le_refl _))
      rw [HLD.out] at hlk
      obtain ⟨q1, q2⟩ := hlk.out
      have hrd : Hid (QT wr b A' n c' zs k' f') := Lib.hid (by rw [q1, q2]; exact hrd.out)
      clear q1 q2 hlk hbf
      have Q3 := Lib.hid (Q2.out.kep hkp.out (by have := HBQ.out; omega))
      have K3 := Lib.hid (show Bel w wr from Kep.bel K2.out hkp.out (fun i hi => by rw [hi]; exact HSB.out))
      have EN := Lib.hid (tEnd b A' n c' zs k' f' wr hrd.out)
      rw [HE.out] at EN
      have EN := Lib.hid (show Calls Try.prog 62 #[.pointer (some ⟨b, 0, none⟩)] wr fun e w' => e = .returned (.agg #[.int .i64 e1, .int .i64 e2]) ∧ Bel wr w' from EN.out)
      have HFP := Lib.hid (fun p (hp : f' = some p) => qt_ne (by rw [hp] at hrd; exact hrd.out))
      have O3 := Lib.hid (show OwnH wr w.heap.size _ (L.take i) from ho.out.mono (Below.size K2.out))
      clear hkp ho hrd
      go_wp2_with fail
      refine EN.out.mono ?_
      rintro r w4 ⟨rfl, kb⟩
      have Q4 := Lib.hid (Q3.out.bel kb)
      have K4 := Lib.hid (K3.out.trans kb)
      have O4 := Lib.hid (O3.out.bel kb)
      clear kb EN Q3 K3 O3
      have T0 := Blk.new w4 #[.int .i64 e1, .int .i64 e2] 48
      have TB := (Bel.refl w4).alloc (.cells #[.int .i64 e1, .int .i64 e2] 48)
      go_upto_region 19 with fail
      obtain ⟨W5, hW⟩ : ∃ W, w4.alloc (.cells #[.int .i64 e1, .int .i64 e2] 48) = W := ⟨_, rfl⟩
      obtain ⟨u, hu⟩ : ∃ u, w4.heap.size = u := ⟨_, rfl⟩
      rw [hW] at T0 TB ⊢
      rw [hu] at T0 ⊢
      have T5 := Lib.hid T0
      have Q5 := Lib.hid (Q4.out.bel TB)
      have K5 := Lib.hid (K4.out.trans TB)
      have O5 := Lib.hid (O4.out.bel TB)
      have LU := Lib.hid (show q < u by rw [← hu]; exact Q4.out.lt)
      clear hW hu T0 TB Q4 K4 O4
      have hqu : q ≠ u := by have := LU.out; omega
      have t0 := T5.out.cell 0 rfl
      have t1 := T5.out.cell 1 rfl
      have q0 := Q5.out.cell 0 rfl
      have q1 := Q5.out.cell 1 rfl
      have fq0 := Q5.out.frozen 0
      have fq1 := Q5.out.frozen 1
      have HLQ := Lib.hid (show w.heap.size ≤ q by rw [HQ.out]; exact Nat.le_refl _)
      by_cases h0 : e1 = 0
      · obtain ⟨h2, -, -⟩ := end_e2 HE.out HFP.out h0
        subst h2
        have HLT := Lib.hid (HEQ.out h0)
        subst h0
        rw [HLT.out] at O5
        have OF := Lib.hid (show OwnH (((W5.setCell ⟨q, 0, none⟩ (.int .i64 0)).setCell ⟨q, 1, none⟩ (.int .i64 0)).drew) w.heap.size _ L from (O5.out.kep (((Kk.Kep.refl (fun j => j = q) W5).set_self 0 _).set_self 1 _) (fun j hj e => by
          subst e
          exact Rw.own_ne O5.out Q5.out (by decide) hj)).bel (Bel.refl _).drew)
        go_wp2_with fail
        go_region
        all_goals
          go_wp2_with fail
          have QF := ((Q5.out.set 0 (.int .i64 0)).set 1 (.int .i64 0)).bel (Bel.refl _).drew
          refine bodyPost_ret (res_tc rfl _ _ ⟨q, 0, none⟩ _ _ rfl rfl (load_flt QF)) rfl ⟨_, rfl, ?_, ((K5.out.set HLQ.out _).set HLQ.out _).drew⟩
          (try rw [if_pos rfl])
          exact OF.out
      · have h1 : (e1 != 0) = true := by rw [bne_iff_ne]; exact h0
        have H0 := Lib.hid h0
        clear h0
        go_wp2_with fail
        go_region
        all_goals
          go_wp2_with fail
          have QF := ((Q5.out.set 0 (.int .i64 e1)).set 1 (.int .i64 e2)).bel (Bel.refl _).drew
          refine bodyPost_ret (res_tc rfl _ _ ⟨q, 0, none⟩ _ _ rfl rfl (load_flt QF)) rfl ⟨_, rfl, ?_, ((K5.out.set HLQ.out _).set HLQ.out _).drew⟩
          first | exact Rw.OwnR.nil_ _ _ _ _ | (rw [if_neg H0.out]; exact Rw.OwnR.nil_ _ _ _ _)
end Hp
end Go.Proofs.Ytahhnfnonekbmaa
