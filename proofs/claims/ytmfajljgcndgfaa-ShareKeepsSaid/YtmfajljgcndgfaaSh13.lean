/-
  ShareFair: others lose nothing by a Join or a Leave, and gain less than 1; who joins gets what the amount is worth, within 1. Conditions: the numbers are words.
-/
import Derived.Test.YtmfajljgcndgfaaSh12
import Derived.Test.YtmfajljgcndgfaaSh11
import Derived.Test.YtmfajljgcndgfaaSh7
namespace Go.Proofs.Ytmfajljgcndgfaa
open Go.RowKit Go.Shelf
set_option linter.unusedVariables false
namespace Sh

abbrev AB (W : World) (b : Nat) (k N : Int) : Prop := Kk.Blk W b #[.int .i64 k, .int .u64 N] 34
theorem joi_two {T S a : Int} (h : Ok T S) (ha : 0 < a) : joiE T S a = 0 ∨ joiE T S a = 12 := by
  have hc := h.chk
  obtain ⟨_, _, w3, w4, w5, w6⟩ := joi_ways T S a
  by_cases hp : priE T S a = 0
  · by_cases h1 : 18446744073709551615 < S + priN T S a
    · exact .inr (w4 hc (by omega) hp h1)
    · by_cases h2 : 4611686018427387904 < T + a
      · exact .inr (w5 hc (by omega) hp h2)
      · exact .inl (w6 hc (by omega) hp h1 h2)
  · exact .inr (w3 hc (by omega) hp)
theorem lea_two {T S x : Int} (h : Ok T S) (hx : x ≤ S) : leaE T S x = 0 ∨ leaE T S x = 14 := by
  have hv : valE T S x = 0 := valE_00 h.chk (by omega)
  obtain ⟨_, w2, w3⟩ := lea_ways T S x
  by_cases e : valN T S x = 0
  · exact .inr (w2 hv e)
  · exact .inl (w3 hv e)
theorem fair1 {o T S A B : Int} (h : o * T * B ≤ o * A * S) : (!decide (o * A * S + S * B * 0 < o * T * B)) = true := by
  have e : S * B * 0 = 0 := Int.mul_zero _
  rw [e, decide_eq_false (by omega)]; rfl
theorem fair2 {o T S A B : Int} (h : o * A * S < o * T * B + S * B) : (!decide (o * T * B + B * S * 1 < o * A * S)) = true := by
  have e : B * S * 1 = S * B := by rw [Int.mul_one, Int.mul_comm]
  rw [e, decide_eq_false (by omega)]; rfl
theorem fair3 {o T S A B : Int} (h : o * A * S < o * T * B + S * B) : (!decide (o * A * S < o * T * B + S * B)) = false := by rw [decide_eq_true h]; rfl
theorem fair4 {P a A B : Int} (h : P * A ≤ a * B) : (!decide (1 * a * B + B * 1 * 0 < P * A * 1)) = true := by
  have e1 : B * 1 * 0 = 0 := Int.mul_zero _
  have e2 : P * A * 1 = P * A := Int.mul_one _
  rw [e1, e2, Int.one_mul, decide_eq_false (by omega)]; rfl
theorem fair5 {P a A B : Int} (h : a * B < P * A + B) : (!decide (P * A * 1 + 1 * B * 1 < 1 * a * B)) = true := by
  have e1 : 1 * B * 1 = B := by rw [Int.mul_one, Int.one_mul]
  have e2 : P * A * 1 = P * A := Int.mul_one _
  rw [e1, e2, Int.one_mul, decide_eq_false (by omega)]; rfl
theorem fair6 {P a A B : Int} (h : a * B < P * A + B) : (!decide ((a - 1) * B < P * A)) = false := by
  rw [decide_eq_true (by rw [Int.sub_mul, Int.one_mul]; omega)]; rfl

set_option maxRecDepth 10000 in
set_option maxHeartbeats 8000000 in
theorem fairLaw (t s : Int) (j : Bool) (n o : Int) (w : World) (t0 : 0 ≤ t) (t1 : t ≤ 18446744073709551615) (s0 : 0 ≤ s) (s1 : s ≤ 18446744073709551615) (n0 : 0 ≤ n) (n1 : n ≤ 18446744073709551615) (o0 : 0 ≤ o) (o1 : o ≤ 18446744073709551615) :
    Calls Try.prog 5 #[.int .u64 t, .int .u64 s, .bool j, .int .u64 n, .int .u64 o] w fun r w' => r = .returned (.bool true) ∧ Bel w w' := by
  have KN := Lib.hid (fun W => known W)
  have OF := Lib.hid (fun W => of t s W t0 t1 s0 s1)
  have hok := ok_of (t := t) t0 s0 s1
  obtain ⟨T, hT⟩ : ∃ T, oT t = T := ⟨_, rfl⟩
  obtain ⟨S, hS⟩ : ∃ S, oS t s = S := ⟨_, rfl⟩
  rw [hT, hS] at OF hok
  clear hT hS t0 t1 s0 s1
  have OK := Lib.hid hok
  have NN := Lib.hid (And.intro n0 n1)
  have OO := Lib.hid (And.intro o0 o1)
  obtain ⟨T0, T1, TS, S1, _⟩ := hok
  have e1 : n.tmod 4611686018427387904 = n % 4611686018427387904 := Int.tmod_eq_emod_of_nonneg n0
  obtain ⟨m, hm⟩ : ∃ m, n % 4611686018427387904 = m := ⟨_, rfl⟩
  rw [hm] at e1
  have m0 : 0 ≤ m := by omega
  have m1 : m < 4611686018427387904 := by omega
  have e2 : IntKind.u64.wrap m = m := by rw [IntKind.wrap_u64]; omega
  have e3 : IntKind.u64.wrap (1 + m) = 1 + m := by rw [IntKind.wrap_u64]; omega
  clear hm
  have K0 := Lib.hid (Bel.refl w)
  go_enter Try.func5, Try.ntmps5
  go_wp2_with fail
  refine (KN.out _).mono ?_
  rintro e w1 ⟨rfl, kb⟩
  have K1 := Lib.hid (K0.out.trans kb)
  clear kb
  go_wp2_with fail
  refine (OF.out _).mono ?_
  rintro e w2 ⟨rfl, kb⟩
  have K2 := Lib.hid (K1.out.trans kb)
  clear kb
  go_upto_region 3 with fail
  have Pp : PB ((w2).alloc (.cells #[.int .u64 T, .int .u64 S] 24)) (w2).heap.size T S := Kk.Blk.new _ _ _
  obtain ⟨p, hp⟩ : ∃ b, (w2).heap.size = b := ⟨_, rfl⟩
  obtain ⟨Xp, hXp⟩ : ∃ X, (w2).alloc (.cells #[.int .u64 T, .int .u64 S] 24) = X := ⟨_, rfl⟩
  have Dp : Bel w2 Xp := by rw [← hXp]; exact (Bel.refl _).alloc _
  have Zp := Lib.hid (show w.heap.size ≤ p by rw [← hp]; exact Below.size K2.out)
  rw [hXp, hp] at Pp
  rw [hXp, hp]
  have K3 := Lib.hid (K2.out.trans Dp)
  clear hp hXp Dp
  by_cases hS : S = 0
  · subst hS
    have cp0 := Pp.cell 0 rfl
    have cp1 := Pp.cell 1 rfl
    go_wp2_with fail
    clear cp0 cp1
    go_ret
    exact ⟨rfl, K3.out⟩
  have hS1 : (S == 0) = false := by simpa using hS
  have HS := Lib.hid hS
  have cp0 := Pp.cell 0 rfl
  have cp1 := Pp.cell 1 rfl
  go_upto_region 6 with fail
  clear cp0 cp1
  have Px : AB ((Xp).alloc (.cells #[.int .i64 1, .int .u64 n] 34)) (Xp).heap.size 1 n := Kk.Blk.new _ _ _
  obtain ⟨x, hx⟩ : ∃ b, (Xp).heap.size = b := ⟨_, rfl⟩
  obtain ⟨Xx, hXx⟩ : ∃ X, (Xp).alloc (.cells #[.int .i64 1, .int .u64 n] 34) = X := ⟨_, rfl⟩
  have Dx : Bel Xp Xx := by rw [← hXx]; exact (Bel.refl _).alloc _
  have Zx := Lib.hid (show w.heap.size ≤ x by rw [← hx]; exact Below.size K3.out)
  rw [hXx, hx] at Px
  rw [hXx, hx]
  have Lpx := Lib.hid (show p < x by rw [← hx]; exact Pp.lt)
  have Pp := Pp.bel Dx
  have K4 := Lib.hid (K3.out.trans Dx)
  clear hx hXx Dx
  have x5 : n.tmod S = n % S := Int.tmod_eq_emod_of_nonneg n0
  have y0 : 0 ≤ n % S := Int.emod_nonneg n hS
  have y1 : n % S < S := Int.emod_lt_of_pos n (by omega)
  have y5 : IntKind.u64.wrap (n % S) = n % S := by rw [IntKind.wrap_u64]; omega
  have cp0 := Pp.cell 0 rfl
  have cp1 := Pp.cell 1 rfl
  have cx0 := Px.cell 0 rfl
  have cx1 := Px.cell 1 rfl
  go_upto_if 32 with fail
  clear cp0 cp1 cx0 cx1
  go_cut [] (fun wx => ∃ N : Int, Hid (0 ≤ N ∧ N ≤ S ∧ PB wx p T S ∧ AB wx x 1 N ∧ Bel w wx))
  case first =>
    by_cases hn : S < n
    · skip
      have cp0 := Pp.cell 0 rfl
      have cp1 := Pp.cell 1 rfl
      have cx0 := Px.cell 0 rfl
      have cx1 := Px.cell 1 rfl
      have fx0 := Px.frozen 0
      have fx1 := Px.frozen 1
      go_wp2_with fail
      clear cp0 cp1 cx0 cx1 fx0 fx1
      have Pp := Pp.other (b' := x) (by have := Lpx.out; omega) 1 (.int .u64 (n % S))
      have Px : AB ((Xx).setCell ⟨x, 1, none⟩ (.int .u64 (n % S))) x 1 (n % S) := Px.set 1 (.int .u64 (n % S))
      have K5 := Lib.hid (K4.out.set (show w.heap.size ≤ (⟨x, 1, none⟩ : Addr).block from Zx.out) (.int .u64 (n % S)))
      go_meet
      exact ⟨n % S, Lib.hid ⟨y0, by omega, Pp, Px, K5.out⟩⟩
    · skip
      have cp0 := Pp.cell 0 rfl
      have cp1 := Pp.cell 1 rfl
      have cx0 := Px.cell 0 rfl
      have cx1 := Px.cell 1 rfl
      go_wp2_with fail
      clear cp0 cp1 cx0 cx1
      go_meet
      exact ⟨n, Lib.hid ⟨n0, by omega, Pp, Px, K4.out⟩⟩
  case rest =>
    obtain ⟨N, hh⟩ := hcut
    obtain ⟨N0, N1, Pp, Px, kk⟩ := hh.out
    have KC := Lib.hid kk
    clear hh kk x5 y0 y1 y5 n0 n1 o0 o1
    cases j
    case false =>
      have TW := lea_two OK.out N1
      have DO := Lib.hid (fun W => does 1 T S N W T0 (by omega) (by omega) S1 N0 (by omega))
      obtain ⟨q1, q2, q3, q4⟩ := d1 T S N
      rw [q1, q2, q3, q4] at DO
      clear q1 q2 q3 q4
      obtain ⟨A, hA⟩ : ∃ A, leaT T S N = A := ⟨_, rfl⟩
      obtain ⟨B, hB⟩ : ∃ B, leaS T S N = B := ⟨_, rfl⟩
      obtain ⟨C, hC⟩ : ∃ C, leaN T S N = C := ⟨_, rfl⟩
      obtain ⟨E, hE⟩ : ∃ E, leaE T S N = E := ⟨_, rfl⟩
      rw [hA, hB, hC, hE] at DO
      rw [hE] at TW
      have LY := Lib.hid (fun h => lea_yes (T := T) (S := S) (a := N) h)
      have LO := Lib.hid (fun h => lea_ok (T := T) (S := S) (x := N) T0 N0 h)
      have LF := Lib.hid (fun h k => leave_fair (T := T) (S := S) (x := N) OK.out N0 h k)
      have HA := Lib.hid (And.intro hA (And.intro hB hE))
      clear hA hB hC hE
      have cp0 := Pp.cell 0 rfl
      have cp1 := Pp.cell 1 rfl
      have cx0 := Px.cell 0 rfl
      have cx1 := Px.cell 1 rfl
      go_wp2_with fail
      clear cp0 cp1 cx0 cx1
      refine (DO.out _).mono ?_
      rintro e w5 ⟨rfl, kb⟩
      have Pp := Pp.bel kb
      have Px := Px.bel kb
      have K5 := Lib.hid (KC.out.trans kb)
      clear kb
      go_upto_region 11 with fail
      have Pq : PB ((w5).alloc (.cells #[.int .u64 A, .int .u64 B] 24)) (w5).heap.size A B := Kk.Blk.new _ _ _
      obtain ⟨q, hq⟩ : ∃ b, (w5).heap.size = b := ⟨_, rfl⟩
      obtain ⟨Xq, hXq⟩ : ∃ X, (w5).alloc (.cells #[.int .u64 A, .int .u64 B] 24) = X := ⟨_, rfl⟩
      have Dq : Bel w5 Xq := by rw [← hXq]; exact (Bel.refl _).alloc _
      have Zq := Lib.hid (show w.heap.size ≤ q by rw [← hq]; exact Below.size K5.out)
      rw [hXq, hq] at Pq
      rw [hXq, hq]
      have Lpq := Lib.hid (show p < q by rw [← hq]; exact Pp.lt)
      have Lxq := Lib.hid (show x < q by rw [← hq]; exact Px.lt)
      have Pp := Pp.bel Dq
      have Px := Px.bel Dq
      have K6 := Lib.hid (K5.out.trans Dq)
      clear hq hXq Dq
      by_cases hE : E = 0
      · subst hE
        obtain ⟨z1, z2, _⟩ := LY.out HA.out.2.2
        rw [HA.out.1] at z1
        rw [HA.out.2.1] at z2
        obtain ⟨_, _, _, v0, v1⟩ := LO.out HA.out.2.2
        by_cases hB : B = 0
        · subst hB
          clear z1 z2 v0 v1 TW
          have cp0 := Pp.cell 0 rfl
          have cp1 := Pp.cell 1 rfl
          have cx0 := Px.cell 0 rfl
          have cx1 := Px.cell 1 rfl
          have cq0 := Pq.cell 0 rfl
          have cq1 := Pq.cell 1 rfl
          go_wp2_with fail
          clear cp0 cp1 cx0 cx1 cq0 cq1
          go_ret
          exact ⟨rfl, K6.out⟩
        · skip
          have hB1 : (B == 0) = false := by simpa using hB
          have FA := LF.out HA.out.2.2 (by omega)
          rw [← z1, ← z2] at FA
          have A0 : 0 ≤ A := by omega
          have A1 : A ≤ 18446744073709551615 := by omega
          have B0 : 0 ≤ B := by omega
          have B1 : B ≤ 18446744073709551615 := by omega
          have hmin : min S B = B := by omega
          have x5 : o.tmod B = o % B := Int.tmod_eq_emod_of_nonneg OO.out.1
          obtain ⟨y, hy⟩ : ∃ y, o % B = y := ⟨_, rfl⟩
          have y0 : 0 ≤ y := by rw [← hy]; exact Int.emod_nonneg o hB
          have y2 : y < B := by rw [← hy]; exact Int.emod_lt_of_pos o (by omega)
          have y1 : y ≤ 18446744073709551615 := by omega
          rw [hy] at x5
          have y5 : IntKind.u64.wrap y = y := by rw [IntKind.wrap_u64]; omega
          obtain ⟨f1, f2⟩ := FA y y0 (by omega) y2
          clear hy FA z1 z2 v0 v1 TW
          have AM1 := Lib.hid (fun W => atMost y T S y A B 0 W y0 y1 T0 (by omega) (by omega) S1 y0 y1 A0 A1 B0 B1 (by decide) (by decide))
          rw [fair1 f1] at AM1
          have AM2 := Lib.hid (fun W => atMost y A B y T S 1 W y0 y1 A0 A1 B0 B1 y0 y1 T0 (by omega) (by omega) S1 (by decide) (by decide))
          rw [fair2 f2] at AM2
          have SP := Lib.hid (fun W => sharper y A B T S W y0 y1 A0 A1 B0 B1 T0 (by omega) (by omega) S1)
          rw [fair3 f2] at SP
          clear f1 f2
          have cp0 := Pp.cell 0 rfl
          have cp1 := Pp.cell 1 rfl
          have cx0 := Px.cell 0 rfl
          have cx1 := Px.cell 1 rfl
          have cq0 := Pq.cell 0 rfl
          have cq1 := Pq.cell 1 rfl
          go_wp2_with fail
          clear cp0 cp1 cx0 cx1 cq0 cq1
          refine (AM1.out _).mono ?_
          rintro e w27 ⟨rfl, kb⟩
          have Pp := Pp.bel kb
          have Px := Px.bel kb
          have Pq := Pq.bel kb
          have K8 := Lib.hid (K6.out.trans kb)
          clear kb
          have cp0 := Pp.cell 0 rfl
          have cp1 := Pp.cell 1 rfl
          have cx0 := Px.cell 0 rfl
          have cx1 := Px.cell 1 rfl
          have cq0 := Pq.cell 0 rfl
          have cq1 := Pq.cell 1 rfl
          go_wp2_with fail
          clear cp0 cp1 cx0 cx1 cq0 cq1
          refine (AM2.out _).mono ?_
          rintro e w29 ⟨rfl, kb⟩
          have Pp := Pp.bel kb
          have Px := Px.bel kb
          have Pq := Pq.bel kb
          have K10 := Lib.hid (K8.out.trans kb)
          clear kb
          have cp0 := Pp.cell 0 rfl
          have cp1 := Pp.cell 1 rfl
          have cx0 := Px.cell 0 rfl
          have cx1 := Px.cell 1 rfl
          have cq0 := Pq.cell 0 rfl
          have cq1 := Pq.cell 1 rfl
          go_wp2_with fail
          clear cp0 cp1 cx0 cx1 cq0 cq1
          refine (SP.out _).mono ?_
          rintro e w211 ⟨rfl, kb⟩
          have Pp := Pp.bel kb
          have Px := Px.bel kb
          have Pq := Pq.bel kb
          have K12 := Lib.hid (K10.out.trans kb)
          clear kb
          go_wp2_with fail
          go_ret
          exact ⟨rfl, K12.out⟩
      · obtain rfl : E = 14 := by omega
        clear TW
        have cp0 := Pp.cell 0 rfl
        have cp1 := Pp.cell 1 rfl
        have cx0 := Px.cell 0 rfl
        have cx1 := Px.cell 1 rfl
        have cq0 := Pq.cell 0 rfl
        have cq1 := Pq.cell 1 rfl
        go_wp2_with fail
        clear cp0 cp1 cx0 cx1 cq0 cq1
        go_ret
        exact ⟨rfl, K6.out⟩
    case true =>
      obtain ⟨a, ha⟩ : ∃ a, 1 + m = a := ⟨_, rfl⟩
      rw [ha] at e3
      have a0 : 0 < a := by omega
      have a1 : a ≤ 4611686018427387904 := by omega
      have TW := joi_two (a := a) OK.out a0
      have DO := Lib.hid (fun W => does 0 T S a W T0 (by omega) (by omega) S1 (by omega) (by omega))
      obtain ⟨q1, q2, q3, q4⟩ := d0 T S a
      rw [q1, q2, q3, q4] at DO
      clear q1 q2 q3 q4
      obtain ⟨A, hA⟩ : ∃ A, joiT T S a = A := ⟨_, rfl⟩
      obtain ⟨B, hB⟩ : ∃ B, joiS T S a = B := ⟨_, rfl⟩
      obtain ⟨C, hC⟩ : ∃ C, joiN T S a = C := ⟨_, rfl⟩
      obtain ⟨E, hE⟩ : ∃ E, joiE T S a = E := ⟨_, rfl⟩
      rw [hA, hB, hC, hE] at DO
      rw [hE] at TW
      have LY := Lib.hid (fun h => joi_yes (T := T) (S := S) (a := a) h)
      have LO := Lib.hid (fun h => joi_ok (T := T) (S := S) (a := a) h)
      have LF := Lib.hid (fun h => join_fair (T := T) (S := S) (a := a) OK.out HS.out a0 h)
      have HA := Lib.hid (And.intro hA (And.intro hB (And.intro hC hE)))
      clear hA hB hC hE
      have cp0 := Pp.cell 0 rfl
      have cp1 := Pp.cell 1 rfl
      have cx0 := Px.cell 0 rfl
      have cx1 := Px.cell 1 rfl
      have fx0 := Px.frozen 0
      have fx1 := Px.frozen 1
      go_upto_region 10 with fail
      clear cp0 cp1 cx0 cx1 fx0 fx1
      clear ha
      have Pp := Pp.other (b' := x) (by have := Lpx.out; omega) 0 (.int .i64 0)
      have Px : AB ((wc).setCell ⟨x, 0, none⟩ (.int .i64 0)) x 0 N := Px.set 0 (.int .i64 0)
      have K5 := Lib.hid (KC.out.set (show w.heap.size ≤ (⟨x, 0, none⟩ : Addr).block from Zx.out) (.int .i64 0))
      have Pp := Pp.other (b' := x) (by have := Lpx.out; omega) 1 (.int .u64 a)
      have Px : AB (((wc).setCell ⟨x, 0, none⟩ (.int .i64 0)).setCell ⟨x, 1, none⟩ (.int .u64 a)) x 0 a := Px.set 1 (.int .u64 a)
      have K6 := Lib.hid (K5.out.set (show w.heap.size ≤ (⟨x, 1, none⟩ : Addr).block from Zx.out) (.int .u64 a))
      obtain ⟨we, hwe⟩ : ∃ W, ((wc).setCell ⟨x, 0, none⟩ (.int .i64 0)).setCell ⟨x, 1, none⟩ (.int .u64 a) = W := ⟨_, rfl⟩
      rw [hwe] at Pp Px K6
      rw [hwe]
      clear hwe
      have cp0 := Pp.cell 0 rfl
      have cp1 := Pp.cell 1 rfl
      have cx0 := Px.cell 0 rfl
      have cx1 := Px.cell 1 rfl
      go_wp2_with fail
      clear cp0 cp1 cx0 cx1
      refine (DO.out _).mono ?_
      rintro e w5 ⟨rfl, kb⟩
      have Pp := Pp.bel kb
      have Px := Px.bel kb
      have K7 := Lib.hid (K6.out.trans kb)
      clear kb
      go_upto_region 11 with fail
      have Pq : PB ((w5).alloc (.cells #[.int .u64 A, .int .u64 B] 24)) (w5).heap.size A B := Kk.Blk.new _ _ _
      obtain ⟨q, hq⟩ : ∃ b, (w5).heap.size = b := ⟨_, rfl⟩
      obtain ⟨Xq, hXq⟩ : ∃ X, (w5).alloc (.cells #[.int .u64 A, .int .u64 B] 24) = X := ⟨_, rfl⟩
      have Dq : Bel w5 Xq := by rw [← hXq]; exact (Bel.refl _).alloc _
      have Zq := Lib.hid (show w.heap.size ≤ q by rw [← hq]; exact Below.size K7.out)
      rw [hXq, hq] at Pq
      rw [hXq, hq]
      have Lpq := Lib.hid (show p < q by rw [← hq]; exact Pp.lt)
      have Lxq := Lib.hid (show x < q by rw [← hq]; exact Px.lt)
      have Pp := Pp.bel Dq
      have Px := Px.bel Dq
      have K8 := Lib.hid (K7.out.trans Dq)
      clear hq hXq Dq
      by_cases hE : E = 0
      · subst hE
        obtain ⟨z1, z2, z3⟩ := LY.out HA.out.2.2.2
        rw [HA.out.1] at z1
        rw [HA.out.2.1] at z2
        rw [HA.out.2.2.1] at z3
        obtain ⟨_, _, _, v0, v1⟩ := LO.out HA.out.2.2.2
        obtain ⟨FA, f4, f5, C0⟩ := LF.out HA.out.2.2.2
        rw [← z3] at z2 v1 FA f4 f5 C0
        rw [← z1, ← z2] at FA f4 f5
        have A0 : 0 ≤ A := by omega
        have A1 : A ≤ 18446744073709551615 := by omega
        have B0 : 0 ≤ B := by omega
        have B1 : B ≤ 18446744073709551615 := by omega
        have C1 : C ≤ 18446744073709551615 := by omega
        have hB1 : (B == 0) = false := by simp; omega
        have hB : ¬ B = 0 := by omega
        have hmin : min S B = S := by omega
        have x5 : o.tmod S = o % S := Int.tmod_eq_emod_of_nonneg OO.out.1
        obtain ⟨y, hy⟩ : ∃ y, o % S = y := ⟨_, rfl⟩
        have y0 : 0 ≤ y := by rw [← hy]; exact Int.emod_nonneg o HS.out
        have y2 : y < S := by rw [← hy]; exact Int.emod_lt_of_pos o (by omega)
        have y1 : y ≤ 18446744073709551615 := by omega
        rw [hy] at x5
        have y5 : IntKind.u64.wrap y = y := by rw [IntKind.wrap_u64]; omega
        obtain ⟨f1, f2⟩ := FA y y0 y2 (by omega)
        clear hy FA
        have AM3 := Lib.hid (fun W => atMost C A B 1 a 1 0 W C0 C1 A0 A1 B0 B1 (by decide) (by decide) (by omega) (by omega) (by decide) (by decide) (by decide) (by decide))
        rw [fair4 f4] at AM3
        have AM4 := Lib.hid (fun W => atMost 1 a 1 C A B 1 W (by decide) (by decide) (by omega) (by omega) (by decide) (by decide) C0 C1 A0 A1 B0 B1 (by decide) (by decide))
        rw [fair5 f5] at AM4
        have WH := Lib.hid (fun W => whole C A B a W C0 C1 A0 A1 B0 B1 (by omega) (by omega))
        rw [fair6 f5] at WH
        clear f4 f5 z1 z2 z3 v0 v1 TW
        have AM1 := Lib.hid (fun W => atMost y T S y A B 0 W y0 y1 T0 (by omega) (by omega) S1 y0 y1 A0 A1 B0 B1 (by decide) (by decide))
        rw [fair1 f1] at AM1
        have AM2 := Lib.hid (fun W => atMost y A B y T S 1 W y0 y1 A0 A1 B0 B1 y0 y1 T0 (by omega) (by omega) S1 (by decide) (by decide))
        rw [fair2 f2] at AM2
        have SP := Lib.hid (fun W => sharper y A B T S W y0 y1 A0 A1 B0 B1 T0 (by omega) (by omega) S1)
        rw [fair3 f2] at SP
        clear f1 f2
        have cp0 := Pp.cell 0 rfl
        have cp1 := Pp.cell 1 rfl
        have cx0 := Px.cell 0 rfl
        have cx1 := Px.cell 1 rfl
        have cq0 := Pq.cell 0 rfl
        have cq1 := Pq.cell 1 rfl
        go_wp2_with fail
        clear cp0 cp1 cx0 cx1 cq0 cq1
        refine (AM1.out _).mono ?_
        rintro e w29 ⟨rfl, kb⟩
        have Pp := Pp.bel kb
        have Px := Px.bel kb
        have Pq := Pq.bel kb
        have K10 := Lib.hid (K8.out.trans kb)
        clear kb
        have cp0 := Pp.cell 0 rfl
        have cp1 := Pp.cell 1 rfl
        have cx0 := Px.cell 0 rfl
        have cx1 := Px.cell 1 rfl
        have cq0 := Pq.cell 0 rfl
        have cq1 := Pq.cell 1 rfl
        go_wp2_with fail
        clear cp0 cp1 cx0 cx1 cq0 cq1
        refine (AM2.out _).mono ?_
        rintro e w211 ⟨rfl, kb⟩
        have Pp := Pp.bel kb
        have Px := Px.bel kb
        have Pq := Pq.bel kb
        have K12 := Lib.hid (K10.out.trans kb)
        clear kb
        have cp0 := Pp.cell 0 rfl
        have cp1 := Pp.cell 1 rfl
        have cx0 := Px.cell 0 rfl
        have cx1 := Px.cell 1 rfl
        have cq0 := Pq.cell 0 rfl
        have cq1 := Pq.cell 1 rfl
        go_wp2_with fail
        clear cp0 cp1 cx0 cx1 cq0 cq1
        refine (SP.out _).mono ?_
        rintro e w213 ⟨rfl, kb⟩
        have Pp := Pp.bel kb
        have Px := Px.bel kb
        have Pq := Pq.bel kb
        have K14 := Lib.hid (K12.out.trans kb)
        clear kb
        have cp0 := Pp.cell 0 rfl
        have cp1 := Pp.cell 1 rfl
        have cx0 := Px.cell 0 rfl
        have cx1 := Px.cell 1 rfl
        have cq0 := Pq.cell 0 rfl
        have cq1 := Pq.cell 1 rfl
        go_upto_region 19 with fail
        clear cp0 cp1 cx0 cx1 cq0 cq1
        have Pl : PB ((w213).alloc (.cells #[.int .u64 a, .int .u64 1] 24)) (w213).heap.size a 1 := Kk.Blk.new _ _ _
        obtain ⟨l, hl⟩ : ∃ b, (w213).heap.size = b := ⟨_, rfl⟩
        obtain ⟨Xl, hXl⟩ : ∃ X, (w213).alloc (.cells #[.int .u64 a, .int .u64 1] 24) = X := ⟨_, rfl⟩
        have Dl : Bel w213 Xl := by rw [← hXl]; exact (Bel.refl _).alloc _
        have Zl := Lib.hid (show w.heap.size ≤ l by rw [← hl]; exact Below.size K14.out)
        rw [hXl, hl] at Pl
        rw [hXl, hl]
        have Lpl := Lib.hid (show p < l by rw [← hl]; exact Pp.lt)
        have Lxl := Lib.hid (show x < l by rw [← hl]; exact Px.lt)
        have Lql := Lib.hid (show q < l by rw [← hl]; exact Pq.lt)
        have Pp := Pp.bel Dl
        have Px := Px.bel Dl
        have Pq := Pq.bel Dl
        have K15 := Lib.hid (K14.out.trans Dl)
        clear hl hXl Dl
        have cp0 := Pp.cell 0 rfl
        have cp1 := Pp.cell 1 rfl
        have cx0 := Px.cell 0 rfl
        have cx1 := Px.cell 1 rfl
        have cq0 := Pq.cell 0 rfl
        have cq1 := Pq.cell 1 rfl
        have cl0 := Pl.cell 0 rfl
        have cl1 := Pl.cell 1 rfl
        go_wp2_with fail
        clear cp0 cp1 cx0 cx1 cq0 cq1 cl0 cl1
        refine (AM3.out _).mono ?_
        rintro e w31 ⟨rfl, kb⟩
        have Pp := Pp.bel kb
        have Px := Px.bel kb
        have Pq := Pq.bel kb
        have Pl := Pl.bel kb
        have K16 := Lib.hid (K15.out.trans kb)
        clear kb
        have cp0 := Pp.cell 0 rfl
        have cp1 := Pp.cell 1 rfl
        have cx0 := Px.cell 0 rfl
        have cx1 := Px.cell 1 rfl
        have cq0 := Pq.cell 0 rfl
        have cq1 := Pq.cell 1 rfl
        have cl0 := Pl.cell 0 rfl
        have cl1 := Pl.cell 1 rfl
        go_wp2_with fail
        clear cp0 cp1 cx0 cx1 cq0 cq1 cl0 cl1
        refine (AM4.out _).mono ?_
        rintro e w32 ⟨rfl, kb⟩
        have Pp := Pp.bel kb
        have Px := Px.bel kb
        have Pq := Pq.bel kb
        have Pl := Pl.bel kb
        have K17 := Lib.hid (K16.out.trans kb)
        clear kb
        have cp0 := Pp.cell 0 rfl
        have cp1 := Pp.cell 1 rfl
        have cx0 := Px.cell 0 rfl
        have cx1 := Px.cell 1 rfl
        have cq0 := Pq.cell 0 rfl
        have cq1 := Pq.cell 1 rfl
        have cl0 := Pl.cell 0 rfl
        have cl1 := Pl.cell 1 rfl
        go_wp2_with fail
        clear cp0 cp1 cx0 cx1 cq0 cq1 cl0 cl1
        refine (WH.out _).mono ?_
        rintro e w33 ⟨rfl, kb⟩
        have Pp := Pp.bel kb
        have Px := Px.bel kb
        have Pq := Pq.bel kb
        have Pl := Pl.bel kb
        have K18 := Lib.hid (K17.out.trans kb)
        clear kb
        go_wp2_with fail
        go_ret
        exact ⟨rfl, K18.out⟩
      · obtain rfl : E = 12 := by omega
        clear TW
        have cp0 := Pp.cell 0 rfl
        have cp1 := Pp.cell 1 rfl
        have cx0 := Px.cell 0 rfl
        have cx1 := Px.cell 1 rfl
        have cq0 := Pq.cell 0 rfl
        have cq1 := Pq.cell 1 rfl
        go_wp2_with fail
        clear cp0 cp1 cx0 cx1 cq0 cq1
        go_ret
        exact ⟨rfl, K8.out⟩
end Sh
end Go.Proofs.Ytmfajljgcndgfaa
