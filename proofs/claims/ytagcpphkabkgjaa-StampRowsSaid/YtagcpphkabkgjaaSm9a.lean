/-
  What stamp.Take tells of no reader, and what the reference's Put makes of any writer. Conditions: the writer is one that the reference's NewWriter made.
-/
import Derived.Test.YtagcpphkabkgjaaSm4c
import Derived.Test.YtagcpphkabkgjaaWref
namespace Go.Proofs.Ytagcpphkabkgjaa
open Go.RowKit Go.Shelf
set_option linter.unusedVariables false
namespace Sm
open Cd

set_option maxRecDepth 10000 in
theorem faulty0 (v : Value) (w : World) (h : Null w v) : Calls Try.prog 51 #[v] w fun r w' => r = .returned (.bool true) ∧ Bel w w' := by
  have LE := Lib.hid (rLeft0 v w h)
  have EN := Lib.hid (fun V (hv : Bel w V) => rEnd0 v V (h.bel hv))
  have hfd := field_flt 1 0
  clear h
  go_enter Try.func51, Try.ntmps51
  go_wp2_with fail
  refine (LE.out).mono ?_
  rintro r w1 ⟨rfl, kb⟩
  have K1 := Lib.hid kb
  clear kb LE
  go_wp2_with fail
  refine (EN.out _ K1.out).mono ?_
  rintro r w2 ⟨rfl, kb⟩
  have K2 := Lib.hid (K1.out.trans kb)
  clear kb
  go_wp2_with fail
  go_ret
  exact ⟨rfl, K2.out⟩

set_option maxRecDepth 10000 in
set_option maxHeartbeats 2000000 in
theorem take0 (v : Value) (w : World) (h : Null w v) : Calls Try.prog 25 #[v] w fun r w' => r = .returned (stV 0 0 0 0) ∧ Bel w w' := by
  have T0 : Bel w ((w.alloc (.cells #[.int .i64 0, .int .i64 0, .int .i64 0, .int .i64 0] 23)).alloc (.cells #[.int .i64 0, .int .i64 0, .int .i64 0, .int .i64 0] 23)) := ((Bel.refl w).alloc _).alloc _
  have p0 := Blk.new (w.alloc (.cells #[.int .i64 0, .int .i64 0, .int .i64 0, .int .i64 0] 23)) #[.int .i64 0, .int .i64 0, .int .i64 0, .int .i64 0] 23
  rw [World.size_alloc] at p0
  have q0 : Blk ((w.alloc (.cells #[.int .i64 0, .int .i64 0, .int .i64 0, .int .i64 0] 23)).alloc (.cells #[.int .i64 0, .int .i64 0, .int .i64 0, .int .i64 0] 23)) w.heap.size _ _ := (Blk.new w #[.int .i64 0, .int .i64 0, .int .i64 0, .int .i64 0] 23).alloc _
  have AT := Lib.hid (fun V (hv : Bel w V) => rAt0 v V (h.bel hv))
  have NN := Lib.hid (fun V p q (hv : Bel w V) => rN0 v p q V (h.bel hv))
  have FL := Lib.hid (fun V e p (hv : Bel w V) => rFail0 v e p V (h.bel hv))
  have FY := Lib.hid (fun V (hv : Bel w V) => faulty0 v V (h.bel hv))
  have CK := Lib.hid (fun V => check 0 0 (-1) 0 V)
  obtain ⟨E, hE⟩ : ∃ E, ck 0 0 (-1) 0 = E := ⟨_, rfl⟩
  rw [hE] at CK
  clear h hE
  go_enter Try.func25, Try.ntmps25
  go_upto_region 2 with fail
  obtain ⟨W, hW⟩ : ∃ W, (w.alloc (.cells #[.int .i64 0, .int .i64 0, .int .i64 0, .int .i64 0] 23)).alloc (.cells #[.int .i64 0, .int .i64 0, .int .i64 0, .int .i64 0] 23) = W := ⟨_, rfl⟩
  obtain ⟨p, hp⟩ : ∃ p, w.heap.size + 1 = p := ⟨_, rfl⟩
  obtain ⟨q, hq⟩ : ∃ q, w.heap.size = q := ⟨_, rfl⟩
  rw [hW, hp] at p0
  rw [hW, hq] at q0
  rw [hW] at T0
  rw [hW, hp, hq]
  have HPQ := Lib.hid (show w.heap.size ≤ p ∧ w.heap.size ≤ q ∧ p ≠ q by omega)
  have T0 := Lib.hid T0
  have P0 := Lib.hid p0
  have Q0 := Lib.hid q0
  clear hW hp hq p0 q0
  go_wp2_with fail
  refine (AT.out _ T0.out).mono ?_
  rintro r w1 ⟨rfl, kb⟩
  have T1 := Lib.hid (T0.out.trans kb)
  have P1 := Lib.hid (P0.out.bel kb)
  have Q1 := Lib.hid (Q0.out.bel kb)
  clear kb T0 P0 Q0
  go_wp2_with fail
  refine (NN.out _ _ _ T1.out).mono ?_
  rintro r w2 ⟨rfl, kb⟩
  have T2 := Lib.hid (T1.out.trans kb)
  have P2 := Lib.hid (P1.out.bel kb)
  have Q2 := Lib.hid (Q1.out.bel kb)
  have c0 := P2.out.cell 0 rfl
  have f0 := P2.out.frozen 0
  clear kb T1 P1 Q1
  go_upto_region 4 with fail
  have T3 := Lib.hid (T2.out.set (p := ⟨p, 0, none⟩) HPQ.out.1 (.int .i64 0))
  have P3 := Lib.hid (show Blk _ p #[.int .i64 0, .int .i64 0, .int .i64 0, .int .i64 0] 23 from P2.out.set 0 (.int .i64 0))
  have Q3 := Lib.hid (Q2.out.other (b' := p) (fun e => HPQ.out.2.2 e.symm) 0 (.int .i64 0))
  obtain ⟨W3, hW⟩ : ∃ W, w2.setCell ⟨p, 0, none⟩ (.int .i64 0) = W := ⟨_, rfl⟩
  rw [hW] at T3 P3 Q3 ⊢
  clear hW c0 f0 T2 P2 Q2
  go_wp2_with fail
  refine (NN.out _ _ _ T3.out).mono ?_
  rintro r w4 ⟨rfl, kb⟩
  have T4 := Lib.hid (T3.out.trans kb)
  have P4 := Lib.hid (P3.out.bel kb)
  have Q4 := Lib.hid (Q3.out.bel kb)
  have c0 := P4.out.cell 1 rfl
  have f0 := P4.out.frozen 1
  clear kb T3 P3 Q3
  go_upto_region 5 with fail
  have T5 := Lib.hid (T4.out.set (p := ⟨p, 1, none⟩) HPQ.out.1 (.int .i64 0))
  have P5 := Lib.hid (show Blk _ p #[.int .i64 0, .int .i64 0, .int .i64 0, .int .i64 0] 23 from P4.out.set 1 (.int .i64 0))
  have Q5 := Lib.hid (Q4.out.other (b' := p) (fun e => HPQ.out.2.2 e.symm) 1 (.int .i64 0))
  obtain ⟨W5, hW⟩ : ∃ W, w4.setCell ⟨p, 1, none⟩ (.int .i64 0) = W := ⟨_, rfl⟩
  rw [hW] at T5 P5 Q5 ⊢
  clear hW c0 f0 T4 P4 Q4
  go_wp2_with fail
  refine (NN.out _ _ _ T5.out).mono ?_
  rintro r w6 ⟨rfl, kb⟩
  have T6 := Lib.hid (T5.out.trans kb)
  have P6 := Lib.hid (P5.out.bel kb)
  have Q6 := Lib.hid (Q5.out.bel kb)
  have c0 := P6.out.cell 2 rfl
  have f0 := P6.out.frozen 2
  clear kb T5 P5 Q5
  go_upto_region 6 with fail
  have T7 := Lib.hid (T6.out.set (p := ⟨p, 2, none⟩) HPQ.out.1 (.int .i64 (-1)))
  have P7 := Lib.hid (show Blk _ p #[.int .i64 0, .int .i64 0, .int .i64 (-1), .int .i64 0] 23 from P6.out.set 2 (.int .i64 (-1)))
  have Q7 := Lib.hid (Q6.out.other (b' := p) (fun e => HPQ.out.2.2 e.symm) 2 (.int .i64 (-1)))
  obtain ⟨W7, hW⟩ : ∃ W, w6.setCell ⟨p, 2, none⟩ (.int .i64 (-1)) = W := ⟨_, rfl⟩
  rw [hW] at T7 P7 Q7 ⊢
  clear hW c0 f0 T6 P6 Q6
  go_wp2_with fail
  refine (NN.out _ _ _ T7.out).mono ?_
  rintro r w8 ⟨rfl, kb⟩
  have T8 := Lib.hid (T7.out.trans kb)
  have P8 := Lib.hid (P7.out.bel kb)
  have Q8 := Lib.hid (Q7.out.bel kb)
  have c0 := P8.out.cell 3 rfl
  have f0 := P8.out.frozen 3
  clear kb T7 P7 Q7
  go_upto_region 7 with fail
  have T9 := Lib.hid (T8.out.set (p := ⟨p, 3, none⟩) HPQ.out.1 (.int .i64 0))
  have P9 := Lib.hid (show Blk _ p #[.int .i64 0, .int .i64 0, .int .i64 (-1), .int .i64 0] 23 from P8.out.set 3 (.int .i64 0))
  have Q9 := Lib.hid (Q8.out.other (b' := p) (fun e => HPQ.out.2.2 e.symm) 3 (.int .i64 0))
  obtain ⟨W9, hW⟩ : ∃ W, w8.setCell ⟨p, 3, none⟩ (.int .i64 0) = W := ⟨_, rfl⟩
  rw [hW] at T9 P9 Q9 ⊢
  clear hW c0 f0 T8 P8 Q8
  have c0 := P9.out.cell 0 rfl
  have c1 := P9.out.cell 1 rfl
  have c2 := P9.out.cell 2 rfl
  have c3 := P9.out.cell 3 rfl
  go_wp2_with fail
  refine (CK.out _).mono ?_
  rintro r wa ⟨rfl, kb⟩
  have Ta := Lib.hid (T9.out.trans kb)
  have Qa := Lib.hid (Q9.out.bel kb)
  clear kb c0 c1 c2 c3 T9 P9 Q9
  go_wp2_with fail
  refine (FL.out _ _ _ Ta.out).mono ?_
  rintro r wb ⟨rfl, kb⟩
  have Tb := Lib.hid (Ta.out.trans kb)
  have Qb := Lib.hid (Qa.out.bel kb)
  clear kb Ta Qa
  go_wp2_with fail
  refine (FY.out _ Tb.out).mono ?_
  rintro r wc ⟨rfl, kb⟩
  have Tc := Lib.hid (Tb.out.trans kb)
  have Qc := Lib.hid (Qb.out.bel kb)
  clear kb Tb Qb
  have d0 := Qc.out.cell 0 rfl
  have d1 := Qc.out.cell 1 rfl
  have d2 := Qc.out.cell 2 rfl
  have d3 := Qc.out.cell 3 rfl
  have g0 := Qc.out.frozen 0
  have g1 := Qc.out.frozen 1
  have g2 := Qc.out.frozen 2
  have g3 := Qc.out.frozen 3
  go_wp2_with fail
  refine bodyPost_ret (Pm.res_c rfl _ _ ⟨q, 0, none⟩ _ rfl (load_st ((((Qc.out.set 0 _).set 1 _).set 2 _).set 3 _))) rfl ⟨rfl, (((Tc.out.set HPQ.out.2.1 _).set HPQ.out.2.1 _).set HPQ.out.2.1 _).set HPQ.out.2.1 _⟩

/-- What the reference's writer is behind a stamp. -/
def put4R (L : Int) (s : List Int × Int) (a b c d : Int) : List Int × Int :=
  if ck a b c d = 0 then stpR L (stpR L (stpR L (stpR L s (enc a)) (enc b)) (enc (c + 1))) (enc d) else s
theorem alike4 {s t : List Int × Int} (h : Cd.Alike s t) (L a b c d : Int) : Cd.Alike (put4 L s a b c d) (put4R L t a b c d) := by
  unfold put4 put4R
  split
  · exact (((h.stp L _).stp L _).stp L _).stp L _
  · exact h
set_option maxRecDepth 10000 in
set_option maxHeartbeats 2000000 in
theorem putR (b : Nat) (L : Int) (v : Value) (s : List Int × Int) (base : Nat) (x1 x2 x3 x4 : Int) (w : World) (h : RW w b L v s.2 s.1 base) :
    Calls Try.prog 20 #[.pointer (some ⟨b, 0, none⟩), stV x1 x2 x3 x4] w fun r w' => r = .returned (.int .i64 (if ck x1 x2 x3 x4 = 0 then (put4R L s x1 x2 x3 x4).2 else ck x1 x2 x3 x4)) ∧
      ∃ v', RW w' b L v' (put4R L s x1 x2 x3 x4).2 (put4R L s x1 x2 x3 x4).1 base ∧ Lies w v v' ∧ Kep (Own2 b v) w w' := by
  have CK := Lib.hid (fun W => checkR x1 x2 x3 x4 W)
  have P0 := Lib.hid (Blk.new w #[.int .i64 x1, .int .i64 x2, .int .i64 x3, .int .i64 x4] 23)
  have B0 := Lib.hid ((Bel.refl w).alloc (.cells #[.int .i64 x1, .int .i64 x2, .int .i64 x3, .int .i64 x4] 23))
  have H := Lib.hid h
  have hbl := h.blk.lt
  have hrl := fun k hk => (h.row.lt k hk).2
  have HBL := Lib.hid hbl
  have HRL := Lib.hid hrl
  clear h hbl hrl
  obtain ⟨p, hp⟩ : ∃ p, w.heap.size = p := ⟨_, rfl⟩
  obtain ⟨W, hW⟩ : ∃ W, w.alloc (.cells #[.int .i64 x1, .int .i64 x2, .int .i64 x3, .int .i64 x4] 23) = W := ⟨_, rfl⟩
  rw [hW, hp] at P0
  rw [hW] at B0
  rw [hp] at HBL HRL
  have HW := Lib.hid hW
  have HP := Lib.hid hp
  clear hW hp
  by_cases h0 : ck x1 x2 x3 x4 = 0
  · have e0 : put4R L s x1 x2 x3 x4 = stpR L (stpR L (stpR L (stpR L s (enc x1)) (enc x2)) (enc (x3 + 1))) (enc x4) := by unfold put4R; rw [if_pos h0]
    rw [e0, if_pos h0]
    obtain ⟨a0, a1, b0, b1, c0, c1, d0, d1, -, -, -⟩ := ck_ok h0
    rw [h0] at CK
    have N1 := Lib.hid (fun V (hv : Bel w V) => nR b L v s base x1 V (H.out.bel hv) a0 (by omega))
    obtain ⟨s1, hs1⟩ : ∃ q, stpR L s (enc x1) = q := ⟨_, rfl⟩
    rw [hs1] at N1
    have N2 := Lib.hid (fun V v1 (hv : RW V b L v1 s1.2 s1.1 base) => nR b L v1 s1 base x2 V hv (by omega) (by omega))
    obtain ⟨s2, hs2⟩ : ∃ q, stpR L s1 (enc x2) = q := ⟨_, rfl⟩
    rw [hs2] at N2
    have N3 := Lib.hid (fun V v1 (hv : RW V b L v1 s2.2 s2.1 base) => nR b L v1 s2 base (x3 + 1) V hv (by omega) (by omega))
    obtain ⟨s3, hs3⟩ : ∃ q, stpR L s2 (enc (x3 + 1)) = q := ⟨_, rfl⟩
    rw [hs3] at N3
    have N4 := Lib.hid (fun V v1 (hv : RW V b L v1 s3.2 s3.1 base) => nR b L v1 s3 base x4 V hv d0 (by omega))
    obtain ⟨s4, hs4⟩ : ∃ q, stpR L s3 (enc x4) = q := ⟨_, rfl⟩
    rw [hs4] at N4
    rw [hs1, hs2, hs3, hs4]
    clear hs1 hs2 hs3 hs4 e0 h0
    have w3 : IntKind.i64.wrap (x3 + 1) = x3 + 1 := IntWalk.i64_in _ (by omega)
    clear a0 a1 b0 b1 c0 c1 d0 d1
    go_enter Try.func20, Try.ntmps20
    go_upto_region 1 with fail
    rw [HW.out, HP.out]
    have c0 := P0.out.cell 0 rfl
    have c1 := P0.out.cell 1 rfl
    have c2 := P0.out.cell 2 rfl
    have c3 := P0.out.cell 3 rfl
    go_wp2_with fail
    refine (CK.out _).mono ?_
    rintro r w1 ⟨rfl, kb⟩
    have K1 := Lib.hid (B0.out.trans kb)
    have P1 := Lib.hid (P0.out.bel kb)
    clear kb c0 c1 c2 c3
    have c0 := P1.out.cell 0 rfl
    go_wp2_with fail
    refine (N1.out _ K1.out).mono ?_
    rintro r w2 ⟨rfl, v1, g1, l1, k1⟩
    have G1 := Lib.hid g1
    have L1 := Lib.hid (show Lies w v v1 from fun g hg => (l1 g hg).imp id (fun h => Nat.le_trans (Below.size K1.out) h))
    have KK1 := Lib.hid ((Kep.of_bel (S := Own2 b v) K1.out).trans k1)
    have P2 := Lib.hid (P1.out.kep k1 (by rintro (h | h); have := HBL.out; omega; have := HRL.out _ h; omega))
    clear g1 l1 k1 c0
    have c1 := P2.out.cell 1 rfl
    go_wp2_with fail
    refine (N2.out _ v1 G1.out).mono ?_
    rintro r w3 ⟨rfl, v2, g1, l1, k1⟩
    have G2 := Lib.hid g1
    have L2 := Lib.hid (L1.out.trans l1 KK1.out.size)
    have KK2 := Lib.hid (kep_lies KK1.out L1.out k1)
    have P3 := Lib.hid (P2.out.kep k1 (by rintro (h | h); have := HBL.out; omega; exact P2.out.not_row (by decide) G1.out.row h))
    clear g1 l1 k1 c1
    have c2 := P3.out.cell 2 rfl
    go_wp2_with fail
    refine (N3.out _ v2 G2.out).mono ?_
    rintro r w4 ⟨rfl, v3, g1, l1, k1⟩
    have G3 := Lib.hid g1
    have L3 := Lib.hid (L2.out.trans l1 KK2.out.size)
    have KK3 := Lib.hid (kep_lies KK2.out L2.out k1)
    have P4 := Lib.hid (P3.out.kep k1 (by rintro (h | h); have := HBL.out; omega; exact P3.out.not_row (by decide) G2.out.row h))
    clear g1 l1 k1 c2
    have c3 := P4.out.cell 3 rfl
    go_wp2_with fail
    refine (N4.out _ v3 G3.out).mono ?_
    rintro r w5 ⟨rfl, v4, g1, l1, k1⟩
    have G4 := Lib.hid g1
    have L4 := Lib.hid (L3.out.trans l1 KK3.out.size)
    have KK4 := Lib.hid (kep_lies KK3.out L3.out k1)
    clear g1 l1 k1 c3
    go_wp2_with fail
    go_ret
    exact ⟨rfl, v4, G4.out, L4.out, KK4.out⟩
  · have e0 : put4R L s x1 x2 x3 x4 = s := by unfold put4R; rw [if_neg h0]
    rw [e0, if_neg h0]
    obtain ⟨e, he⟩ : ∃ e, ck x1 x2 x3 x4 = e := ⟨_, rfl⟩
    rw [he] at CK h0 ⊢
    have he1 : (e != 0) = true := by rw [bne_iff_ne]; exact h0
    clear he e0 h0
    go_enter Try.func20, Try.ntmps20
    go_upto_region 1 with fail
    rw [HW.out, HP.out]
    have c0 := P0.out.cell 0 rfl
    have c1 := P0.out.cell 1 rfl
    have c2 := P0.out.cell 2 rfl
    have c3 := P0.out.cell 3 rfl
    go_wp2_with fail
    refine (CK.out _).mono ?_
    rintro r w1 ⟨rfl, kb⟩
    have K1 := Lib.hid (B0.out.trans kb)
    clear kb c0 c1 c2 c3
    go_wp2_with fail
    go_ret
    exact ⟨rfl, v, H.out.bel K1.out, Lies.refl _ _, Kep.of_bel K1.out⟩
end Sm
end Go.Proofs.Ytagcpphkabkgjaa
