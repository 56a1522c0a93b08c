/-
  StampBytes: which bytes a stamp has, and which stamp bytes are. Conditions: the bytes are bytes.
-/
import Derived.Test.YtagcpphkabkgjaaSm6
import Derived.Test.YtagcpphkabkgjaaSm7m
import Derived.Test.YtagcpphkabkgjaaSm4c
import Derived.Test.YtagcpphkabkgjaaKept
import Derived.Laws.StructEq
namespace Go.Proofs.Ytagcpphkabkgjaa
open Go.RowKit Go.Shelf
set_option linter.unusedVariables false
namespace Sm
open Cd

set_option maxRecDepth 20000 in
set_option maxHeartbeats 4000000 in
theorem bytesLaw (a b c d : Int) (A : Option Addr) (n m : Nat) (raw : List Int) (w : World) (hn : n ≤ 9223372036854775807) (hr : Sl w A n m raw) (hb : Bytes raw) :
    Calls Try.prog 3 #[stV a b c d, .slice A n m] w fun r w' => r = .returned (.bool true) ∧ Bel w w' := by
  have AW := Lib.hid (fun W => awake W)
  have HR := Lib.hid hr
  have HB := Lib.hid hb
  have I0 : S1 w w.heap.size a b c d (w.alloc (.cells #[.int .i64 a, .int .i64 b, .int .i64 c, .int .i64 d] 23)) := ⟨(Bel.refl w).alloc _, Blk.new w _ _⟩
  have I0 := Lib.hid I0
  have BY := Lib.hid (fun V => bytes a b c d V)
  have BR := Lib.hid (fun V => bytesR a b c d V)
  have ZL := Lib.hid (show (bytesN a b c d).length ≤ 40 by unfold bytesN; split; exact enc4_len a b c d; simp)
  obtain ⟨E, hE⟩ : ∃ E, ck a b c d = E := ⟨_, rfl⟩
  obtain ⟨zs, hzs⟩ : ∃ zs, bytesN a b c d = zs := ⟨_, rfl⟩
  rw [hE, hzs] at BY BR
  rw [hzs] at ZL
  clear hr hb hE hzs
  by_cases h100 : 100 < n
  · have h1 : (100 : Int) < n := by omega
    go_enter Try.func3, Try.ntmps3
    go_wp2_with fail
    refine (AW.out _).mono ?_
    rintro e' w1 ⟨rfl, kb⟩
    have K := Lib.hid (I0.out.1.trans kb)
    clear kb
    go_wp2_with fail
    go_ret
    exact ⟨rfl, K.out⟩
  have h1 : ¬ (100 : Int) < n := by omega
  go_enter Try.func3, Try.ntmps3
  go_upto_region 3 with fail
  obtain ⟨W, hW⟩ : ∃ W, w.alloc (.cells #[.int .i64 a, .int .i64 b, .int .i64 c, .int .i64 d] 23) = W := ⟨_, rfl⟩
  obtain ⟨p, hp⟩ : ∃ p, w.heap.size = p := ⟨_, rfl⟩
  rw [hW, hp] at I0
  rw [hW, hp]
  have HP := Lib.hid hp
  clear hW hp
  have cs0 := I0.out.2.cell 0 rfl
  have cs1 := I0.out.2.cell 1 rfl
  have cs2 := I0.out.2.cell 2 rfl
  have cs3 := I0.out.2.cell 3 rfl
  go_wp2_with fail
  refine (BY.out _).mono ?_
  rintro e' w1 ⟨v1, rfl, hf⟩
  have F1 := Lib.hid hf
  have I1 := Lib.hid (I0.out.up hf.2)
  clear hf cs0 cs1 cs2 cs3
  have cs0 := I1.out.2.cell 0 rfl
  have cs1 := I1.out.2.cell 1 rfl
  have cs2 := I1.out.2.cell 2 rfl
  have cs3 := I1.out.2.cell 3 rfl
  go_wp2_with fail
  refine (BR.out _).mono ?_
  rintro e' w2 ⟨v2, rfl, hf⟩
  have F2 := Lib.hid hf
  have I2 := Lib.hid (I1.out.up hf.2)
  have O1 := Lib.hid (owns_bel F1.out.1 hf.2)
  clear hf cs0 cs1 cs2 cs3
  obtain ⟨A1, m1, e1, s1⟩ := sl_of_own O1.out
  obtain ⟨A2, m2, e2, s2⟩ := F2.out.sl
  have SM := Lib.hid (same A1 A2 zs.length m1 zs.length m2 zs w2 s1.ints s2.ints)
  rw [← e1, ← e2] at SM
  clear e1 e2 s1 s2 A1 A2 m1 m2
  go_wp2_with fail
  refine (SM.out).mono ?_
  rintro e' w3 ⟨rfl, rfl⟩
  have OV := Lib.hid (over_any _ zs.length v1 zs w2 (by have := ZL.out; omega) O1.out)
  go_wp2_with fail
  refine (OV.out).mono ?_
  rintro e' w4 ⟨rfl, hk⟩
  have HL1 := Lib.hid (fun k (hk : v1.ownBlock = some k) => F1.out.1.lt k hk)
  have I4 := Lib.hid (show S1 w p a b c d w4 from ⟨Kep.bel I2.out.1 hk (fun i hi => Nat.le_trans (Below.size I0.out.1) (HL1.out i hi).1), I2.out.2.kep hk (fun h => by have := (HL1.out p h).1; have := I0.out.2.lt; omega)⟩)
  have O4 := Lib.hid (show w4.ownsRow w1.heap.size 5 1 v2 zs.length (zs.map (Value.int .u8)) from hk.owns (fun k h2 h1 => by have := (HL1.out k h1).2; have := (F2.out.1.lt k h2).1; omega) F2.out.1)
  clear hk SM OV O1 F1 F2
  have LE := Lib.hid (lent A n m raw w4 (HR.out.bel I4.out.1) (by omega))
  go_wp2_with fail
  refine (LE.out).mono ?_
  rintro e' w5 ⟨v5, rfl, hl, kb⟩
  have L5 := Lib.hid hl
  have I5 := Lib.hid (I4.out.up kb)
  have O5 := Lib.hid (owns_bel O4.out kb)
  clear hl kb LE O4
  obtain ⟨A5, m5, e5, s5⟩ := sl_of_own L5.out.own
  subst e5
  obtain ⟨y1, y2, y3, y4, k', f', o1, o2, o3, o4⟩ := tk_of raw HB.out 0 (Nat.zero_le _)
  obtain ⟨e1, e2, he⟩ : ∃ e1 e2, endOf raw.length k' f' = (e1, e2) := ⟨_, _, rfl⟩
  have RD := Lib.hid (read A5 n m5 raw y1 y2 y3 y4 k' f' e1 e2 w5 s5 (by omega) HB.out o1 he)
  have RR := Lib.hid (fun V (hv : Bel w V) => readR A n m raw y1 y2 y3 y4 k' f' e1 e2 V (HR.out.bel hv) (by omega) HB.out o1 he)
  clear o1 o2 o3 o4 he s5
  obtain ⟨z1, hz1⟩ : ∃ z, rz e1 y1 = z := ⟨_, rfl⟩
  obtain ⟨z2, hz2⟩ : ∃ z, rz e1 y2 = z := ⟨_, rfl⟩
  obtain ⟨z3, hz3⟩ : ∃ z, rz e1 y3 = z := ⟨_, rfl⟩
  obtain ⟨z4, hz4⟩ : ∃ z, rz e1 y4 = z := ⟨_, rfl⟩
  rw [hz1, hz2, hz3, hz4] at RD RR
  clear hz1 hz2 hz3 hz4
  go_wp2_with fail
  refine (RD.out).mono ?_
  rintro e' w6 ⟨rfl, kb⟩
  have T6 := Lib.hid (I5.out.up kb)
  have L6 := Lib.hid (L5.out.bel kb)
  have O6 := Lib.hid (owns_bel O5.out kb)
  clear kb RD I5 L5 O5
  have G0 : Blk ((w6.alloc (.cells #[.int .i64 z1, .int .i64 z2, .int .i64 z3, .int .i64 z4] 23)).alloc (.cells #[.int .i64 e1, .int .i64 e2] 33)) w6.heap.size #[.int .i64 z1, .int .i64 z2, .int .i64 z3, .int .i64 z4] 23 := (Blk.new w6 _ _).alloc _
  have H0 := Blk.new (w6.alloc (.cells #[.int .i64 z1, .int .i64 z2, .int .i64 z3, .int .i64 z4] 23)) #[.int .i64 e1, .int .i64 e2] 33
  rw [World.size_alloc] at H0
  have KK := ((Bel.refl w6).alloc (.cells #[.int .i64 z1, .int .i64 z2, .int .i64 z3, .int .i64 z4] 23)).alloc (.cells #[.int .i64 e1, .int .i64 e2] 33)
  go_upto_region 9 with fail
  obtain ⟨Wx, hW⟩ : ∃ W, (w6.alloc (.cells #[.int .i64 z1, .int .i64 z2, .int .i64 z3, .int .i64 z4] 23)).alloc (.cells #[.int .i64 e1, .int .i64 e2] 33) = W := ⟨_, rfl⟩
  obtain ⟨gx, hg⟩ : ∃ g, w6.heap.size = g := ⟨_, rfl⟩
  obtain ⟨kx, hk⟩ : ∃ k, gx + 1 = k := ⟨_, rfl⟩
  rw [hW, hg] at G0
  rw [hW, hg, hk] at H0
  rw [hW] at KK
  rw [hW, hg, hk]
  have Tx := Lib.hid (T6.out.up KK)
  have KBx := Lib.hid KK
  have Gx := Lib.hid G0
  have Hx := Lib.hid H0
  clear hW hg hk G0 H0 KK
  have L7 := Lib.hid (L6.out.bel KBx.out)
  have O7 := Lib.hid (owns_bel O6.out KBx.out)
  go_wp2_with fail
  refine (RR.out _ Tx.out.1).mono ?_
  rintro e' w8 ⟨rfl, kb⟩
  have T8 := Lib.hid (Tx.out.up kb)
  have L8 := Lib.hid (L7.out.bel kb)
  have O8 := Lib.hid (owns_bel O7.out kb)
  have Gx := Lib.hid (Gx.out.bel kb)
  have Hx := Lib.hid (Hx.out.bel kb)
  clear kb RR L7 O7 L6 O6 T6 Tx
  have G0 : Blk ((w8.alloc (.cells #[.int .i64 z1, .int .i64 z2, .int .i64 z3, .int .i64 z4] 23)).alloc (.cells #[.int .i64 e1, .int .i64 e2] 33)) w8.heap.size #[.int .i64 z1, .int .i64 z2, .int .i64 z3, .int .i64 z4] 23 := (Blk.new w8 _ _).alloc _
  have H0 := Blk.new (w8.alloc (.cells #[.int .i64 z1, .int .i64 z2, .int .i64 z3, .int .i64 z4] 23)) #[.int .i64 e1, .int .i64 e2] 33
  rw [World.size_alloc] at H0
  have KK := ((Bel.refl w8).alloc (.cells #[.int .i64 z1, .int .i64 z2, .int .i64 z3, .int .i64 z4] 23)).alloc (.cells #[.int .i64 e1, .int .i64 e2] 33)
  go_upto_region 10 with fail
  obtain ⟨Wy, hW⟩ : ∃ W, (w8.alloc (.cells #[.int .i64 z1, .int .i64 z2, .int .i64 z3, .int .i64 z4] 23)).alloc (.cells #[.int .i64 e1, .int .i64 e2] 33) = W := ⟨_, rfl⟩
  obtain ⟨gy, hg⟩ : ∃ g, w8.heap.size = g := ⟨_, rfl⟩
  obtain ⟨ky, hk⟩ : ∃ k, gy + 1 = k := ⟨_, rfl⟩
  rw [hW, hg] at G0
  rw [hW, hg, hk] at H0
  rw [hW] at KK
  rw [hW, hg, hk]
  have Ty := Lib.hid (T8.out.up KK)
  have KBy := Lib.hid KK
  have Gy := Lib.hid G0
  have Hy := Lib.hid H0
  clear hW hg hk G0 H0 KK
  have L9 := Lib.hid (L8.out.bel KBy.out)
  have O9 := Lib.hid (owns_bel O8.out KBy.out)
  have Gx := Lib.hid (Gx.out.bel KBy.out)
  have Hx := Lib.hid (Hx.out.bel KBy.out)
  clear L8 O8 T8
  have cs0 := Ty.out.2.cell 0 rfl
  have cs1 := Ty.out.2.cell 1 rfl
  have cs2 := Ty.out.2.cell 2 rfl
  have cs3 := Ty.out.2.cell 3 rfl
  go_wp2_with fail
  refine (BY.out _).mono ?_
  rintro e' wa ⟨va, rfl, hf⟩
  obtain ⟨Aa, ma, ea, sa⟩ := hf.sl
  have Ta := Lib.hid (Ty.out.up hf.2)
  have La := Lib.hid (L9.out.bel hf.2)
  have Oa := Lib.hid (owns_bel O9.out hf.2)
  have Gx := Lib.hid (Gx.out.bel hf.2)
  have Hx := Lib.hid (Hx.out.bel hf.2)
  have Gy := Lib.hid (Gy.out.bel hf.2)
  have Hy := Lib.hid (Hy.out.bel hf.2)
  have SA := Lib.hid sa
  subst ea
  obtain ⟨Ab, mb, eb, sb⟩ := sl_of_own Oa.out
  have SB2 := Lib.hid sb
  subst eb
  have KP := Lib.hid (kept _ _ A n m raw wa La.out (HR.out.bel Ta.out.1).ints (by omega))
  have SM := Lib.hid (fun V (hv : Bel wa V) => same Aa Ab zs.length ma zs.length mb zs V (SA.out.bel hv).ints (SB2.out.bel hv).ints)
  clear hf sa sb cs0 cs1 cs2 cs3 L9 O9 Ty
  have gx0 := Gx.out.cell 0 rfl
  have gx1 := Gx.out.cell 1 rfl
  have gx2 := Gx.out.cell 2 rfl
  have gx3 := Gx.out.cell 3 rfl
  have hx0 := Hx.out.cell 0 rfl
  have hx1 := Hx.out.cell 1 rfl
  have gy0 := Gy.out.cell 0 rfl
  have gy1 := Gy.out.cell 1 rfl
  have gy2 := Gy.out.cell 2 rfl
  have gy3 := Gy.out.cell 3 rfl
  have hy0 := Hy.out.cell 0 rfl
  have hy1 := Hy.out.cell 1 rfl
  go_wp2_with fail
  refine (KP.out).mono ?_
  rintro e' wb ⟨rfl, kb⟩
  have Kb := Lib.hid kb
  clear kb gx0 gx1 gx2 gx3 hx0 hx1 gy0 gy1 gy2 gy3 hy0 hy1
  go_wp2_with fail
  refine (SM.out _ Kb.out).mono ?_
  rintro e' wc ⟨rfl, rfl⟩
  go_wp2_with fail
  refine (AW.out _).mono ?_
  rintro e' wd ⟨rfl, kb⟩
  have Kd := Lib.hid ((Ta.out.1.trans Kb.out).trans kb)
  clear kb
  go_wp2_with fail
  go_ret
  exact ⟨rfl, Kd.out⟩
end Sm
end Go.Proofs.Ytagcpphkabkgjaa
