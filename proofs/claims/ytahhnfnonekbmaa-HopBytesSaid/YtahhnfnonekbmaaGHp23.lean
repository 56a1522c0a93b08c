/-
  What the law HopBytes answers: true, for all lists of hops and all bytes. Conditions: the numbers are ints; the bytes are bytes.
-/
import Derived.Test.YtahhnfnonekbmaaGHp22
import Derived.Test.YtahhnfnonekbmaaQJ
import Derived.Test.YtahhnfnonekbmaaGHp21
namespace Go.Proofs.Ytahhnfnonekbmaa
open Go.RowKit Go.Shelf
set_option linter.unusedVariables false
set_option linter.unusedSimpArgs false
namespace Hp
open Cd

theorem ints_kept {S : Nat → Prop} {k : IntKind} {w w' : World} {A : Option Addr} {n : Nat} {zs : List Int} (hi : Ints k w A n zs) (hk : Kk.Kep S w w') (hs : 0 < n → ∀ x, A = some x → ¬ S x.block) : Ints k w' A n zs := by
  rcases Nat.eq_zero_or_pos n with h0 | h0
  · exact ⟨hi.1, fun hn => absurd hn (by omega)⟩
  · exact hk.ints (hs h0) hi
theorem ints_lt {k : IntKind} {w : World} {A : Option Addr} {n : Nat} {zs : List Int} (hi : Ints k w A n zs) (hn : 0 < n) (x : Addr) (hx : A = some x) : x.block < w.heap.size := by
  obtain ⟨b', o', e, hlt, _⟩ := hi.cell (i := 0) hn
  rw [e] at hx; injection hx with hx; subst hx; exact hlt
theorem rs_lt {w : World} {A : Option Addr} {n c : Nat} {l : List R4} (hi : Rw.RS hR w A n c l) (hn : 0 < n) (x : Addr) (hx : A = some x) : x.block < w.heap.size := by
  obtain ⟨b, o, e, hlt, _⟩ := hi.row hn
  rw [e] at hx; injection hx with hx; subst hx; exact hlt
set_option maxRecDepth 100000 in
set_option maxHeartbeats 8000000 in
theorem bytesLaw (A : Option Addr) (n c : Nat) (l : List R4) (B : Option Addr) (m d : Nat) (raw : List Int) (w : World) (hi : Rw.RS hR w A n c l) (hs : Sl w B m d raw) (hb : Bytes raw) :
    Calls Try.prog 5 #[.slice A n c, .slice B m d] w fun e w' => e = .returned (.bool true) ∧ Bel w w' := by
  have HI := Lib.hid hi
  have HLN := Lib.hid hi.len
  have HS := Lib.hid hs
  have HBY := Lib.hid hb
  have HRL := Lib.hid (show raw.length = m from hs.ints.1)
  clear hi hs hb
  by_cases hlong : 60 < n
  · have AW := Lib.hid (awake w)
    have hlong3 : (60 : Int) < n := by omega
    go_enter Try.func5, Try.ntmps5
    go_wp2_with fail
    refine AW.out.mono ?_
    rintro e w1 ⟨rfl, kb⟩
    have KB := Lib.hid (show Bel w w1 from kb)
    clear kb AW
    go_wp2_with fail
    go_ret
    exact ⟨rfl, KB.out⟩
  have hlong3 : ¬ (60 : Int) < n := by omega
  by_cases hlm : 600 < m
  · have AW := Lib.hid (awake w)
    have hlm3 : (600 : Int) < m := by omega
    go_enter Try.func5, Try.ntmps5
    go_wp2_with fail
    refine AW.out.mono ?_
    rintro e w1 ⟨rfl, kb⟩
    have KB := Lib.hid (show Bel w w1 from kb)
    clear kb AW
    go_wp2_with fail
    go_ret
    exact ⟨rfl, KB.out⟩
  have hlm3 : ¬ (600 : Int) < m := by omega
  have HN := Lib.hid (show n ≤ 60 ∧ m ≤ 600 by omega)
  clear hlong hlm
  have CP := Lib.hid (copy A n c l w HI.out (by have := HN.out; omega))
  go_enter Try.func5, Try.ntmps5
  go_wp2_with fail
  refine CP.out.mono ?_
  rintro e w1 ⟨vc, rfl, hc, kb⟩
  obtain ⟨Ac, cc, rfl, hcr⟩ := hc.slice
  rw [HLN.out] at hcr ⊢
  have HC1 := Lib.hid hcr
  have K1 := Lib.hid (show Bel w w1 from kb)
  clear kb hc hcr CP
  have CB := Lib.hid (copyBytes B m d raw w1 (HS.out.bel K1.out) (by have := HN.out; omega))
  go_wp2_with fail
  refine CB.out.mono ?_
  rintro e w2 ⟨vr, rfl, hf⟩
  obtain ⟨Ar, cr_, rfl, hsl⟩ := hf.sl
  rw [HRL.out] at hsl ⊢
  have SR2 := Lib.hid hsl
  have K2 := Lib.hid (K1.out.trans hf.2)
  have HC2 := Lib.hid (HC1.out.bel hf.2)
  clear hf hsl CB HC1 K1
  obtain ⟨e0, he0⟩ : ∃ e, (chk l).1 = e := ⟨_, rfl⟩
  obtain ⟨ys, hys⟩ : ∃ ys, (if (chk l).1 = 0 then encL l else []) = ys := ⟨_, rfl⟩
  have BY := Lib.hid (bytesH Ac n cc l w2 HC2.out (by have := HN.out; omega))
  have BY2 := Lib.hid (fun V (hv : Bel w2 V) => bytesHR A n c l V (HI.out.bel (K2.out.trans hv)) (by have := HN.out; omega))
  rw [hys, he0] at BY BY2
  clear hys he0
  go_wp2_with fail
  refine BY.out.mono ?_
  rintro e w3 ⟨vx, rfl, hf⟩
  have X3 := Lib.hid hf.1
  have K3 := Lib.hid (show Bel w2 w3 from hf.2)
  clear hf BY
  go_wp2_with fail
  refine (BY2.out _ K3.out).mono ?_
  rintro e w4 ⟨vy, rfl, hf⟩
  have Y4 := Lib.hid hf.1
  have X4 := Lib.hid (Kk.owns_bel X3.out hf.2)
  have K4 := Lib.hid (K3.out.trans hf.2)
  clear hf BY2 X3 K3
  obtain ⟨M, k1, f1, L, k', f', e1, e2, rn, hM, hL, lk, he, hw4, hgood⟩ := raw_read HBY.out
  have HLL := Lib.hid (show L.length ≤ 4096 by omega)
  have RD := Lib.hid (readH Ar m cr_ raw M k1 f1 L k' f' e1 e2 w4 (SR2.out.bel K4.out) (by have := HN.out; omega) HBY.out rn hM hL lk he)
  have RD2 := Lib.hid (fun V (hv : Bel w4 V) => readR B m d raw M k1 f1 L k' f' e1 e2 V (HS.out.bel ((K2.out.trans K4.out).trans hv)) (by have := HN.out; omega) HBY.out rn hM hL lk he)
  obtain ⟨LP, hLP⟩ : ∃ x, (if e1 = 0 then L else []) = x := ⟨_, rfl⟩
  have HLP := Lib.hid (show LP.length ≤ 4096 from by
    rw [← hLP]
    split
    · exact HLL.out
    · simp)
  rw [hLP] at RD RD2
  clear rn hM hL lk he hw4 hgood hLP HLL
  go_wp2_with fail
  refine RD.out.mono ?_
  rintro e w5 ⟨vp, rfl, hp, kb⟩
  have P5 := Lib.hid hp
  have K5 := Lib.hid (show Bel w4 w5 from kb)
  clear hp kb RD
  have F0 := Blk.new w5 #[.int .i64 e1, .int .i64 e2] 48
  have FB := (Bel.refl w5).alloc (.cells #[.int .i64 e1, .int .i64 e2] 48)
  go_upto_region 7 with fail
  obtain ⟨w6, hw6⟩ : ∃ V, w5.alloc (.cells #[.int .i64 e1, .int .i64 e2] 48) = V := ⟨_, rfl⟩
  obtain ⟨g, hg⟩ : ∃ g, w5.heap.size = g := ⟨_, rfl⟩
  rw [hw6] at F0 FB ⊢
  rw [hg] at F0 ⊢
  have F6 := Lib.hid F0
  have K6 := Lib.hid (K5.out.trans FB)
  have P6 := Lib.hid (P5.out.bel FB)
  clear hw6 hg F0 FB K5 P5
  go_wp2_with fail
  refine (RD2.out _ K6.out).mono ?_
  rintro e w7 ⟨vq, rfl, hq, kb⟩
  have Q7 := Lib.hid hq
  have P7 := Lib.hid (P6.out.bel kb)
  have F7 := Lib.hid (F6.out.bel kb)
  have K7 := Lib.hid (K6.out.trans kb)
  clear hq kb RD2 P6 F6 K6
  have G0 := Blk.new w7 #[.int .i64 e1, .int .i64 e2] 48
  have FB := (Bel.refl w7).alloc (.cells #[.int .i64 e1, .int .i64 e2] 48)
  go_upto_region 8 with fail
  obtain ⟨w8, hw8⟩ : ∃ V, w7.alloc (.cells #[.int .i64 e1, .int .i64 e2] 48) = V := ⟨_, rfl⟩
  obtain ⟨g2, hg⟩ : ∃ g, w7.heap.size = g := ⟨_, rfl⟩
  rw [hw8] at G0 FB ⊢
  rw [hg] at G0 ⊢
  have G8 := Lib.hid G0
  have F8 := Lib.hid (F7.out.bel FB)
  have P8 := Lib.hid (P7.out.bel FB)
  have Q8 := Lib.hid (Q7.out.bel FB)
  have K8 := Lib.hid (K7.out.trans FB)
  clear hw8 hg G0 FB F7 P7 Q7 K7
  -- the comparisons
  have K28 := Lib.hid (K4.out.trans K8.out)
  obtain ⟨Ax, cx, rfl, hxs⟩ := sl_of_own (Kk.owns_bel X4.out K8.out)
  obtain ⟨Ay, cy, rfl, hys⟩ := sl_of_own (Kk.owns_bel Y4.out K8.out)
  have SM := Lib.hid (same Ax Ay ys.length cx ys.length cy ys w8 hxs.ints hys.ints)
  clear hxs hys
  obtain ⟨Ap, cp, rfl, hpr⟩ := P8.out.slice
  obtain ⟨Aq, cq, rfl, hqr⟩ := Q8.out.slice
  have TP := Lib.hid (told Ap Aq LP.length cp LP.length cq LP LP w8 hpr hqr (lay_own P8.out) (by have := HLP.out; omega) (by have := HLP.out; omega))
  rw [decide_eq_true (rfl : LP = LP)] at TP
  have HPA := Lib.hid (fun (i : Nat) (hk : 0 < LP.length ∧ ∃ x : Addr, Ap = some x ∧ x.block = i) => show w4.heap.size ≤ i from by
    obtain ⟨_, x, hx, rfl⟩ := hk
    subst hx
    exact Rw.own_ge P8.out rfl)
  clear hpr hqr
  have f0 := F8.out.cell 0 rfl
  have f1_ := F8.out.cell 1 rfl
  have g0 := G8.out.cell 0 rfl
  have g1 := G8.out.cell 1 rfl
  go_wp2_with fail
  refine SM.out.mono ?_
  rintro e w9 ⟨rfl, rfl⟩
  clear SM
  have EQ := Lib.hid (fun V => (Rw.eql_fault e1 e2 e1 e2 V).trans (by rw [decide_eq_true (rfl : (e1, e2) = (e1, e2))]))
  go_wp2_with (refine Rw.wpList_val (by rfl) (.bool true) (fun w => Rw.exec_eql rfl _ _ rfl rfl (by kernel_rfl) EQ.out w) ?_)
  refine TP.out.mono ?_
  rintro e w9 ⟨rfl, Wp_, kbw, ov⟩
  have KP := Lib.hid (show Kk.Kep (fun i => w4.heap.size ≤ i) w8 w9 from (Kk.Kep.of_bel kbw).trans (ov.kep.mono fun k _ hk => HPA.out k hk))
  have Z24 := Lib.hid (Below.size K4.out)
  have KF := Lib.hid (show Bel w w9 from Kk.Kep.bel (K2.out.trans K28.out) KP.out (fun i hi => Nat.le_trans (Nat.le_trans (Below.size K2.out) Z24.out) hi))
  have C9 := Lib.hid (show Rw.RS hR w9 Ac n cc l from (HC2.out.bel K28.out).kep2 KP.out (fun h0 x hx => by have := rs_lt HC2.out h0 x hx; have := Z24.out; omega))
  have I9 := Lib.hid (show Rw.RS hR w9 A n c l from (HI.out.bel (K2.out.trans K28.out)).kep2 KP.out (fun h0 x hx => by have := rs_lt HI.out h0 x hx; have := Z24.out; have := Below.size K2.out; omega))
  have R9 := Lib.hid (show Ints .u8 w9 Ar m raw from ints_kept (SR2.out.bel K28.out).ints KP.out (fun h0 x hx => by have := ints_lt SR2.out.ints h0 x hx; have := Z24.out; omega))
  have B9 := Lib.hid (show Ints .u8 w9 B m raw from ints_kept (HS.out.bel (K2.out.trans K28.out)).ints KP.out (fun h0 x hx => by have := ints_lt HS.out.ints h0 x hx; have := Z24.out; have := Below.size K2.out; omega))
  clear kbw ov TP f0 f1_ g0 g1 EQ
  have SH := Lib.hid (same_hops Ac A n cc n c l l w9 C9.out I9.out (by have := HN.out; omega) (by have := HN.out; omega))
  rw [decide_eq_true (rfl : l = l)] at SH
  go_wp2_with fail
  refine SH.out.mono ?_
  rintro e wa ⟨rfl, kb⟩
  have KA := Lib.hid (show Bel w9 wa from kb)
  clear kb SH
  have SB := Lib.hid (same Ar B m cr_ m d raw wa (ints_kept R9.out (S := fun _ => False) (Kk.Kep.of_bel KA.out) (fun _ _ _ => id)) (ints_kept B9.out (S := fun _ => False) (Kk.Kep.of_bel KA.out) (fun _ _ _ => id)))
  go_wp2_with fail
  refine SB.out.mono ?_
  rintro e wb ⟨rfl, rfl⟩
  clear SB
  go_wp2_with fail
  refine (awake _).mono ?_
  rintro e wb ⟨rfl, kb⟩
  have KZ := Lib.hid ((KF.out.trans KA.out).trans kb)
  clear kb
  go_wp2_with fail
  go_ret
  exact ⟨rfl, KZ.out⟩
theorem bytesW (A : Option Addr) (n c : Nat) (B : Option Addr) (m d : Nat) (raw : List Int) (w : World) (hn : n ≤ 9223372036854775807) (hi : Hops w A n c) (hm : m ≤ 9223372036854775807) (hs : Sl w B m d raw) (hb : Bytes raw) :
    Calls Try.prog 5 #[.slice A n c, .slice B m d] w fun e w' => e = .returned (.bool true) ∧ Bel w w' := by
  obtain ⟨l, hl, _⟩ := hops_rs hi
  exact bytesLaw A n c l B m d raw w hl hs hb
end Hp
end Go.Proofs.Ytahhnfnonekbmaa
