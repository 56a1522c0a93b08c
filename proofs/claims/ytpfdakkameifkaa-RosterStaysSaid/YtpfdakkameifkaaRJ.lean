/-
  Texts of this claim, put together: Ro23, Ro24, Ro25, Ro26. What each one says, and under which conditions, stands ahead of it.
-/
import Derived.Test.YtpfdakkameifkaaRI
import Derived.Test.YtpfdakkameifkaaRG
import Derived.Test.YtpfdakkameifkaaGKept

section
/-
  What the law RosterBytes answers: true, for all lists of validators and all bytes. Conditions: the numbers are ints and words; the bytes are bytes.
-/
namespace Go.Proofs.Ytpfdakkameifkaa
open Go.RowKit Go.Shelf
set_option linter.unusedVariables false
set_option linter.unusedSimpArgs false
namespace Ro
open Cd

theorem encL_eq (l : List V6) : encL l = enc (l.length : Int) ++ Rm.encs (l.flatMap nums) := by unfold encL; rw [Rm.encs_cons]
/-- A roster's own bytes, read. -/
theorem encL_read {l : List V6} (h : (chk l).1 = 0) (hw : ∀ r ∈ l, WV r) : RN (encL l) 0 none 0 32 ((l.length : Nat) : Int) (enc (l.length : Int)).length none ∧ Lk (encL l) [] l (enc (l.length : Int)).length none (encL l).length none := by
  have h32 := (chk_ok.1 h).1
  rw [encL_eq]
  constructor
  · have := Rm.rn_enc [] (Rm.encs (l.flatMap nums)) (l.length : Int) 0 32 (by omega) (by omega) (by omega) (by omega)
    simpa using this
  · have := lk_enc l [] (enc (l.length : Int)) [] h hw
    simpa using this
/-- What is read of any bytes; without a fault these are its own. -/
theorem raw_read {zs : List Int} (hb : Bytes zs) : ∃ (m k1 : Nat) (f1 : Option (Int × Int)) (L : List V6) (k' : Nat) (f' : Option (Int × Int)) (e1 e2 : Int), RN zs 0 none 0 32 (m : Int) k1 f1 ∧ m ≤ 32 ∧ L.length = m ∧ Lk zs [] L k1 f1 k' f' ∧ endOf zs.length k' f' = (e1, e2) ∧ (∀ r ∈ L, WV r) ∧ (e1 = 0 → (chk L).1 = 0 ∧ encL L = zs ∧ e2 = 0) := by
  obtain ⟨x, k1, f1, r1, q1, h1⟩ := Rm.rn_of zs hb 0 (Nat.zero_le _) 0 32
  obtain ⟨m, hm, hm2⟩ : ∃ m : Nat, x = (m : Int) ∧ m ≤ 32 := by
    rcases h1 with ⟨_, h2, h3, _⟩ | ⟨_, _, _, _, h2⟩
    · exact ⟨x.toNat, by omega, by omega⟩
    · exact ⟨0, h2, by decide⟩
  subst hm
  have hf1 : ∀ p, f1 = some p → p.1 ≠ 0 := fun p hp => by
    rcases h1 with ⟨h2, _⟩ | ⟨e, he, h2, _⟩
    · rw [h2] at hp; cases hp
    · rw [h2] at hp; injection hp with hp; rw [← hp]; exact he
  obtain ⟨L, k', f', h2, h3, h4, h5, h6, h7⟩ := lk_of zs hb m k1 f1 [] q1 hf1
  obtain ⟨⟨e1, e2⟩, he⟩ : ∃ e, endOf zs.length k' f' = e := ⟨_, rfl⟩
  refine ⟨m, k1, f1, L, k', f', e1, e2, r1, hm2, h3, h2, he, h5, fun h0 => ?_⟩
  obtain ⟨he2, hf, hk⟩ := end_e2 he h6 h0
  obtain ⟨hf1n, q2, q3⟩ := h7 hf
  refine ⟨?_, ?_, he2⟩
  · rcases q2 with q2 | q2
    · have : L = [] := List.length_eq_zero_iff.1 (by omega)
      subst this; rfl
    · simpa using q2
  · rcases h1 with ⟨_, _, _, t1⟩ | ⟨e, _, h8, _⟩
    · rw [encL_eq, h3]
      have e3 : zs.take k' = zs := List.take_of_length_le hk
      rw [e3, ← t1] at q3
      simpa using q3
    · rw [hf1n] at h8; cases h8
set_option maxRecDepth 100000 in
set_option maxHeartbeats 16000000 in
theorem bytesLaw (A : Option Addr) (n c : Nat) (l : List V6) (B : Option Addr) (m d : Nat) (raw : List Int) (w : World) (hi : Rw.RS vR w A n c l) (hw : ∀ r ∈ l, WV r) (hs : Sl w B m d raw) (hb : Bytes raw) :
    Calls Try.prog 5 #[.slice A n c, .slice B m d] w fun e w' => e = .returned (.bool true) ∧ Bel w w' := by
  have HI := Lib.hid hi
  have HW := Lib.hid hw
  have HLN := Lib.hid hi.len
  have HS := Lib.hid hs
  have HBY := Lib.hid hb
  have HRL := Lib.hid (show raw.length = m from hs.ints.1)
  clear hi hs hb hw
  by_cases hlong : 40 < n
  · have AW := Lib.hid (awake w)
    have hlong3 : (40 : Int) < n := by omega
    go_enter Try.func5, Try.ntmps5
    go_wp2_with fail
    refine AW.out.mono ?_
    rintro e w1 ⟨rfl, kb⟩
    have KB := Lib.hid (show Bel w w1 from kb)
    clear kb AW
    go_wp2_with fail
    go_ret
    exact ⟨rfl, KB.out⟩
  have hlong3 : ¬ (40 : Int) < n := by omega
  by_cases hlm : 600 < m
  · have AW := Lib.hid (awake w)
    have hlm3 : (600 : Int) < m := by omega
    go_enter Try.func5, Try.ntmps5
    go_wp2_with fail
    refine AW.out.mono ?_
    rintro e w1 ⟨rfl, kb⟩
    have KB := Lib.hid (show Bel w w1 from kb)
    clear kb AW
    go_wp2_with fail
    go_ret
    exact ⟨rfl, KB.out⟩
  have hlm3 : ¬ (600 : Int) < m := by omega
  have HN := Lib.hid (show n ≤ 40 ∧ m ≤ 600 by omega)
  clear hlong hlm
  obtain ⟨e0, he0⟩ : ∃ e, (chk l).1 = e := ⟨_, rfl⟩
  obtain ⟨ys, hys⟩ : ∃ ys, (if (chk l).1 = 0 then encL l else []) = ys := ⟨_, rfl⟩
  have HYL := Lib.hid (show ys.length ≤ 1000000 from by
    rw [← hys]
    split
    · rename_i h
      have h1 := encP_len (l.length : Int) l
      have h2 := (chk_ok.1 h).1
      show (encP (l.length : Int) l).length ≤ 1000000
      omega
    · simp)
  have BY := Lib.hid (show Calls Try.prog 38 #[.slice A n c] w fun e w' => ∃ v, e = .returned (.tuple #[v, .int .i64 e0]) ∧ Fresh w w' v ys from by rw [← hys, ← he0]; exact bytes_ A n c l w HI.out (by have := HN.out; omega) HW.out)
  have BY2 := Lib.hid (fun V (hv : Bel w V) => show Calls Try.prog 39 #[.slice A n c] V fun e w' => ∃ v, e = .returned (.tuple #[v, .int .i64 e0]) ∧ Fresh V w' v ys from by rw [← hys, ← he0]; exact bytesR A n c l V (HI.out.bel hv) (by have := HN.out; omega) HW.out)
  clear hys he0
  go_enter Try.func5, Try.ntmps5
  go_wp2_with fail
  refine BY.out.mono ?_
  rintro e w3 ⟨vx, rfl, hf⟩
  have X3 := Lib.hid hf.1
  have K3 := Lib.hid (show Bel w w3 from hf.2)
  clear hf BY
  go_wp2_with fail
  refine (BY2.out _ K3.out).mono ?_
  rintro e w4 ⟨vy, rfl, hf⟩
  have Y4 := Lib.hid hf.1
  have X4 := Lib.hid (Kk.owns_bel X3.out hf.2)
  have K4 := Lib.hid (K3.out.trans hf.2)
  clear hf BY2 X3 K3
  obtain ⟨Ax, cx, rfl, hxs⟩ := sl_of_own X4.out
  obtain ⟨Ay, cy, rfl, hys⟩ := sl_of_own Y4.out
  have SM := Lib.hid (same Ax Ay ys.length cx ys.length cy ys w4 hxs.ints hys.ints)
  have OV := Lib.hid (Kk.over_any w.heap.size ys.length (.slice Ax ys.length cx) ys w4 (by have := HYL.out; omega) X4.out)
  clear hxs hys Y4
  go_wp2_with fail
  refine SM.out.mono ?_
  rintro e w9 ⟨rfl, rfl⟩
  clear SM
  go_wp2_with fail
  refine OV.out.mono ?_
  rintro e w5 ⟨rfl, ko⟩
  have K5 := Lib.hid (show Bel w w5 from Kk.Kep.bel K4.out ko (fun k hk => (X4.out.lt k hk).1))
  clear ko OV X4 K4
  have LN := Lib.hid (lent B m d raw w5 (HS.out.bel K5.out) (by have := HN.out; omega))
  go_wp2_with fail
  refine LN.out.mono ?_
  rintro e w6 ⟨vl, rfl, hl, kb⟩
  have HL6 := Lib.hid hl
  have K6 := Lib.hid (K5.out.trans kb)
  clear hl kb LN K5
  obtain ⟨Al, cl, rfl, hls⟩ := sl_of_own HL6.out.own
  obtain ⟨M, k1, f1, L, k', f', e1, e2, rn, hM, hL, lk, he, hw4, hgood⟩ := raw_read HBY.out
  have HLL := Lib.hid (show L.length ≤ 32 by omega)
  have RD := Lib.hid (readV Al m cl raw M k1 f1 L k' f' e1 e2 w6 hls (by have := HN.out; omega) HBY.out rn hM hL lk hw4 he)
  have RD2 := Lib.hid (fun V (hv : Bel w6 V) => readR B m d raw M k1 f1 L k' f' e1 e2 V (HS.out.bel (K6.out.trans hv)) (by have := HN.out; omega) HBY.out rn hM hL lk he)
  obtain ⟨LP, hLP⟩ : ∃ x, (if e1 = 0 then L else []) = x := ⟨_, rfl⟩
  have HLP := Lib.hid (show LP.length ≤ 32 from by
    rw [← hLP]
    split
    · exact HLL.out
    · simp)
  rw [hLP] at RD RD2
  clear rn hM hL lk he hw4 hgood hLP HLL hls
  go_wp2_with fail
  refine RD.out.mono ?_
  rintro e w7 ⟨vp, rfl, hp, kb⟩
  have P7 := Lib.hid hp
  have K7 := Lib.hid (show Bel w6 w7 from kb)
  clear hp kb RD
  have F0 := Blk.new w7 #[.int .i64 e1, .int .i64 e2] 54
  have FB := (Bel.refl w7).alloc (.cells #[.int .i64 e1, .int .i64 e2] 54)
  go_upto_region 9 with fail
  obtain ⟨w8, hw8⟩ : ∃ V, w7.alloc (.cells #[.int .i64 e1, .int .i64 e2] 54) = V := ⟨_, rfl⟩
  obtain ⟨g, hg⟩ : ∃ g, w7.heap.size = g := ⟨_, rfl⟩
  rw [hw8] at F0 FB ⊢
  rw [hg] at F0 ⊢
  have F8 := Lib.hid F0
  have K8 := Lib.hid (K7.out.trans FB)
  have P8 := Lib.hid (P7.out.bel FB)
  clear hw8 hg F0 FB K7 P7
  go_wp2_with fail
  refine (RD2.out _ K8.out).mono ?_
  rintro e w9 ⟨vq, rfl, hq, kb⟩
  have Q9 := Lib.hid hq
  have P9 := Lib.hid (P8.out.bel kb)
  have F9 := Lib.hid (F8.out.bel kb)
  have K9 := Lib.hid (K8.out.trans kb)
  clear hq kb RD2 P8 F8 K8
  have G0 := Blk.new w9 #[.int .i64 e1, .int .i64 e2] 54
  have FB := (Bel.refl w9).alloc (.cells #[.int .i64 e1, .int .i64 e2] 54)
  go_upto_region 10 with fail
  obtain ⟨wa, hwa⟩ : ∃ V, w9.alloc (.cells #[.int .i64 e1, .int .i64 e2] 54) = V := ⟨_, rfl⟩
  obtain ⟨g2, hg⟩ : ∃ g, w9.heap.size = g := ⟨_, rfl⟩
  rw [hwa] at G0 FB ⊢
  rw [hg] at G0 ⊢
  have Ga := Lib.hid G0
  have Fa := Lib.hid (F9.out.bel FB)
  have Pa := Lib.hid (P9.out.bel FB)
  have Qa := Lib.hid (Q9.out.bel FB)
  have Ka := Lib.hid (K9.out.trans FB)
  clear hwa hg G0 FB F9 P9 Q9 K9
  obtain ⟨Ap, cp, rfl, hpr⟩ := Pa.out.slice
  obtain ⟨Aq, cq, rfl, hqr⟩ := Qa.out.slice
  have SV := Lib.hid (same_validators Ap Aq LP.length cp LP.length cq LP LP wa hpr hqr (by have := HLP.out; omega) (by have := HLP.out; omega))
  rw [decide_eq_true (rfl : LP = LP)] at SV
  clear hpr hqr
  go_wp2_with fail
  refine SV.out.mono ?_
  rintro e wb ⟨rfl, kb⟩
  have Gb := Lib.hid (Ga.out.bel kb)
  have Fb := Lib.hid (Fa.out.bel kb)
  have Pb := Lib.hid (Pa.out.bel kb)
  have Kb := Lib.hid (Ka.out.trans kb)
  clear kb SV Ga Fa Pa Ka
  have f0 := Fb.out.cell 0 rfl
  have f1_ := Fb.out.cell 1 rfl
  have g0 := Gb.out.cell 0 rfl
  have g1 := Gb.out.cell 1 rfl
  have EQ := Lib.hid (fun V => (Rw.eql_fault e1 e2 e1 e2 V).trans (by rw [decide_eq_true (rfl : (e1, e2) = (e1, e2))]))
  go_wp2_with (refine Rw.wpList_val (by rfl) (.bool true) (fun w => Rw.exec_eql rfl _ _ rfl rfl (by kernel_rfl) EQ.out w) ?_)
  have OVV := Lib.hid (over_any Ap LP.length cp wb (lay_own Pb.out) (by have := HLP.out; omega))
  refine OVV.out.mono ?_
  rintro e wc ⟨rfl, ko⟩
  have Kc := Lib.hid (show Bel w6 wc from ov_bel Pb.out Kb.out (Nat.le_refl _) ko)
  clear ko OVV f0 f1_ g0 g1 EQ
  have KP := Lib.hid (kept w5.heap.size (.slice Al m cl) B m d raw wc (HL6.out.bel Kc.out) (HS.out.bel (K6.out.trans Kc.out)).ints (by have := HN.out; omega))
  go_wp2_with fail
  refine KP.out.mono ?_
  rintro e wd ⟨rfl, kb⟩
  have Kd := Lib.hid ((K6.out.trans Kc.out).trans kb)
  clear kb KP
  go_wp2_with fail
  refine (awake _).mono ?_
  rintro e we ⟨rfl, kb⟩
  have KZ := Lib.hid (Kd.out.trans kb)
  clear kb
  go_wp2_with fail
  go_ret
  exact ⟨rfl, KZ.out⟩
theorem bytesLawW (A : Option Addr) (n c : Nat) (B : Option Addr) (m d : Nat) (raw : List Int) (w : World) (hn : n ≤ 9223372036854775807) (hi : Vals w A n c) (hm : m ≤ 9223372036854775807) (hs : Sl w B m d raw) (hb : Bytes raw) :
    Calls Try.prog 5 #[.slice A n c, .slice B m d] w fun e w' => e = .returned (.bool true) ∧ Bel w w' := by
  obtain ⟨l, hl, hw⟩ := vals_rs hi
  exact bytesLaw A n c l B m d raw w hl hw hs hb
end Ro
end Go.Proofs.Ytpfdakkameifkaa
end

section
/-
  What fault, unjails, jails and punishes of the law's package answer; how the chapter's bytes are read. Conditions: at most 10^6 bytes; the bytes are bytes.
-/
namespace Go.Proofs.Ytpfdakkameifkaa
open Go.RowKit Go.Shelf
set_option linter.unusedVariables false
set_option linter.unusedSimpArgs false
namespace Ro
open Cd

theorem sl_lit (w : World) (zs : List Int) : Sl (w.alloc (.cells (zs.map (Value.int .u8)).toArray 5)) (some ⟨w.heap.size, 0, none⟩) zs.length zs.length zs := by
  refine ⟨⟨rfl, fun hn => ⟨w.heap.size, 0, rfl, by simp, fun i hi => ?_⟩⟩, Nat.le_refl _, fun h => by cases h⟩
  rw [Nat.zero_add, World.cell?_alloc_new, List.getElem?_toArray, List.getElem?_map, List.getElem?_eq_getElem hi, Kk.getD_eq _ _ hi]
  rfl
theorem way_one {zs : List Int} {k : Nat} {z : Int} (hz : zs.getD k 0 = z) (hk : k < zs.length) (h0 : 0 ≤ z) (h1 : z < 128) : Cd.Way zs k z ((k + 1 : Nat) : Int) 0 0 := by
  refine .inr (.inr ⟨k, 0, rfl, by decide, hk, fun i hi => absurd hi (by omega), by rw [Nat.add_zero, hz]; exact h1, fun h => absurd h (by omega), fun h => absurd h (by omega), (Rm.val_one zs k hz h0 h1).symm, by push_cast; omega, rfl, rfl⟩)
theorem rn_ok {zs : List Int} {k : Nat} {z least most : Int} (hz : zs.getD k 0 = z) (hk : k < zs.length) (h0 : 0 ≤ z) (h1 : z < 128) (hl : least ≤ z) (hm : z ≤ most) : Cd.RN zs k none least most z (k + 1) none :=
  .inr ⟨rfl, ((k + 1 : Nat) : Int), 0, 0, ⟨z, _, 0, 0, way_one hz hk h0 h1, h0, by omega, .inr (.inr ⟨rfl, hl, hm, rfl, rfl, rfl, rfl⟩)⟩, .inl ⟨rfl, rfl, rfl⟩, by omega, fun h => absurd rfl h⟩
theorem rn_no {zs : List Int} {k : Nat} {z least most : Int} (hz : zs.getD k 0 = z) (hk : k < zs.length) (h0 : 0 ≤ z) (h1 : z < 128) (hb : z < least ∨ most < z) : Cd.RN zs k none least most 0 k (some (3, (k : Int))) :=
  .inr ⟨rfl, 0, 3, (k : Int), ⟨z, _, 0, 0, way_one hz hk h0 h1, h0, by omega, .inr (.inl ⟨rfl, hb, rfl, rfl, rfl, rfl⟩)⟩, .inr ⟨by decide, rfl, rfl⟩, by omega, fun _ => rfl⟩
set_option maxRecDepth 10000 in
set_option maxHeartbeats 1000000 in
theorem fault_ (A : Option Addr) (n c : Nat) (zs : List Int) (m k1 : Nat) (f1 : Option (Int × Int)) (L : List V6) (k' : Nat) (f' : Option (Int × Int)) (e1 e2 : Int) (w : World) (hs : Sl w A n c zs) (hn : n ≤ 1000000) (hb : Bytes zs)
    (hr : RN zs 0 none 0 32 (m : Int) k1 f1) (hm : m ≤ 32) (hl : L.length = m) (hk : Lk zs [] L k1 f1 k' f') (hw : ∀ r ∈ L, WV r) (he : endOf zs.length k' f' = (e1, e2)) :
    Calls Try.prog 47 #[.slice A n c] w fun r w' => r = .returned (.agg #[.int .i64 e1, .int .i64 e2]) ∧ Bel w w' := by
  have Q0 := Lib.hid (Blk.new w #[.int .i64 0, .int .i64 0] 54)
  obtain ⟨W, hW⟩ : ∃ W, w.alloc (.cells #[.int .i64 0, .int .i64 0] 54) = W := ⟨_, rfl⟩
  have BW := Lib.hid (show Bel w W by rw [← hW]; exact (Bel.refl w).alloc _)
  obtain ⟨q, hq⟩ : ∃ q, w.heap.size = q := ⟨_, rfl⟩
  rw [hW, hq] at Q0
  have RD_ := Lib.hid (readV A n c zs m k1 f1 L k' f' e1 e2 W (hs.bel BW.out) hn hb hr hm hl hk hw he)
  have HW := Lib.hid hW
  have HQ := Lib.hid hq
  clear hs hb hr hl hk he hW hq
  go_enter Try.func47, Try.ntmps47
  go_upto_region 1 with fail
  rw [HW.out, HQ.out]
  go_wp2_with fail
  refine RD_.out.mono ?_
  rintro e w1 ⟨v, rfl, _, kb⟩
  have K1 := Lib.hid (BW.out.trans kb)
  have Q1 := Lib.hid (Q0.out.bel kb)
  clear kb RD_
  go_upto_region 2 with fail
  have T0 := Blk.new w1 #[.int .i64 e1, .int .i64 e2] 54
  have TB := (Bel.refl w1).alloc (.cells #[.int .i64 e1, .int .i64 e2] 54)
  obtain ⟨W5, hW⟩ : ∃ W, w1.alloc (.cells #[.int .i64 e1, .int .i64 e2] 54) = W := ⟨_, rfl⟩
  obtain ⟨u, hu⟩ : ∃ u, w1.heap.size = u := ⟨_, rfl⟩
  rw [hW] at T0 TB ⊢
  rw [hu] at T0 ⊢
  have T5 := Lib.hid T0
  have Q5 := Lib.hid (Q1.out.bel TB)
  have K5 := Lib.hid (K1.out.trans TB)
  have LU := Lib.hid (show q < u by rw [← hu]; exact Q1.out.lt)
  clear hW hu T0 TB Q1 K1
  have hqu : q ≠ u := by have := LU.out; omega
  have t0 := T5.out.cell 0 rfl
  have t1 := T5.out.cell 1 rfl
  have q0 := Q5.out.cell 0 rfl
  have q1 := Q5.out.cell 1 rfl
  have fq0 := Q5.out.frozen 0
  have fq1 := Q5.out.frozen 1
  have HLQ := Lib.hid (show w.heap.size ≤ q by rw [HQ.out]; exact Nat.le_refl _)
  go_wp2_with fail
  have QF := ((Q5.out.set 0 (.int .i64 e1)).set 1 (.int .i64 e2))
  exact bodyPost_ret (Pm.res_c rfl _ _ ⟨q, 0, none⟩ _ rfl (load_flt QF)) rfl ⟨rfl, (K5.out.set HLQ.out _).set HLQ.out _⟩
theorem bytesC (l : List Int) (h : (l.all fun z => decide (0 ≤ z ∧ z ≤ 255)) = true) : Bytes l := fun i => by
  rw [List.getD_eq_getElem?_getD]
  rcases hl : l[i]? with _ | z
  · simp
  · have := of_decide_eq_true (List.all_eq_true.1 h z (List.mem_of_getElem? hl))
    simp
    omega
theorem ru_ok {zs : List Int} {k : Nat} {z : Int} (hz : zs.getD k 0 = z) (hk : k < zs.length) (h0 : 0 ≤ z) (h1 : z < 128) : Cd.RU zs k none z (k + 1) none :=
  .inr ⟨rfl, ((k + 1 : Nat) : Int), 0, 0, way_one hz hk h0 h1, .inl ⟨rfl, rfl, rfl⟩, by omega, fun h => absurd rfl h⟩
theorem lk_cons {zs : List Int} {pre l : List V6} {x : V6} {k k1 k' : Nat} {f f1 g f' : Option (Int × Int)} (h1 : Tv zs k f x k1 f1) (hf : failOf f1 (chk (pre ++ [x])).1 (atOf k f) = g) (h2 : Lk zs (pre ++ [x]) l k1 g k' f') : Lk zs pre (x :: l) k f k' f' :=
  ⟨k1, f1, h1, by rw [hf]; exact h2⟩
theorem ra : RN [1, 5, 1, 1, 0, 1] 0 none 0 32 ((1 : Nat) : Int) 1 none := rn_ok rfl (by decide) (by decide) (by decide) (by decide) (by decide)
theorem la : Lk [1, 5, 1, 1, 0, 1] [] [(5, 1, 1, 0, true, false)] 1 none 6 (some (11, 1)) :=
  lk_cons (g := some (11, 1)) (⟨5, 1, 1, 0, 1, 2, none, 3, none, 4, none, 5, none, by decide, by decide, rn_ok (z := 5) rfl (by decide) (by decide) (by decide) (by decide) (by decide), ru_ok (z := 1) rfl (by decide) (by decide) (by decide), rn_ok (z := 1) rfl (by decide) (by decide) (by decide) (by decide) (by decide), rn_ok (z := 0) rfl (by decide) (by decide) (by decide) (by decide) (by decide), rn_ok (z := 1) rfl (by decide) (by decide) (by decide) (by decide) (by decide)⟩ : Tv [1, 5, 1, 1, 0, 1] 1 none (5, 1, 1, 0, true, false) 6 none) (by decide) (⟨rfl, rfl⟩)
theorem rb : RN [1, 5, 0, 1, 0, 0] 0 none 0 32 ((1 : Nat) : Int) 1 none := rn_ok rfl (by decide) (by decide) (by decide) (by decide) (by decide)
theorem lb : Lk [1, 5, 0, 1, 0, 0] [] [(5, 0, 1, 0, false, false)] 1 none 6 (some (2, 1)) :=
  lk_cons (g := some (2, 1)) (⟨5, 0, 1, 0, 0, 2, none, 3, none, 4, none, 5, none, by decide, by decide, rn_ok (z := 5) rfl (by decide) (by decide) (by decide) (by decide) (by decide), ru_ok (z := 0) rfl (by decide) (by decide) (by decide), rn_ok (z := 1) rfl (by decide) (by decide) (by decide) (by decide) (by decide), rn_ok (z := 0) rfl (by decide) (by decide) (by decide) (by decide) (by decide), rn_ok (z := 0) rfl (by decide) (by decide) (by decide) (by decide) (by decide)⟩ : Tv [1, 5, 0, 1, 0, 0] 1 none (5, 0, 1, 0, false, false) 6 none) (by decide) (⟨rfl, rfl⟩)
theorem rc : RN [2, 5, 1, 1, 0, 0, 5, 1, 1, 0, 0] 0 none 0 32 ((2 : Nat) : Int) 1 none := rn_ok rfl (by decide) (by decide) (by decide) (by decide) (by decide)
theorem lc : Lk [2, 5, 1, 1, 0, 0, 5, 1, 1, 0, 0] [] [(5, 1, 1, 0, false, false), (5, 1, 1, 0, false, false)] 1 none 11 (some (8, 6)) :=
  lk_cons (g := none) (⟨5, 1, 1, 0, 0, 2, none, 3, none, 4, none, 5, none, by decide, by decide, rn_ok (z := 5) rfl (by decide) (by decide) (by decide) (by decide) (by decide), ru_ok (z := 1) rfl (by decide) (by decide) (by decide), rn_ok (z := 1) rfl (by decide) (by decide) (by decide) (by decide) (by decide), rn_ok (z := 0) rfl (by decide) (by decide) (by decide) (by decide) (by decide), rn_ok (z := 0) rfl (by decide) (by decide) (by decide) (by decide) (by decide)⟩ : Tv [2, 5, 1, 1, 0, 0, 5, 1, 1, 0, 0] 1 none (5, 1, 1, 0, false, false) 6 none) (by decide) (lk_cons (g := some (8, 6)) (⟨5, 1, 1, 0, 0, 7, none, 8, none, 9, none, 10, none, by decide, by decide, rn_ok (z := 5) rfl (by decide) (by decide) (by decide) (by decide) (by decide), ru_ok (z := 1) rfl (by decide) (by decide) (by decide), rn_ok (z := 1) rfl (by decide) (by decide) (by decide) (by decide) (by decide), rn_ok (z := 0) rfl (by decide) (by decide) (by decide) (by decide) (by decide), rn_ok (z := 0) rfl (by decide) (by decide) (by decide) (by decide) (by decide)⟩ : Tv [2, 5, 1, 1, 0, 0, 5, 1, 1, 0, 0] 6 none (5, 1, 1, 0, false, false) 11 none) (by decide) (⟨rfl, rfl⟩))
theorem rd : RN [33] 0 none 0 32 ((0 : Nat) : Int) 0 (some (3, 0)) := rn_no (z := 33) rfl (by decide) (by decide) (by decide) (.inr (by decide))
theorem ld : Lk [33] [] [] 0 (some (3, 0)) 0 (some (3, 0)) := ⟨rfl, rfl⟩
theorem wvs {l : List V6} (h : l.all (fun r => match r with | (a, b, c, d, _, _) => decide (-1000 ≤ a ∧ a ≤ 1000 ∧ 0 ≤ b ∧ b ≤ 1000 ∧ -1000 ≤ c ∧ c ≤ 1000 ∧ -1000 ≤ d ∧ d ≤ 1000)) = true) : ∀ r ∈ l, WV r := fun r hr => by
  have h1 := List.all_eq_true.1 h r hr
  obtain ⟨a, b, c, d, e, f⟩ := r
  have h2 := of_decide_eq_true h1
  refine ⟨?_, ?_, ?_, ?_⟩ <;> (try unfold I64) <;> omega
set_option maxHeartbeats 1000000 in
theorem unjails_c (A : Option Addr) (n c : Nat) (l : List V6) (v b h : Int) (w : World) (hi : Rw.RS vR w A n c l) (E : Int) (hE : cgE l v (unE b h) = E) (hn : n ≤ 1000000) (hO : ∀ r ∈ l, I64 (op r)) :
    Calls Try.prog 92 #[.slice A n c, .int .i64 v, .int .i64 b, .int .i64 h] w fun e w' => e = .returned (.int .i64 E) ∧ Bel w w' := by
  have CH := Lib.hid (unjail_c A n c l v b h w hi E _ hE rfl hn hO)
  clear hi hO hE
  go_enter Try.func92, Try.ntmps92
  go_wp2_with fail
  refine CH.out.mono ?_
  rintro x w1 ⟨y, rfl, _, kb⟩
  have KB := Lib.hid kb
  clear kb CH
  go_wp2_with fail
  go_ret
  exact ⟨rfl, KB.out⟩
set_option maxRecDepth 100000 in
set_option maxHeartbeats 8000000 in
theorem jails (w : World) : Calls Try.prog 48 #[] w fun e w' => e = .returned (.bool true) ∧ Bel w w' := by
  go_enter Try.func48, Try.ntmps48
  have K0 := Lib.hid (Bel.refl w)
  have C1 := Lib.hid (chapter w)
  go_wp2_with fail
  refine C1.out.mono ?_
  rintro x w1 ⟨v, rfl, ho, kb⟩
  have K1 := Lib.hid (K0.out.trans kb)
  clear C1
  have ho : OwnV w1 w.heap.size v [(5, 1, 1, 0, false, false), (3, 9, 1, 0, false, false)] := ho
  obtain ⟨Al, cl, rfl, hl⟩ := Rw.OwnR.slice ho
  have Hl := Lib.hid (show Rw.RS vR w1 Al 2 cl [(5, 1, 1, 0, false, false), (3, 9, 1, 0, false, false)] from hl)
  clear hl
  have C2 := Lib.hid (choose_c Al 2 cl [(5, 1, 1, 0, false, false), (3, 9, 1, 0, false, false)] (some ⟨w1.heap.size, 0, none⟩) 2 2 [true, false] (w1.alloc (.cells #[.bool true, .bool false] 4)) (Hl.out.bel ((Bel.refl _).alloc _)) (Rw.rs_blk bR (Blk.new w1 #[.bool true, .bool false] 4) (l := [true, false]) rfl (Nat.le_refl _) rfl) 0 [(5, 1, 2, 0, false, false), (3, 9, 1, 0, false, false)] (by decide) (by decide) (by decide) (i64s rfl) (by decide))
  go_wp2_with fail
  refine C2.out.mono ?_
  rintro x w2 ⟨v, rfl, ho, kb⟩
  have kb := (((Bel.refl w1).alloc (.cells #[.bool true, .bool false] 4))).trans kb
  have K2 := Lib.hid (K1.out.trans kb)
  have Hl := Lib.hid (Hl.out.bel kb)
  clear C2
  obtain ⟨Am, cm, rfl, hm⟩ := Rw.OwnR.slice ho
  have Hm := Lib.hid (show Rw.RS vR w2 Am 2 cm [(5, 1, 2, 0, false, false), (3, 9, 1, 0, false, false)] from hm)
  clear hm
  have C3 := Lib.hid (jail_c Am 2 cm [(5, 1, 2, 0, false, false), (3, 9, 1, 0, false, false)] 0 30 w2 Hm.out 0 [(5, 1, 3, 30, false, false), (3, 9, 1, 0, false, false)] (by decide) (by decide) (by decide) (i64s rfl))
  go_wp2_with fail
  refine C3.out.mono ?_
  rintro x w3 ⟨v, rfl, ho, kb⟩
  have K3 := Lib.hid (K2.out.trans kb)
  have Hl := Lib.hid (Hl.out.bel kb)
  have Hm := Lib.hid (Hm.out.bel kb)
  clear C3
  obtain ⟨Ak, ck, rfl, hk⟩ := Rw.OwnR.slice ho
  have Hk := Lib.hid (show Rw.RS vR w3 Ak 2 ck [(5, 1, 3, 30, false, false), (3, 9, 1, 0, false, false)] from hk)
  clear hk
  have C4 := Lib.hid (choose_c Al 2 cl [(5, 1, 1, 0, false, false), (3, 9, 1, 0, false, false)] (some ⟨w3.heap.size, 0, none⟩) 1 1 [true] (w3.alloc (.cells #[.bool true] 4)) (Hl.out.bel ((Bel.refl _).alloc _)) (Rw.rs_blk bR (Blk.new w3 #[.bool true] 4) (l := [true]) rfl (Nat.le_refl _) rfl) 2 [] (by decide) (by decide) (by decide) (i64s rfl) (by decide))
  go_wp2_with fail
  refine C4.out.mono ?_
  rintro x w4 ⟨v, rfl, ho, kb⟩
  have kb := (((Bel.refl w3).alloc (.cells #[.bool true] 4))).trans kb
  have K4 := Lib.hid (K3.out.trans kb)
  have Hl := Lib.hid (Hl.out.bel kb)
  have Hm := Lib.hid (Hm.out.bel kb)
  have Hk := Lib.hid (Hk.out.bel kb)
  clear C4
  clear ho
  have C5 := Lib.hid (unjail_c Ak 2 ck [(5, 1, 3, 30, false, false), (3, 9, 1, 0, false, false)] 0 5 30 w4 Hk.out 0 [(5, 1, 1, 30, false, false), (3, 9, 1, 0, false, false)] (by decide) (by decide) (by decide) (i64s rfl))
  go_wp2_with fail
  refine C5.out.mono ?_
  rintro x w5 ⟨v, rfl, ho, kb⟩
  have K5 := Lib.hid (K4.out.trans kb)
  have Hl := Lib.hid (Hl.out.bel kb)
  have Hm := Lib.hid (Hm.out.bel kb)
  have Hk := Lib.hid (Hk.out.bel kb)
  clear C5
  obtain ⟨An, cn, rfl, hn⟩ := Rw.OwnR.slice ho
  have Hn := Lib.hid (show Rw.RS vR w5 An 2 cn [(5, 1, 1, 30, false, false), (3, 9, 1, 0, false, false)] from hn)
  clear hn
  have C6 := Lib.hid (unjails_c Ak 2 ck [(5, 1, 3, 30, false, false), (3, 9, 1, 0, false, false)] 0 3 30 w5 Hk.out 24 (by decide) (by decide) (i64s rfl))
  go_wp2_with fail
  refine C6.out.mono ?_
  rintro x w6 ⟨rfl, kb⟩
  have K6 := Lib.hid (K5.out.trans kb)
  have Hl := Lib.hid (Hl.out.bel kb)
  have Hm := Lib.hid (Hm.out.bel kb)
  have Hk := Lib.hid (Hk.out.bel kb)
  have Hn := Lib.hid (Hn.out.bel kb)
  clear C6
  have C7 := Lib.hid (unjails_c Ak 2 ck [(5, 1, 3, 30, false, false), (3, 9, 1, 0, false, false)] 0 5 29 w6 Hk.out 21 (by decide) (by decide) (i64s rfl))
  go_wp2_with fail
  refine C7.out.mono ?_
  rintro x w7 ⟨rfl, kb⟩
  have K7 := Lib.hid (K6.out.trans kb)
  have Hl := Lib.hid (Hl.out.bel kb)
  have Hm := Lib.hid (Hm.out.bel kb)
  have Hk := Lib.hid (Hk.out.bel kb)
  have Hn := Lib.hid (Hn.out.bel kb)
  clear C7
  have C8 := Lib.hid (unjails_c Ak 2 ck [(5, 1, 3, 30, false, false), (3, 9, 1, 0, false, false)] 1 3 99 w7 Hk.out 11 (by decide) (by decide) (i64s rfl))
  go_wp2_with fail
  refine C8.out.mono ?_
  rintro x w8 ⟨rfl, kb⟩
  have K8 := Lib.hid (K7.out.trans kb)
  have Hl := Lib.hid (Hl.out.bel kb)
  have Hm := Lib.hid (Hm.out.bel kb)
  have Hk := Lib.hid (Hk.out.bel kb)
  have Hn := Lib.hid (Hn.out.bel kb)
  clear C8
  have C9 := Lib.hid (unjails_c Ak 2 ck [(5, 1, 3, 30, false, false), (3, 9, 1, 0, false, false)] 2 3 0 w8 Hk.out 10 (by decide) (by decide) (i64s rfl))
  go_wp2_with fail
  refine C9.out.mono ?_
  rintro x w9 ⟨rfl, kb⟩
  have K9 := Lib.hid (K8.out.trans kb)
  have Hl := Lib.hid (Hl.out.bel kb)
  have Hm := Lib.hid (Hm.out.bel kb)
  have Hk := Lib.hid (Hk.out.bel kb)
  have Hn := Lib.hid (Hn.out.bel kb)
  clear C9
  have C10 := Lib.hid ((show Calls Try.prog 20 #[.slice An 2 cn] w9 fun e w' => ∃ v, e = .returned v ∧ OwnB w' _ v [true, true] ∧ Bel w9 w' from free_ An 2 cn [(5, 1, 1, 30, false, false), (3, 9, 1, 0, false, false)] w9 Hn.out (by decide)))
  go_wp2_with fail
  refine C10.out.mono ?_
  rintro x w10 ⟨v, rfl, ho, kb⟩
  have K10 := Lib.hid (K9.out.trans kb)
  have Hl := Lib.hid (Hl.out.bel kb)
  have Hm := Lib.hid (Hm.out.bel kb)
  have Hk := Lib.hid (Hk.out.bel kb)
  have Hn := Lib.hid (Hn.out.bel kb)
  clear C10
  obtain ⟨Ab, cb, rfl, hb⟩ := Rw.OwnR.slice ho
  have Hb := Lib.hid (show Rw.RS bR w10 Ab 2 cb [true, true] from hb)
  clear hb
  have C11 := Lib.hid ((show Calls Try.prog 19 #[.slice Ab 2 cb, .slice (some ⟨w10.heap.size, 0, none⟩) 2 2] (w10.alloc (.cells #[.bool true, .bool true] 4)) fun e w' => e = .returned (.bool true) ∧ Bel (w10.alloc (.cells #[.bool true, .bool true] 4)) w' from same_bools Ab _ 2 cb 2 2 [true, true] [true, true] (w10.alloc (.cells #[.bool true, .bool true] 4)) (Hb.out.bel ((Bel.refl _).alloc _)) (Rw.rs_blk bR (Blk.new w10 #[.bool true, .bool true] 4) (l := [true, true]) rfl (Nat.le_refl _) rfl) (by decide) (by decide)))
  go_wp2_with fail
  refine C11.out.mono ?_
  rintro x w11 ⟨rfl, kb⟩
  have kb := (((Bel.refl w10).alloc (.cells #[.bool true, .bool true] 4))).trans kb
  have K11 := Lib.hid (K10.out.trans kb)
  have Hl := Lib.hid (Hl.out.bel kb)
  have Hm := Lib.hid (Hm.out.bel kb)
  have Hk := Lib.hid (Hk.out.bel kb)
  have Hn := Lib.hid (Hn.out.bel kb)
  have Hb := Lib.hid (Hb.out.bel kb)
  clear C11
  go_wp2_with fail
  go_ret
  exact ⟨rfl, K11.out⟩
set_option maxRecDepth 100000 in
set_option maxHeartbeats 8000000 in
theorem punishes (w : World) : Calls Try.prog 49 #[] w fun e w' => e = .returned (.bool true) ∧ Bel w w' := by
  go_enter Try.func49, Try.ntmps49
  have K0 := Lib.hid (Bel.refl w)
  have C1 := Lib.hid (chapter w)
  go_wp2_with fail
  refine C1.out.mono ?_
  rintro x w1 ⟨v, rfl, ho, kb⟩
  have K1 := Lib.hid (K0.out.trans kb)
  clear C1
  have ho : OwnV w1 w.heap.size v [(5, 1, 1, 0, false, false), (3, 9, 1, 0, false, false)] := ho
  obtain ⟨Al, cl, rfl, hl⟩ := Rw.OwnR.slice ho
  have Hl := Lib.hid (show Rw.RS vR w1 Al 2 cl [(5, 1, 1, 0, false, false), (3, 9, 1, 0, false, false)] from hl)
  clear hl
  have C2 := Lib.hid (punish_c Al 2 cl [(5, 1, 1, 0, false, false), (3, 9, 1, 0, false, false)] 1 2 30 w1 Hl.out 0 [(5, 1, 1, 0, false, false), (3, 9, 3, 30, false, true)] (by decide) (by decide) (by decide) (i64s rfl))
  go_wp2_with fail
  refine C2.out.mono ?_
  rintro x w2 ⟨v, rfl, ho, kb⟩
  have K2 := Lib.hid (K1.out.trans kb)
  have Hl := Lib.hid (Hl.out.bel kb)
  clear C2
  obtain ⟨Ap, cp, rfl, hp⟩ := Rw.OwnR.slice ho
  have Hp := Lib.hid (show Rw.RS vR w2 Ap 2 cp [(5, 1, 1, 0, false, false), (3, 9, 3, 30, false, true)] from hp)
  clear hp
  have C3 := Lib.hid ((show Calls Try.prog 36 #[.slice Ap 2 cp, .int .i64 1, .int .i64 2] w2 fun e w' => e = .returned (.int .i64 19) ∧ Bel w2 w' from punished Ap 2 cp [(5, 1, 1, 0, false, false), (3, 9, 3, 30, false, true)] 1 2 w2 Hp.out (by decide) (i64s rfl)))
  go_wp2_with fail
  refine C3.out.mono ?_
  rintro x w3 ⟨rfl, kb⟩
  have K3 := Lib.hid (K2.out.trans kb)
  have Hl := Lib.hid (Hl.out.bel kb)
  have Hp := Lib.hid (Hp.out.bel kb)
  clear C3
  have C4 := Lib.hid ((show Calls Try.prog 36 #[.slice Ap 2 cp, .int .i64 1, .int .i64 1] w3 fun e w' => e = .returned (.int .i64 0) ∧ Bel w3 w' from punished Ap 2 cp [(5, 1, 1, 0, false, false), (3, 9, 3, 30, false, true)] 1 1 w3 Hp.out (by decide) (i64s rfl)))
  go_wp2_with fail
  refine C4.out.mono ?_
  rintro x w4 ⟨rfl, kb⟩
  have K4 := Lib.hid (K3.out.trans kb)
  have Hl := Lib.hid (Hl.out.bel kb)
  have Hp := Lib.hid (Hp.out.bel kb)
  clear C4
  have C5 := Lib.hid ((show Calls Try.prog 36 #[.slice Ap 2 cp, .int .i64 1, .int .i64 3] w4 fun e w' => e = .returned (.int .i64 2) ∧ Bel w4 w' from punished Ap 2 cp [(5, 1, 1, 0, false, false), (3, 9, 3, 30, false, true)] 1 3 w4 Hp.out (by decide) (i64s rfl)))
  go_wp2_with fail
  refine C5.out.mono ?_
  rintro x w5 ⟨rfl, kb⟩
  have K5 := Lib.hid (K4.out.trans kb)
  have Hl := Lib.hid (Hl.out.bel kb)
  have Hp := Lib.hid (Hp.out.bel kb)
  clear C5
  have C6 := Lib.hid (punish_c Ap 2 cp [(5, 1, 1, 0, false, false), (3, 9, 3, 30, false, true)] 1 1 20 w5 Hp.out 0 [(5, 1, 1, 0, false, false), (3, 9, 4, 30, true, true)] (by decide) (by decide) (by decide) (i64s rfl))
  go_wp2_with fail
  refine C6.out.mono ?_
  rintro x w6 ⟨v, rfl, ho, kb⟩
  have K6 := Lib.hid (K5.out.trans kb)
  have Hl := Lib.hid (Hl.out.bel kb)
  have Hp := Lib.hid (Hp.out.bel kb)
  clear C6
  obtain ⟨Aq, cq, rfl, hq⟩ := Rw.OwnR.slice ho
  have Hq := Lib.hid (show Rw.RS vR w6 Aq 2 cq [(5, 1, 1, 0, false, false), (3, 9, 4, 30, true, true)] from hq)
  clear hq
  obtain ⟨bq, oq, hAq, _, hcq⟩ := Hq.out.at (i := 1) (by decide) rfl
  subst hAq
  have hcq : World.rangeAt w6 bq (oq + 6) [.int .i64 3, .int .u64 9, .int .i64 4, .int .i64 30, .bool true, .bool true] := hcq
  obtain ⟨q0, q1, q2, q3, q4, q5⟩ := rng6 hcq
  clear q0 q1 q4 q5 hcq
  have C7 := Lib.hid ((show Calls Try.prog 24 #[.slice (some ⟨bq, oq, none⟩) 2 cq, .int .i64 1] w6 fun e w' => e = .returned (.int .i64 20) ∧ Bel w6 w' from refuse (some ⟨bq, oq, none⟩) 2 cq [(5, 1, 1, 0, false, false), (3, 9, 4, 30, true, true)] 1 w6 Hq.out (by decide)))
  go_wp2_with fail
  refine C7.out.mono ?_
  rintro x w7 ⟨rfl, kb⟩
  have K7 := Lib.hid (K6.out.trans kb)
  have Hl := Lib.hid (Hl.out.bel kb)
  have Hp := Lib.hid (Hp.out.bel kb)
  have Hq := Lib.hid (Hq.out.bel kb)
  clear C7
  have C8 := Lib.hid (unjails_c (some ⟨bq, oq, none⟩) 2 cq [(5, 1, 1, 0, false, false), (3, 9, 4, 30, true, true)] 1 3 99 w7 Hq.out 20 (by decide) (by decide) (i64s rfl))
  go_wp2_with fail
  refine C8.out.mono ?_
  rintro x w8 ⟨rfl, kb⟩
  have K8 := Lib.hid (K7.out.trans kb)
  have Hl := Lib.hid (Hl.out.bel kb)
  have Hp := Lib.hid (Hp.out.bel kb)
  have Hq := Lib.hid (Hq.out.bel kb)
  clear C8
  have C9 := Lib.hid ((show Calls Try.prog 36 #[.slice (some ⟨bq, oq, none⟩) 2 cq, .int .i64 1, .int .i64 2] w8 fun e w' => e = .returned (.int .i64 20) ∧ Bel w8 w' from punished (some ⟨bq, oq, none⟩) 2 cq [(5, 1, 1, 0, false, false), (3, 9, 4, 30, true, true)] 1 2 w8 Hq.out (by decide) (i64s rfl)))
  go_wp2_with fail
  refine C9.out.mono ?_
  rintro x w9 ⟨rfl, kb⟩
  have K9 := Lib.hid (K8.out.trans kb)
  have Hl := Lib.hid (Hl.out.bel kb)
  have Hp := Lib.hid (Hp.out.bel kb)
  have Hq := Lib.hid (Hq.out.bel kb)
  clear C9
  go_wp2_with fail
  go_ret
  exact ⟨rfl, K9.out⟩
end Ro
end Go.Proofs.Ytpfdakkameifkaa
end

section
/-
  What the law RosterKnown answers: true. No condition.
-/
namespace Go.Proofs.Ytpfdakkameifkaa
open Go.RowKit Go.Shelf
set_option linter.unusedVariables false
set_option linter.unusedSimpArgs false
namespace Ro
open Cd

set_option maxRecDepth 100000 in
set_option maxHeartbeats 8000000 in
theorem known (w : World) : Calls Try.prog 6 #[] w fun e w' => e = .returned (.bool true) ∧ Bel w w' := by
  go_enter Try.func6, Try.ntmps6
  have K0 := Lib.hid (Bel.refl w)
  have C1 := Lib.hid (chapter w)
  go_wp2_with fail
  refine C1.out.mono ?_
  rintro x w1 ⟨v, rfl, ho, kb⟩
  have K1 := Lib.hid (K0.out.trans kb)
  clear C1
  have ho : OwnV w1 w.heap.size v [(5, 1, 1, 0, false, false), (3, 9, 1, 0, false, false)] := ho
  obtain ⟨Al, cl, rfl, hl⟩ := Rw.OwnR.slice ho
  have Hl := Lib.hid (show Rw.RS vR w1 Al 2 cl [(5, 1, 1, 0, false, false), (3, 9, 1, 0, false, false)] from hl)
  clear hl
  have C2 := Lib.hid (create_c none 0 0 [] 64 1 w1 (Rw.RS.nil_ (K := vR)) 3 0 [] (by decide) (by decide) (by decide) (by decide) (i64s rfl) (by unfold I64; omega))
  go_wp2_with fail
  refine C2.out.mono ?_
  rintro x w2 ⟨v, rfl, ho, kb⟩
  have K2 := Lib.hid (K1.out.trans kb)
  have Hl := Lib.hid (Hl.out.bel kb)
  clear C2
  clear ho
  have C3 := Lib.hid (create_c none 0 0 [] 5 0 w2 (Rw.RS.nil_ (K := vR)) 2 0 [] (by decide) (by decide) (by decide) (by decide) (i64s rfl) (by unfold I64; omega))
  go_wp2_with fail
  refine C3.out.mono ?_
  rintro x w3 ⟨v, rfl, ho, kb⟩
  have K3 := Lib.hid (K2.out.trans kb)
  have Hl := Lib.hid (Hl.out.bel kb)
  clear C3
  clear ho
  have C4 := Lib.hid (create_c Al 2 cl [(5, 1, 1, 0, false, false), (3, 9, 1, 0, false, false)] 3 1 w3 Hl.out 8 0 [] (by decide) (by decide) (by decide) (by decide) (i64s rfl) (by unfold I64; omega))
  go_wp2_with fail
  refine C4.out.mono ?_
  rintro x w4 ⟨v, rfl, ho, kb⟩
  have K4 := Lib.hid (K3.out.trans kb)
  have Hl := Lib.hid (Hl.out.bel kb)
  clear C4
  clear ho
  have C5 := Lib.hid ((show Calls Try.prog 17 #[.slice Al 2 cl, .int .i64 4] w4 fun e w' => e = .returned (.tuple #[.int .i64 0, .bool false]) ∧ Bel w4 w' from find Al 2 cl [(5, 1, 1, 0, false, false), (3, 9, 1, 0, false, false)] 4 w4 Hl.out (by decide) (i64s rfl) (by unfold I64; omega)))
  go_wp2_with fail
  refine C5.out.mono ?_
  rintro x w5 ⟨rfl, kb⟩
  have K5 := Lib.hid (K4.out.trans kb)
  have Hl := Lib.hid (Hl.out.bel kb)
  clear C5
  have C6 := Lib.hid (show Calls Try.prog 38 #[.slice Al 2 cl] w5 fun e w' => ∃ v, e = .returned (.tuple #[v, .int .i64 0]) ∧ Fresh w5 w' v [2, 5, 1, 1, 0, 0, 3, 9, 1, 0, 0] from bytes_ Al 2 cl [(5, 1, 1, 0, false, false), (3, 9, 1, 0, false, false)] w5 Hl.out (by decide) (wvs rfl))
  go_wp2_with fail
  refine C6.out.mono ?_
  rintro x w6 ⟨v, rfl, hf⟩
  have kb : Bel w5 w6 := hf.2
  have K6 := Lib.hid (K5.out.trans kb)
  have Hl := Lib.hid (Hl.out.bel kb)
  obtain ⟨Ay, cy, rfl, hys⟩ := sl_of_own hf.1
  have Hy := Lib.hid (show Sl w6 Ay 11 cy [2, 5, 1, 1, 0, 0, 3, 9, 1, 0, 0] from hys)
  clear hf hys C6
  have SM := Lib.hid (same Ay (some ⟨w6.heap.size, 0, none⟩) 11 cy 11 11 [2, 5, 1, 1, 0, 0, 3, 9, 1, 0, 0] (w6.alloc (.cells #[.int .u8 2, .int .u8 5, .int .u8 1, .int .u8 1, .int .u8 0, .int .u8 0, .int .u8 3, .int .u8 9, .int .u8 1, .int .u8 0, .int .u8 0] 5)) (Hy.out.bel ((Bel.refl _).alloc _)).ints (sl_lit w6 [2, 5, 1, 1, 0, 0, 3, 9, 1, 0, 0]).ints)
  go_wp2_with fail
  refine SM.out.mono ?_
  rintro x wz ⟨rfl, rfl⟩
  obtain ⟨ws, hws⟩ : ∃ W, (w6.alloc (.cells #[.int .u8 2, .int .u8 5, .int .u8 1, .int .u8 1, .int .u8 0, .int .u8 0, .int .u8 3, .int .u8 9, .int .u8 1, .int .u8 0, .int .u8 0] 5)) = W := ⟨_, rfl⟩
  have kb : Bel w6 ws := by rw [← hws]; exact (Bel.refl _).alloc _
  rw [hws]
  clear hws SM
  have K7 := Lib.hid (K6.out.trans kb)
  have Hl := Lib.hid (Hl.out.bel kb)
  have Hy := Lib.hid (Hy.out.bel kb)
  have EQa := Lib.hid (fun V => (Rw.eql_fault 11 1 11 1 V).trans (by rw [decide_eq_true (rfl : ((11 : Int), (1 : Int)) = (11, 1))]))
  have RDa := Lib.hid (fault_ (some ⟨ws.heap.size, 0, none⟩) 6 6 [1, 5, 1, 1, 0, 1] 1 1 none [(5, 1, 1, 0, true, false)] 6 (some (11, 1)) 11 1 (ws.alloc (.cells #[.int .u8 1, .int .u8 5, .int .u8 1, .int .u8 1, .int .u8 0, .int .u8 1] 5)) (sl_lit ws [1, 5, 1, 1, 0, 1]) (by decide) (bytesC _ (by decide)) ra (by decide) rfl la (wvs rfl) rfl)
  go_wp2_with (fail)
  refine RDa.out.mono ?_
  rintro x w8 ⟨rfl, kb⟩
  have kb := ((Bel.refl ws).alloc (.cells #[.int .u8 1, .int .u8 5, .int .u8 1, .int .u8 1, .int .u8 0, .int .u8 1] 5)).trans kb
  have K8 := Lib.hid (K7.out.trans kb)
  have Hl := Lib.hid (Hl.out.bel kb)
  have Hy := Lib.hid (Hy.out.bel kb)
  clear RDa
  have EQb := Lib.hid (fun V => (Rw.eql_fault 2 1 2 1 V).trans (by rw [decide_eq_true (rfl : ((2 : Int), (1 : Int)) = (2, 1))]))
  have RDb := Lib.hid (fault_ (some ⟨w8.heap.size, 0, none⟩) 6 6 [1, 5, 0, 1, 0, 0] 1 1 none [(5, 0, 1, 0, false, false)] 6 (some (2, 1)) 2 1 (w8.alloc (.cells #[.int .u8 1, .int .u8 5, .int .u8 0, .int .u8 1, .int .u8 0, .int .u8 0] 5)) (sl_lit w8 [1, 5, 0, 1, 0, 0]) (by decide) (bytesC _ (by decide)) rb (by decide) rfl lb (wvs rfl) rfl)
  go_wp2_with (refine Rw.wpList_val rfl (.bool true) (fun w => Rw.exec_eql rfl _ _ rfl rfl (by kernel_rfl) EQa.out w) ?_)
  refine RDb.out.mono ?_
  rintro x w9 ⟨rfl, kb⟩
  have kb := ((Bel.refl w8).alloc (.cells #[.int .u8 1, .int .u8 5, .int .u8 0, .int .u8 1, .int .u8 0, .int .u8 0] 5)).trans kb
  have K9 := Lib.hid (K8.out.trans kb)
  have Hl := Lib.hid (Hl.out.bel kb)
  have Hy := Lib.hid (Hy.out.bel kb)
  clear RDb
  have EQc := Lib.hid (fun V => (Rw.eql_fault 8 6 8 6 V).trans (by rw [decide_eq_true (rfl : ((8 : Int), (6 : Int)) = (8, 6))]))
  have RDc := Lib.hid (fault_ (some ⟨w9.heap.size, 0, none⟩) 11 11 [2, 5, 1, 1, 0, 0, 5, 1, 1, 0, 0] 2 1 none [(5, 1, 1, 0, false, false), (5, 1, 1, 0, false, false)] 11 (some (8, 6)) 8 6 (w9.alloc (.cells #[.int .u8 2, .int .u8 5, .int .u8 1, .int .u8 1, .int .u8 0, .int .u8 0, .int .u8 5, .int .u8 1, .int .u8 1, .int .u8 0, .int .u8 0] 5)) (sl_lit w9 [2, 5, 1, 1, 0, 0, 5, 1, 1, 0, 0]) (by decide) (bytesC _ (by decide)) rc (by decide) rfl lc (wvs rfl) rfl)
  go_wp2_with (refine Rw.wpList_val rfl (.bool true) (fun w => Rw.exec_eql rfl _ _ rfl rfl (by kernel_rfl) EQb.out w) ?_)
  refine RDc.out.mono ?_
  rintro x w10 ⟨rfl, kb⟩
  have kb := ((Bel.refl w9).alloc (.cells #[.int .u8 2, .int .u8 5, .int .u8 1, .int .u8 1, .int .u8 0, .int .u8 0, .int .u8 5, .int .u8 1, .int .u8 1, .int .u8 0, .int .u8 0] 5)).trans kb
  have K10 := Lib.hid (K9.out.trans kb)
  have Hl := Lib.hid (Hl.out.bel kb)
  have Hy := Lib.hid (Hy.out.bel kb)
  clear RDc
  have EQd := Lib.hid (fun V => (Rw.eql_fault 3 0 3 0 V).trans (by rw [decide_eq_true (rfl : ((3 : Int), (0 : Int)) = (3, 0))]))
  have RDd := Lib.hid (fault_ (some ⟨w10.heap.size, 0, none⟩) 1 1 [33] 0 0 (some (3, 0)) [] 0 (some (3, 0)) 3 0 (w10.alloc (.cells #[.int .u8 33] 5)) (sl_lit w10 [33]) (by decide) (bytesC _ (by decide)) rd (by decide) rfl ld (wvs rfl) rfl)
  go_wp2_with (refine Rw.wpList_val rfl (.bool true) (fun w => Rw.exec_eql rfl _ _ rfl rfl (by kernel_rfl) EQc.out w) ?_)
  refine RDd.out.mono ?_
  rintro x w11 ⟨rfl, kb⟩
  have kb := ((Bel.refl w10).alloc (.cells #[.int .u8 33] 5)).trans kb
  have K11 := Lib.hid (K10.out.trans kb)
  have Hl := Lib.hid (Hl.out.bel kb)
  have Hy := Lib.hid (Hy.out.bel kb)
  clear RDd
  have C12 := Lib.hid (awake w11)
  go_wp2_with (refine Rw.wpList_val rfl (.bool true) (fun w => Rw.exec_eql rfl _ _ rfl rfl (by kernel_rfl) EQd.out w) ?_)
  refine C12.out.mono ?_
  rintro x w12 ⟨rfl, kb⟩
  have K12 := Lib.hid (K11.out.trans kb)
  have Hl := Lib.hid (Hl.out.bel kb)
  have Hy := Lib.hid (Hy.out.bel kb)
  have C13 := Lib.hid (jails w12)
  go_wp2_with fail
  refine C13.out.mono ?_
  rintro x w13 ⟨rfl, kb⟩
  have K13 := Lib.hid (K12.out.trans kb)
  have Hl := Lib.hid (Hl.out.bel kb)
  have Hy := Lib.hid (Hy.out.bel kb)
  clear C13
  have C14 := Lib.hid (punishes w13)
  go_wp2_with fail
  refine C14.out.mono ?_
  rintro x w14 ⟨rfl, kb⟩
  have K14 := Lib.hid (K13.out.trans kb)
  have Hl := Lib.hid (Hl.out.bel kb)
  have Hy := Lib.hid (Hy.out.bel kb)
  clear C14
  go_wp2_with fail
  go_ret
  exact ⟨rfl, K14.out⟩
end Ro
end Go.Proofs.Ytpfdakkameifkaa
end

section
/-
  What the law RosterBack answers: true, for all lists of validators and all bytes. Conditions: the numbers are ints and words; the bytes are bytes.
-/
namespace Go.Proofs.Ytpfdakkameifkaa
open Go.RowKit Go.Shelf
set_option linter.unusedVariables false
set_option linter.unusedSimpArgs false
namespace Ro
open Cd

theorem encs_byte (l : List Int) (h : ∀ x ∈ l, 0 ≤ x ∧ x ≤ 18446744073709551615) : ∀ z ∈ Rm.encs l, 0 ≤ z ∧ z ≤ 255 := by
  intro z hz
  unfold Rm.encs at hz
  rw [List.mem_flatten] at hz
  obtain ⟨y, hy, hzy⟩ := hz
  obtain ⟨x, hx, rfl⟩ := List.mem_map.1 hy
  have := h x hx
  exact encN_byte 9 x this.1 (by rw [top9]; omega) z hzy
theorem nums_bound {l : List V6} (h : (chk l).1 = 0) (hw : ∀ r ∈ l, WV r) : ∀ x ∈ ((l.length : Int) :: l.flatMap nums), 0 ≤ x ∧ x ≤ 18446744073709551615 := by
  intro x hx
  rcases List.mem_cons.1 hx with rfl | hx
  · have := (chk_ok.1 h).1; omega
  · obtain ⟨r, hr, hxr⟩ := List.mem_flatMap.1 hx
    obtain ⟨k, hk⟩ := List.getElem?_of_mem hr
    have hg := gd_at h hk
    have hv := hw r hr
    obtain ⟨a, b, c, d, e, f⟩ := r
    obtain ⟨_, ⟨v1, v2⟩, _, _⟩ := hv
    obtain ⟨o0, o1, _, s0, s1, u0, u1, _⟩ := hg
    have := fl_le e f
    simp [nums] at hxr
    rcases hxr with rfl | rfl | rfl | rfl | rfl <;> omega
theorem encL_bytes {l : List V6} (h : (chk l).1 = 0) (hw : ∀ r ∈ l, WV r) : Bytes (encL l) := bytes_of (encs_byte _ (nums_bound h hw))
theorem own_nil_len {w : World} {base : Nat} {v : Value} (h : OwnV w base v []) : ∃ A c, v = .slice A 0 c := by
  obtain ⟨A, c, e, _⟩ := h.slice
  exact ⟨A, c, e⟩
set_option maxRecDepth 100000 in
set_option maxHeartbeats 16000000 in
theorem backLaw (A : Option Addr) (n c : Nat) (l : List V6) (B : Option Addr) (m d : Nat) (raw : List Int) (w : World) (hi : Rw.RS vR w A n c l) (hw : ∀ r ∈ l, WV r) (hs : Sl w B m d raw) (hb : Bytes raw) :
    Calls Try.prog 8 #[.slice A n c, .slice B m d] w fun e w' => e = .returned (.bool true) ∧ Bel w w' := by
  have HI := Lib.hid hi
  have HW := Lib.hid hw
  have HLN := Lib.hid hi.len
  have HS := Lib.hid hs
  have HBY := Lib.hid hb
  have HRL := Lib.hid (show raw.length = m from hs.ints.1)
  have KN := Lib.hid (known w)
  clear hi hs hb hw
  by_cases hlong : 40 < n
  · have hlong3 : (40 : Int) < n := by omega
    go_enter Try.func8, Try.ntmps8
    go_wp2_with fail
    refine KN.out.mono ?_
    rintro e w1 ⟨rfl, kb⟩
    have KB := Lib.hid (show Bel w w1 from kb)
    clear kb
    go_wp2_with fail
    go_ret
    exact ⟨rfl, KB.out⟩
  have hlong3 : ¬ (40 : Int) < n := by omega
  by_cases hlm : 600 < m
  · have hlm3 : (600 : Int) < m := by omega
    go_enter Try.func8, Try.ntmps8
    go_wp2_with fail
    refine KN.out.mono ?_
    rintro e w1 ⟨rfl, kb⟩
    have KB := Lib.hid (show Bel w w1 from kb)
    clear kb
    go_wp2_with fail
    go_ret
    exact ⟨rfl, KB.out⟩
  have hlm3 : ¬ (600 : Int) < m := by omega
  have HN := Lib.hid (show n ≤ 40 ∧ m ≤ 600 by omega)
  clear hlong hlm
  go_enter Try.func8, Try.ntmps8
  go_wp2_with fail
  refine KN.out.mono ?_
  rintro e w1 ⟨rfl, kb⟩
  have K1 := Lib.hid (show Bel w w1 from kb)
  clear kb KN
  obtain ⟨e0, he0⟩ : ∃ e, (chk l).1 = e := ⟨_, rfl⟩
  obtain ⟨e9, he9⟩ : ∃ e, (chk l).2 = e := ⟨_, rfl⟩
  obtain ⟨ys, hys⟩ : ∃ ys, (if (chk l).1 = 0 then encL l else []) = ys := ⟨_, rfl⟩
  have HE0 := Lib.hid he0
  have HYS := Lib.hid hys
  have CK := Lib.hid (show Calls Try.prog 15 #[.slice A n c] w1 fun e w' => e = .returned (.tuple #[.int .i64 e0, .int .i64 e9]) ∧ Bel w1 w' from by rw [← he0, ← he9]; exact check A n c l w1 (HI.out.bel K1.out) (by have := HN.out; omega) (fun r hr => (HW.out r hr).i))
  have BY := Lib.hid (fun V (hv : Bel w V) => show Calls Try.prog 38 #[.slice A n c] V fun e w' => ∃ v, e = .returned (.tuple #[v, .int .i64 e0]) ∧ Fresh V w' v ys from by rw [← hys, ← he0]; exact bytes_ A n c l V (HI.out.bel hv) (by have := HN.out; omega) HW.out)
  clear hys he0 he9
  go_wp2_with fail
  refine CK.out.mono ?_
  rintro e w2 ⟨rfl, kb⟩
  have K2 := Lib.hid (K1.out.trans kb)
  clear kb CK K1
  have BY := Lib.hid (BY.out w2 K2.out)
  go_wp2_with fail
  refine BY.out.mono ?_
  rintro e w3 ⟨v3, rfl, hf⟩
  have X3 := Lib.hid hf.1
  have K3 := Lib.hid (K2.out.trans hf.2)
  clear hf BY K2
  -- behind the roster's own bytes
  have REST : ∀ wr, Bel w wr → ∃ M k1 f1 L k' f' e1 e2, Calls Try.prog 43 #[.slice B m d] wr (fun r w' => ∃ v, r = .returned (.tuple #[v, .agg #[.int .i64 e1, .int .i64 e2]]) ∧ OwnV w' wr.heap.size v (if e1 = 0 then L else []) ∧ Bel wr w') ∧ RN raw 0 none 0 32 ((M : Nat) : Int) k1 f1 ∧ Lk raw [] L k1 f1 k' f' ∧ L.length ≤ 32 ∧ (∀ r ∈ L, WV r) ∧ (e1 = 0 → (chk L).1 = 0 ∧ encL L = raw ∧ e2 = 0) := fun wr hv => by
    obtain ⟨M, k1, f1, L, k', f', e1, e2, rn, hM, hL, lk, he, hw4, hgood⟩ := raw_read HBY.out
    exact ⟨M, k1, f1, L, k', f', e1, e2, readV B m d raw M k1 f1 L k' f' e1 e2 wr (HS.out.bel hv) (by have := HN.out; omega) HBY.out rn hM hL lk hw4 he, rn, lk, by omega, hw4, hgood⟩
  have REST := Lib.hid REST
  by_cases h0 : e0 = 0
  · subst h0
    have HYE := Lib.hid (show ys = encL l by have := HYS.out; rw [if_pos HE0.out] at this; exact this.symm)
    obtain ⟨rn1, lk1⟩ := encL_read HE0.out HW.out
    rw [← HYE.out] at rn1 lk1
    have RN1 := Lib.hid rn1
    have LK1 := Lib.hid lk1
    have HYB := Lib.hid (show Bytes ys from by rw [HYE.out]; exact encL_bytes HE0.out HW.out)
    have HYL := Lib.hid (show ys.length ≤ 1000000 from by
      rw [HYE.out]
      have h1 := encP_len (l.length : Int) l
      have h2 := (chk_ok.1 HE0.out).1
      show (encP (l.length : Int) l).length ≤ 1000000
      omega)
    clear rn1 lk1
    obtain ⟨A3, c3, rfl, hsl⟩ := sl_of_own X3.out
    have RD1 := Lib.hid (readV A3 ys.length c3 ys l.length _ none l _ none 0 0 w3 hsl HYL.out HYB.out RN1.out (chk_ok.1 HE0.out).1 rfl LK1.out HW.out (by
      show (if ys.length < ys.length then ((4 : Int), (ys.length : Int)) else (0, 0)) = (0, 0)
      rw [if_neg (Nat.lt_irrefl _)]))
    rw [if_pos rfl] at RD1
    clear hsl X3
    go_wp2_with fail
    refine RD1.out.mono ?_
    rintro e w4 ⟨v4, rfl, ho, kb⟩
    obtain ⟨A4, c4, rfl, hr4⟩ := ho.slice
    rw [HLN.out] at hr4 ⊢
    have K4 := Lib.hid (K3.out.trans kb)
    have R4_ := Lib.hid hr4
    clear kb ho hr4 RD1 K3 RN1 LK1
    go_upto_region 10 with fail
    have F0 := Blk.new w4 #[.int .i64 0, .int .i64 0] 54
    have FB := (Bel.refl w4).alloc (.cells #[.int .i64 0, .int .i64 0] 54)
    obtain ⟨w5, hw5⟩ : ∃ V, w4.alloc (.cells #[.int .i64 0, .int .i64 0] 54) = V := ⟨_, rfl⟩
    obtain ⟨g, hg⟩ : ∃ g, w4.heap.size = g := ⟨_, rfl⟩
    rw [hw5] at F0 FB ⊢
    rw [hg] at F0 ⊢
    have F5 := Lib.hid F0
    have K5 := Lib.hid (K4.out.trans FB)
    have SM := Lib.hid (same_validators A4 A n c4 n c l l w5 (R4_.out.bel FB) (HI.out.bel K5.out) (by have := HN.out; omega) (by have := HN.out; omega))
    rw [decide_eq_true (rfl : l = l)] at SM
    clear hw5 hg F0 FB K4 R4_
    have f0 := F5.out.cell 0 rfl
    have f1 := F5.out.cell 1 rfl
    have EQ := Lib.hid (fun V => (Rw.neq_fault 0 0 0 0 V).trans (by first | (rw [decide_eq_true (rfl : ((0 : Int), (0 : Int)) = (0, 0))]; done) | (rw [decide_eq_true (rfl : ((0 : Int), (0 : Int)) = (0, 0))]; rfl)))
    go_wp2_with (refine Rw.wpList_val (by rfl) (.bool false) (fun w => Rw.exec_neq rfl _ _ rfl rfl (by kernel_rfl) EQ.out w) ?_)
    refine SM.out.mono ?_
    rintro e w6 ⟨rfl, kb⟩
    have K6 := Lib.hid (show Bel w w6 from K5.out.trans kb)
    clear kb SM f0 f1 EQ K5 F5
    obtain ⟨M, k1, f1, L, k', f', e1, e2, rd, rn, lk, hll, hwL, hgood⟩ := REST.out w6 K6.out
    have HG := Lib.hid hgood
    have HWL := Lib.hid hwL
    have HLL := Lib.hid hll
    have RD2 := Lib.hid rd
    clear rn lk rd hgood hll hwL REST
    go_wp2_with fail
    refine RD2.out.mono ?_
    rintro e w7 ⟨v7, rfl, ho, kb⟩
    have K7 := Lib.hid (K6.out.trans kb)
    have O7 := Lib.hid ho
    clear kb ho RD2 K6
    by_cases h1 : e1 = 0
    · obtain ⟨hok, henc, he2⟩ := HG.out h1
      rw [if_pos h1] at O7
      subst h1 he2
      obtain ⟨A7, c7, rfl, hr7⟩ := O7.out.slice
      have F0 := Blk.new w7 #[.int .i64 0, .int .i64 0] 54
      have FB := (Bel.refl w7).alloc (.cells #[.int .i64 0, .int .i64 0] 54)
      go_upto_region 13 with fail
      obtain ⟨w8, hw8⟩ : ∃ V, w7.alloc (.cells #[.int .i64 0, .int .i64 0] 54) = V := ⟨_, rfl⟩
      obtain ⟨g2, hg⟩ : ∃ g, w7.heap.size = g := ⟨_, rfl⟩
      rw [hw8] at F0 FB ⊢
      rw [hg] at F0 ⊢
      have F8 := Lib.hid F0
      have K8 := Lib.hid (K7.out.trans FB)
      have BY := Lib.hid (show Calls Try.prog 38 #[.slice A7 L.length c7] w8 fun e w' => ∃ v, e = .returned (.tuple #[v, .int .i64 0]) ∧ Fresh w8 w' v raw from by
        have h := bytes_ A7 L.length c7 L w8 (hr7.bel FB) (by have := HLL.out; omega) HWL.out
        unfold ByR at h
        rw [hok, if_pos rfl, henc] at h
        exact h)
      clear hw8 hg F0 FB hok henc hr7 K7 O7
      have f0 := F8.out.cell 0 rfl
      have f1 := F8.out.cell 1 rfl
      have EQ2 := Lib.hid (fun V => (Rw.neq_fault 0 0 0 0 V).trans (by first | (rw [decide_eq_true (rfl : ((0 : Int), (0 : Int)) = (0, 0))]; done) | (rw [decide_eq_true (rfl : ((0 : Int), (0 : Int)) = (0, 0))]; rfl)))
      go_wp2_with (refine Rw.wpList_val (by rfl) (.bool false) (fun w => Rw.exec_neq rfl _ _ rfl rfl (by kernel_rfl) EQ2.out w) ?_)
      refine BY.out.mono ?_
      rintro e w9 ⟨v9, rfl, hf⟩
      obtain ⟨A9, c9, rfl, hsl⟩ := hf.sl
      have K9 := Lib.hid (K8.out.trans hf.2)
      have SB := Lib.hid (Kk.same A9 B raw.length c9 m d raw w9 hsl.ints (HS.out.bel K9.out).ints)
      clear hf hsl BY K8 f0 f1
      go_wp2_with fail
      refine SB.out.mono ?_
      rintro e wa ⟨rfl, rfl⟩
      go_wp2_with fail
      go_ret
      exact ⟨rfl, K9.out⟩
    · rw [if_neg h1] at O7
      obtain ⟨A7, c7, rfl⟩ := own_nil_len O7.out
      have EQ2 := Lib.hid (fun V => (Rw.neq_fault e1 e2 0 0 V).trans (show Result.ok (Value.bool (!decide ((e1, e2) = ((0 : Int), (0 : Int))))) V = Result.ok (.bool true) V by rw [decide_eq_false (fun h => h1 (by injection h))]; rfl))
      clear h1
      have F0 := Blk.new w7 #[.int .i64 e1, .int .i64 e2] 54
      have FB := (Bel.refl w7).alloc (.cells #[.int .i64 e1, .int .i64 e2] 54)
      go_upto_region 13 with fail
      obtain ⟨w8, hw8⟩ : ∃ V, w7.alloc (.cells #[.int .i64 e1, .int .i64 e2] 54) = V := ⟨_, rfl⟩
      obtain ⟨g2, hg⟩ : ∃ g, w7.heap.size = g := ⟨_, rfl⟩
      rw [hw8] at F0 FB ⊢
      rw [hg] at F0 ⊢
      have F8 := Lib.hid F0
      have K8 := Lib.hid (K7.out.trans FB)
      clear hw8 hg F0 FB K7 O7
      have f0 := F8.out.cell 0 rfl
      have f1 := F8.out.cell 1 rfl
      go_wp2_with (refine Rw.wpList_val (by rfl) (.bool true) (fun w => Rw.exec_neq rfl _ _ rfl rfl (by kernel_rfl) EQ2.out w) ?_)
      go_wp2_with fail
      go_ret
      exact ⟨rfl, K8.out⟩
  · have hne : (e0 == 0) = false := beq_eq_false_iff_ne.2 h0
    have K6 := K3
    clear h0 K3
    obtain ⟨w6, hw6⟩ : ∃ W, w3 = W := ⟨_, rfl⟩
    rw [hw6] at K6 ⊢
    clear hw6
    obtain ⟨M, k1, f1, L, k', f', e1, e2, rd, rn, lk, hll, hwL, hgood⟩ := REST.out w6 K6.out
    have HG := Lib.hid hgood
    have HWL := Lib.hid hwL
    have HLL := Lib.hid hll
    have RD2 := Lib.hid rd
    clear rn lk rd hgood hll hwL REST
    go_wp2_with fail
    refine RD2.out.mono ?_
    rintro e w7 ⟨v7, rfl, ho, kb⟩
    have K7 := Lib.hid (K6.out.trans kb)
    have O7 := Lib.hid ho
    clear kb ho RD2 K6
    by_cases h1 : e1 = 0
    · obtain ⟨hok, henc, he2⟩ := HG.out h1
      rw [if_pos h1] at O7
      subst h1 he2
      obtain ⟨A7, c7, rfl, hr7⟩ := O7.out.slice
      have F0 := Blk.new w7 #[.int .i64 0, .int .i64 0] 54
      have FB := (Bel.refl w7).alloc (.cells #[.int .i64 0, .int .i64 0] 54)
      go_upto_region 13 with fail
      obtain ⟨w8, hw8⟩ : ∃ V, w7.alloc (.cells #[.int .i64 0, .int .i64 0] 54) = V := ⟨_, rfl⟩
      obtain ⟨g2, hg⟩ : ∃ g, w7.heap.size = g := ⟨_, rfl⟩
      rw [hw8] at F0 FB ⊢
      rw [hg] at F0 ⊢
      have F8 := Lib.hid F0
      have K8 := Lib.hid (K7.out.trans FB)
      have BY := Lib.hid (show Calls Try.prog 38 #[.slice A7 L.length c7] w8 fun e w' => ∃ v, e = .returned (.tuple #[v, .int .i64 0]) ∧ Fresh w8 w' v raw from by
        have h := bytes_ A7 L.length c7 L w8 (hr7.bel FB) (by have := HLL.out; omega) HWL.out
        unfold ByR at h
        rw [hok, if_pos rfl, henc] at h
        exact h)
      clear hw8 hg F0 FB hok henc hr7 K7 O7
      have f0 := F8.out.cell 0 rfl
      have f1 := F8.out.cell 1 rfl
      have EQ2 := Lib.hid (fun V => (Rw.neq_fault 0 0 0 0 V).trans (by first | (rw [decide_eq_true (rfl : ((0 : Int), (0 : Int)) = (0, 0))]; done) | (rw [decide_eq_true (rfl : ((0 : Int), (0 : Int)) = (0, 0))]; rfl)))
      go_wp2_with (refine Rw.wpList_val (by rfl) (.bool false) (fun w => Rw.exec_neq rfl _ _ rfl rfl (by kernel_rfl) EQ2.out w) ?_)
      refine BY.out.mono ?_
      rintro e w9 ⟨v9, rfl, hf⟩
      obtain ⟨A9, c9, rfl, hsl⟩ := hf.sl
      have K9 := Lib.hid (K8.out.trans hf.2)
      have SB := Lib.hid (Kk.same A9 B raw.length c9 m d raw w9 hsl.ints (HS.out.bel K9.out).ints)
      clear hf hsl BY K8 f0 f1
      go_wp2_with fail
      refine SB.out.mono ?_
      rintro e wa ⟨rfl, rfl⟩
      go_wp2_with fail
      go_ret
      exact ⟨rfl, K9.out⟩
    · rw [if_neg h1] at O7
      obtain ⟨A7, c7, rfl⟩ := own_nil_len O7.out
      have EQ2 := Lib.hid (fun V => (Rw.neq_fault e1 e2 0 0 V).trans (show Result.ok (Value.bool (!decide ((e1, e2) = ((0 : Int), (0 : Int))))) V = Result.ok (.bool true) V by rw [decide_eq_false (fun h => h1 (by injection h))]; rfl))
      clear h1
      have F0 := Blk.new w7 #[.int .i64 e1, .int .i64 e2] 54
      have FB := (Bel.refl w7).alloc (.cells #[.int .i64 e1, .int .i64 e2] 54)
      go_upto_region 13 with fail
      obtain ⟨w8, hw8⟩ : ∃ V, w7.alloc (.cells #[.int .i64 e1, .int .i64 e2] 54) = V := ⟨_, rfl⟩
      obtain ⟨g2, hg⟩ : ∃ g, w7.heap.size = g := ⟨_, rfl⟩
      rw [hw8] at F0 FB ⊢
      rw [hg] at F0 ⊢
      have F8 := Lib.hid F0
      have K8 := Lib.hid (K7.out.trans FB)
      clear hw8 hg F0 FB K7 O7
      have f0 := F8.out.cell 0 rfl
      have f1 := F8.out.cell 1 rfl
      go_wp2_with (refine Rw.wpList_val (by rfl) (.bool true) (fun w => Rw.exec_neq rfl _ _ rfl rfl (by kernel_rfl) EQ2.out w) ?_)
      go_wp2_with fail
      go_ret
      exact ⟨rfl, K8.out⟩
theorem backLawW (A : Option Addr) (n c : Nat) (B : Option Addr) (m d : Nat) (raw : List Int) (w : World) (hn : n ≤ 9223372036854775807) (hi : Vals w A n c) (hm : m ≤ 9223372036854775807) (hs : Sl w B m d raw) (hb : Bytes raw) :
    Calls Try.prog 8 #[.slice A n c, .slice B m d] w fun e w' => e = .returned (.bool true) ∧ Bel w w' := by
  obtain ⟨l, hl, hw⟩ := vals_rs hi
  exact backLaw A n c l B m d raw w hl hw hs hb
end Ro
end Go.Proofs.Ytpfdakkameifkaa
end
