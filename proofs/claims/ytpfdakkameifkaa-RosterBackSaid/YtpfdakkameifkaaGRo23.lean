/-
  What the law RosterBytes answers: true, for all lists of validators and all bytes. Conditions: the numbers are ints and words; the bytes are bytes.
-/
import Derived.Test.YtpfdakkameifkaaRI
import Derived.Test.YtpfdakkameifkaaRG
import Derived.Test.YtpfdakkameifkaaGKept
namespace Go.Proofs.Ytpfdakkameifkaa
open Go.RowKit Go.Shelf
set_option linter.unusedVariables false
set_option linter.unusedSimpArgs false
namespace Ro
open Cd

theorem encL_eq (l : List V6) : encL l = enc (l.length : Int) ++ Rm.encs (l.flatMap nums) := by unfold encL; rw [Rm.encs_cons]
/-- A roster's own bytes, read. -/
theorem encL_read {l : List V6} (h : (chk l).1 = 0) (hw : ∀ r ∈ l, WV r) : RN (encL l) 0 none 0 32 ((l.length : Nat) : Int) (enc (l.length : Int)).length none ∧ Lk (encL l) [] l (enc (l.length : Int)).length none (encL l).length none := by
  have h32 := (chk_ok.1 h).1
  rw [encL_eq]
  constructor
  · have := Rm.rn_enc [] (Rm.encs (l.flatMap nums)) (l.length : Int) 0 32 (by omega) (by omega) (by omega) (by omega)
    simpa using this
  · have := lk_enc l [] (enc (l.length : Int)) [] h hw
    simpa using this
/-- What is read of any bytes; without a fault these are its own. -/
theorem raw_read {zs : List Int} (hb : Bytes zs) : ∃ (m k1 : Nat) (f1 : Option (Int × Int)) (L : List V6) (k' : Nat) (f' : Option (Int × Int)) (e1 e2 : Int), RN zs 0 none 0 32 (m : Int) k1 f1 ∧ m ≤ 32 ∧ L.length = m ∧ Lk zs [] L k1 f1 k' f' ∧ endOf zs.length k' f' = (e1, e2) ∧ (∀ r ∈ L, WV r) ∧ (e1 = 0 → (chk L).1 = 0 ∧ encL L = zs ∧ e2 = 0) := by
  obtain ⟨x, k1, f1, r1, q1, h1⟩ := Rm.rn_of zs hb 0 (Nat.zero_le _) 0 32
  obtain ⟨m, hm, hm2⟩ : ∃ m : Nat, x = (m : Int) ∧ m ≤ 32 := by
    rcases h1 with ⟨_, h2, h3, _⟩ | ⟨_, _, _, _, h2⟩
    · exact ⟨x.toNat, by omega, by omega⟩
    · exact ⟨0, h2, by decide⟩
  subst hm
  have hf1 : ∀ p, f1 = some p → p.1 ≠ 0 := fun p hp => by
    rcases h1 with ⟨h2, _⟩ | ⟨e, he, h2, _⟩
    · rw [h2] at hp; cases hp
    · rw [h2] at hp; injection hp with hp; rw [← hp]; exact he
  obtain ⟨L, k', f', h2, h3, h4, h5, h6, h7⟩ := lk_of zs hb m k1 f1 [] q1 hf1
  obtain ⟨⟨e1, e2⟩, he⟩ : ∃ e, endOf zs.length k' f' = e := ⟨_, rfl⟩
  refine ⟨m, k1, f1, L, k', f', e1, e2, r1, hm2, h3, h2, he, h5, fun h0 => ?_⟩
  obtain ⟨he2, hf, hk⟩ := end_e2 he h6 h0
  obtain ⟨hf1n, q2, q3⟩ := h7 hf
  refine ⟨?_, ?_, he2⟩
  · rcases q2 with q2 | q2
    · have : L = [] := List.length_eq_zero_iff.1 (by omega)
      subst this; rfl
    · simpa using q2
  · rcases h1 with ⟨_, _, _, t1⟩ | ⟨e, _, h8, _⟩
    · rw [encL_eq, h3]
      have e3 : zs.take k' = zs := List.take_of_length_le hk
      rw [e3, ← t1] at q3
      simpa using q3
    · rw [hf1n] at h8; cases h8
set_option maxRecDepth 100000 in
set_option maxHeartbeats 16000000 in
theorem bytesLaw (A : Option Addr) (n c : Nat) (l : List V6) (B : Option Addr) (m d : Nat) (raw : List Int) (w : World) (hi : Rw.RS vR w A n c l) (hw : ∀ r ∈ l, WV r) (hs : Sl w B m d raw) (hb : Bytes raw) :
    Calls Try.prog 5 #[.slice A n c, .slice B m d] w fun e w' => e = .returned (.bool true) ∧ Bel w w' := by
  have HI := Lib.hid hi
  have HW := Lib.hid hw
  have HLN := Lib.hid hi.len
  have HS := Lib.hid hs
  have HBY := Lib.hid hb
  have HRL := Lib.hid (show raw.length = m from hs.ints.1)
  clear hi hs hb hw
  by_cases hlong : 40 < n
  · have AW := Lib.hid (awake w)
    have hlong3 : (40 : Int) < n := by omega
    go_enter Try.func5, Try.ntmps5
    go_wp2_with fail
    refine AW.out.mono ?_
    rintro e w1 ⟨rfl, kb⟩
    have KB := Lib.hid (show Bel w w1 from kb)
    clear kb AW
    go_wp2_with fail
    go_ret
    exact ⟨rfl, KB.out⟩
  have hlong3 : ¬ (40 : Int) < n := by omega
  by_cases hlm : 600 < m
  · have AW := Lib.hid (awake w)
    have hlm3 : (600 : Int) < m := by omega
    go_enter Try.func5, Try.ntmps5
    go_wp2_with fail
    refine AW.out.mono ?_
    rintro e w1 ⟨rfl, kb⟩
    have KB := Lib.hid (show Bel w w1 from kb)
    clear kb AW
    go_wp2_with fail
    go_ret
    exact ⟨rfl, KB.out⟩
  have hlm3 : ¬ (600 : Int) < m := by omega
  have HN := Lib.hid (show n ≤ 40 ∧ m ≤ 600 by omega)
  clear hlong hlm
  obtain ⟨e0, he0⟩ : ∃ e, (chk l).1 = e := ⟨_, rfl⟩
  obtain ⟨ys, hys⟩ : ∃ ys, (if (chk l).1 = 0 then encL l else []) = ys := ⟨_, rfl⟩
  have HYL := Lib.hid (show ys.length ≤ 1000000 from by
    rw [← hys]
    split
    · rename_i h
      have h1 := encP_len (l.length : Int) l
      have h2 := (chk_ok.1 h).1
      show (encP (l.length : Int) l).length ≤ 1000000
      omega
    · simp)
  have BY := Lib.hid (show Calls Try.prog 38 #[.slice A n c] w fun e w' => ∃ v, e = .returned (.tuple #[v, .int .i64 e0]) ∧ Fresh w w' v ys from by rw [← hys, ← he0]; exact bytes_ A n c l w HI.out (by have := HN.out; omega) HW.out)
  have BY2 := Lib.hid (fun V (hv : Bel w V) => show Calls Try.prog 39 #[.slice A n c] V fun e w' => ∃ v, e = .returned (.tuple #[v, .int .i64 e0]) ∧ Fresh V w' v ys from by rw [← hys, ← he0]; exact bytesR A n c l V (HI.out.bel hv) (by have := HN.out; omega) HW.out)
  clear hys he0
  go_enter Try.func5, Try.ntmps5
  go_wp2_with fail
  refine BY.out.mono ?_
  rintro e w3 ⟨vx, rfl, hf⟩
  have X3 := Lib.hid hf.1
  have K3 := Lib.hid (show Bel w w3 from hf.2)
  clear hf BY
  go_wp2_with fail
  refine (BY2.out _ K3.out).mono ?_
  rintro e w4 ⟨vy, rfl, hf⟩
  have Y4 := Lib.hid hf.1
  have X4 := Lib.hid (Kk.owns_bel X3.out hf.2)
  have K4 := Lib.hid (K3.out.trans hf.2)
  clear hf BY2 X3 K3
  obtain ⟨Ax, cx, rfl, hxs⟩ := sl_of_own X4.out
  obtain ⟨Ay, cy, rfl, hys⟩ := sl_of_own Y4.out
  have SM := Lib.hid (same Ax Ay ys.length cx ys.length cy ys w4 hxs.ints hys.ints)
  have OV := Lib.hid (Kk.over_any w.heap.size ys.length (.slice Ax ys.length cx) ys w4 (by have := HYL.out; omega) X4.out)
  clear hxs hys Y4
  go_wp2_with fail
  refine SM.out.mono ?_
  rintro e w9 ⟨rfl, rfl⟩
  clear SM
  go_wp2_with fail
  refine OV.out.mono ?_
  rintro e w5 ⟨rfl, ko⟩
  have K5 := Lib.hid (show Bel w w5 from Kk.Kep.bel K4.out ko (fun k hk => (X4.out.lt k hk).1))
  clear ko OV X4 K4
  have LN := Lib.hid (lent B m d raw w5 (HS.out.bel K5.out) (by have := HN.out; omega))
  go_wp2_with fail
  refine LN.out.mono ?_
  rintro e w6 ⟨vl, rfl, hl, kb⟩
  have HL6 := Lib.hid hl
  have K6 := Lib.hid (K5.out.trans kb)
  clear hl kb LN K5
  obtain ⟨Al, cl, rfl, hls⟩ := sl_of_own HL6.out.own
  obtain ⟨M, k1, f1, L, k', f', e1, e2, rn, hM, hL, lk, he, hw4, hgood⟩ := raw_read HBY.out
  have HLL := Lib.hid (show L.length ≤ 32 by omega)
  have RD := Lib.hid (readV Al m cl raw M k1 f1 L k' f' e1 e2 w6 hls (by have := HN.out; omega) HBY.out rn hM hL lk hw4 he)
  have RD2 := Lib.hid (fun V (hv : Bel w6 V) => readR B m d raw M k1 f1 L k' f' e1 e2 V (HS.out.bel (K6.out.trans hv)) (by have := HN.out; omega) HBY.out rn hM hL lk he)
  obtain ⟨LP, hLP⟩ : ∃ x, (if e1 = 0 then L else []) = x := ⟨_, rfl⟩
  have HLP := Lib.hid (show LP.length ≤ 32 from by
    rw [← hLP]
    split
    · exact HLL.out
    · simp)
  rw [hLP] at RD RD2
  clear rn hM hL lk he hw4 hgood hLP HLL hls
  go_wp2_with fail
  refine RD.out.mono ?_
  rintro e w7 ⟨vp, rfl, hp, kb⟩
  have P7 := Lib.hid hp
  have K7 := Lib.hid (show Bel w6 w7 from kb)
  clear hp kb RD
  have F0 := Blk.new w7 #[.int .i64 e1, .int .i64 e2] 54
  have FB := (Bel.refl w7).alloc (.cells #[.int .i64 e1, .int .i64 e2] 54)
  go_upto_region 9 with fail
  obtain ⟨w8, hw8⟩ : ∃ V, w7.alloc (.cells #[.int .i64 e1, .int .i64 e2] 54) = V := ⟨_, rfl⟩
  obtain ⟨g, hg⟩ : ∃ g, w7.heap.size = g := ⟨_, rfl⟩
  rw [hw8] at F0 FB ⊢
  rw [hg] at F0 ⊢
  have F8 := Lib.hid F0
  have K8 := Lib.hid (K7.out.trans FB)
  have P8 := Lib.hid (P7.out.bel FB)
  clear hw8 hg F0 FB K7 P7
  go_wp2_with fail
  refine (RD2.out _ K8.out).mono ?_
  rintro e w9 ⟨vq, rfl, hq, kb⟩
  have Q9 := Lib.hid hq
  have P9 := Lib.hid (P8.out.bel kb)
  have F9 := Lib.hid (F8.out.bel kb)
  have K9 := Lib.hid (K8.out.trans kb)
  clear hq kb RD2 P8 F8 K8
  have G0 := Blk.new w9 #[.int .i64 e1, .int .i64 e2] 54
  have FB := (Bel.refl w9).alloc (.cells #[.int .i64 e1, .int .i64 e2] 54)
  go_upto_region 10 with fail
  obtain ⟨wa, hwa⟩ : ∃ V, w9.alloc (.cells #[.int .i64 e1, .int .i64 e2] 54) = V := ⟨_, rfl⟩
  obtain ⟨g2, hg⟩ : ∃ g, w9.heap.size = g := ⟨_, rfl⟩
  rw [hwa] at G0 FB ⊢
  rw [hg] at G0 ⊢
  have Ga := Lib.hid G0
  have Fa := Lib.hid (F9.out.bel FB)
  have Pa := Lib.hid (P9.out.bel FB)
  have Qa := Lib.hid (Q9.out.bel FB)
  have Ka := Lib.hid (K9.out.trans FB)
  clear hwa hg G0 FB F9 P9 Q9 K9
  obtain ⟨Ap, cp, rfl, hpr⟩ := Pa.out.slice
  obtain ⟨Aq, cq, rfl, hqr⟩ := Qa.out.slice
  have SV := Lib.hid (same_validators Ap Aq LP.length cp LP.length cq LP LP wa hpr hqr (by have := HLP.out; omega) (by have := HLP.out; omega))
  rw [decide_eq_true (rfl : LP = LP)] at SV
  clear hpr hqr
  go_wp2_with fail
  refine SV.out.mono ?_
  rintro e wb ⟨rfl, kb⟩
  have Gb := Lib.hid (Ga.out.bel kb)
  have Fb := Lib.hid (Fa.out.bel kb)
  have Pb := Lib.hid (Pa.out.bel kb)
  have Kb := Lib.hid (Ka.out.trans kb)
  clear kb SV Ga Fa Pa Ka
  have f0 := Fb.out.cell 0 rfl
  have f1_ := Fb.out.cell 1 rfl
  have g0 := Gb.out.cell 0 rfl
  have g1 := Gb.out.cell 1 rfl
  have EQ := Lib.hid (fun V => (Rw.eql_fault e1 e2 e1 e2 V).trans (by rw [decide_eq_true (rfl : (e1, e2) = (e1, e2))]))
  go_wp2_with (refine Rw.wpList_val (by rfl) (.bool true) (fun w => Rw.exec_eql rfl _ _ rfl rfl (by kernel_rfl) EQ.out w) ?_)
  have OVV := Lib.hid (over_any Ap LP.length cp wb (lay_own Pb.out) (by have := HLP.out; omega))
  refine OVV.out.mono ?_
  rintro e wc ⟨rfl, ko⟩
  have Kc := Lib.hid (show Bel w6 wc from ov_bel Pb.out Kb.out (Nat.le_refl _) ko)
  clear ko OVV f0 f1_ g0 g1 EQ
  have KP := Lib.hid (kept w5.heap.size (.slice Al m cl) B m d raw wc (HL6.out.bel Kc.out) (HS.out.bel (K6.out.trans Kc.out)).ints (by have := HN.out; omega))
  go_wp2_with fail
  refine KP.out.mono ?_
  rintro e wd ⟨rfl, kb⟩
  have Kd := Lib.hid ((K6.out.trans Kc.out).trans kb)
  clear kb KP
  go_wp2_with fail
  refine (awake _).mono ?_
  rintro e we ⟨rfl, kb⟩
  have KZ := Lib.hid (Kd.out.trans kb)
  clear kb
  go_wp2_with fail
  go_ret
  exact ⟨rfl, KZ.out⟩
theorem bytesLawW (A : Option Addr) (n c : Nat) (B : Option Addr) (m d : Nat) (raw : List Int) (w : World) (hn : n ≤ 9223372036854775807) (hi : Vals w A n c) (hm : m ≤ 9223372036854775807) (hs : Sl w B m d raw) (hb : Bytes raw) :
    Calls Try.prog 5 #[.slice A n c, .slice B m d] w fun e w' => e = .returned (.bool true) ∧ Bel w w' := by
  obtain ⟨l, hl, hw⟩ := vals_rs hi
  exact bytesLaw A n c l B m d raw w hl hw hs hb
end Ro
end Go.Proofs.Ytpfdakkameifkaa
