/-
  What stamp.Read answers. Conditions: at most 10^6 bytes; the bytes are bytes.
-/
import Derived.Test.YtagcpphkabkgjaaSm3
namespace Go.Proofs.Ytagcpphkabkgjaa
open Go.RowKit Go.Shelf
set_option linter.unusedVariables false
namespace Sm
open Cd

/-- What Read tells of a stamp's number. -/
def rz (e x : Int) : Int := if e = 0 then x else 0
theorem load_flt {w : World} {b : Nat} {a1 a2 : Int} (h : Blk w b #[.int .i64 a1, .int .i64 a2] 33) : (loadVar 33 ⟨b, 0, none⟩).run Try.prog w = .ok (.agg #[.int .i64 a1, .int .i64 a2]) w :=
  Pm.load_b (C := [.int .i64 a1, .int .i64 a2]) h Try.underlying33 rfl (by kernel_rfl)
theorem tz_end {n k : Nat} {f : Option (Int × Int)} {e1 e2 : Int} (he : endOf n k f = (e1, e2)) (hf : ∀ p, f = some p → p.1 ≠ 0) (h : e1 = 0) (x : Int) : tz f x = x := by
  cases f with
  | none => rfl
  | some p =>
    have h1 : p = (e1, e2) := he
    exact absurd h (by have := hf p rfl; rw [h1] at this; exact this)

theorem end_e2 {n k : Nat} {f : Option (Int × Int)} {e1 e2 : Int} (he : endOf n k f = (e1, e2)) (hf : ∀ p, f = some p → p.1 ≠ 0) (h : e1 = 0) : e2 = 0 ∧ f = none ∧ n ≤ k := by
  cases f with
  | none =>
    have h1 : (if k < n then ((4 : Int), (k : Int)) else (0, 0)) = (e1, e2) := he
    by_cases hk : k < n
    · rw [if_pos hk] at h1
      injection h1 with h1 _
      omega
    · rw [if_neg hk] at h1
      injection h1 with _ h1
      exact ⟨h1.symm, rfl, by omega⟩
  | some p =>
    have h1 : p = (e1, e2) := he
    exact absurd h (by have := hf p rfl; rw [h1] at this; exact this)
set_option maxRecDepth 10000 in
set_option maxHeartbeats 2000000 in
theorem read (A : Option Addr) (n c : Nat) (zs : List Int) (x1 x2 x3 x4 : Int) (k' : Nat) (f' : Option (Int × Int)) (e1 e2 : Int) (w : World) (hs : Sl w A n c zs) (hn : n ≤ 1000000) (hb : Bytes zs) (ht : Tk zs 0 none x1 x2 x3 x4 k' f') (he : endOf zs.length k' f' = (e1, e2)) :
    Calls Try.prog 14 #[.slice A n c] w fun r w' => r = .returned (.tuple #[stV (rz e1 x1) (rz e1 x2) (rz e1 x3) (rz e1 x4), .agg #[.int .i64 e1, .int .i64 e2]]) ∧ Bel w w' := by
  have HS := Lib.hid hs
  have HB := Lib.hid hb
  have HT := Lib.hid ht
  have HE := Lib.hid he
  have HN := Lib.hid hn
  clear hs hb ht he hn
  have Q0 : Blk ((w.alloc (.cells #[.int .i64 0, .int .i64 0, .int .i64 0, .int .i64 0] 23)).alloc (.cells #[.int .i64 0, .int .i64 0] 33)) w.heap.size #[.int .i64 0, .int .i64 0, .int .i64 0, .int .i64 0] 23 := (Blk.new w _ _).alloc _
  have R0 := Blk.new (w.alloc (.cells #[.int .i64 0, .int .i64 0, .int .i64 0, .int .i64 0] 23)) #[.int .i64 0, .int .i64 0] 33
  rw [World.size_alloc] at R0
  have B0 : Bel w ((w.alloc (.cells #[.int .i64 0, .int .i64 0, .int .i64 0, .int .i64 0] 23)).alloc (.cells #[.int .i64 0, .int .i64 0] 33)) := ((Bel.refl w).alloc _).alloc _
  obtain ⟨W, hW⟩ : ∃ W, (w.alloc (.cells #[.int .i64 0, .int .i64 0, .int .i64 0, .int .i64 0] 23)).alloc (.cells #[.int .i64 0, .int .i64 0] 33) = W := ⟨_, rfl⟩
  obtain ⟨q, hq⟩ : ∃ q, w.heap.size = q := ⟨_, rfl⟩
  obtain ⟨p, hp⟩ : ∃ p, q + 1 = p := ⟨_, rfl⟩
  rw [hW, hq] at Q0
  rw [hW, hq, hp] at R0
  rw [hW] at B0
  have Q0 := Lib.hid Q0
  have R0 := Lib.hid R0
  have B0 := Lib.hid B0
  have HW := Lib.hid hW
  have HQ := Lib.hid hq
  have HP := Lib.hid hp
  clear hW hq hp
  go_enter Try.func14, Try.ntmps14
  go_upto_region 1 with fail
  rw [HW.out, HQ.out, HP.out]
  go_wp2_with fail
  refine (newReader A n c zs W (HS.out.bel B0.out) HN.out HB.out).mono ?_
  rintro r w1 ⟨b, A', c', rfl, hbb, hr, hA, k1⟩
  have Q1 := Lib.hid (Q0.out.bel k1)
  have R1 := Lib.hid (R0.out.bel k1)
  have K1 := Lib.hid (B0.out.trans k1)
  have HBQ := Lib.hid (show q < b ∧ p < b from ⟨Nat.lt_of_lt_of_le Q0.out.lt hbb, Nat.lt_of_lt_of_le R0.out.lt hbb⟩)
  have TK := Lib.hid (take b A' n c' zs 0 none x1 x2 x3 x4 k' f' w1 ⟨none, hr, .inl ⟨rfl, rfl⟩, fun x hx => by cases hx⟩ (fun hn x hx => by
    obtain ⟨b', o', e, hlt, _⟩ := hr.sl.ints.cell (i := 0) hn
    rw [e] at hx; injection hx with hx; subst hx; exact hlt) HT.out)
  have HSB := Lib.hid (show w.heap.size ≤ b from Nat.le_trans (Below.size B0.out) hbb)
  clear hbb hr hA k1
  go_wp2_with fail
  refine (TK.out).mono ?_
  rintro r w2 ⟨rfl, hr, hk⟩
  have Q2 := Lib.hid (Q1.out.kep hk (by have := HBQ.out; omega))
  have R2 := Lib.hid (R1.out.kep hk (by have := HBQ.out; omega))
  have K2 := Lib.hid (show Bel w w2 from Kep.bel K1.out hk (fun i hi => by rw [hi]; exact HSB.out))
  have EN := Lib.hid (fun V (hv : Bel w2 V) => rEnd b zs k' f' V (hr.rs.bel hv))
  rw [HE.out] at EN
  have EN := Lib.hid (fun V (hv : Bel w2 V) => show Calls Try.prog 31 #[.pointer (some ⟨b, 0, none⟩)] V fun e w' => e = .returned (.agg #[.int .i64 e1, .int .i64 e2]) ∧ Bel V w' from EN.out V hv)
  have HFP := Lib.hid (fun p (hp : f' = some p) => flt_ne (by rw [hp] at hr; exact hr))
  clear hr hk Q1 R1 TK
  obtain ⟨y1, hy1⟩ : ∃ y, tz f' x1 = y := ⟨_, rfl⟩
  obtain ⟨y2, hy2⟩ : ∃ y, tz f' x2 = y := ⟨_, rfl⟩
  obtain ⟨y3, hy3⟩ : ∃ y, tz f' x3 = y := ⟨_, rfl⟩
  obtain ⟨y4, hy4⟩ : ∃ y, tz f' x4 = y := ⟨_, rfl⟩
  rw [hy1, hy2, hy3, hy4]
  have HY := Lib.hid (fun h0 : e1 = 0 => show x1 = y1 ∧ x2 = y2 ∧ x3 = y3 ∧ x4 = y4 from ⟨by rw [← hy1, tz_end HE.out HFP.out h0], by rw [← hy2, tz_end HE.out HFP.out h0], by rw [← hy3, tz_end HE.out HFP.out h0], by rw [← hy4, tz_end HE.out HFP.out h0]⟩)
  clear hy1 hy2 hy3 hy4
  have S0 := Blk.new w2 #[.int .i64 y1, .int .i64 y2, .int .i64 y3, .int .i64 y4] 23
  have SB := (Bel.refl w2).alloc (.cells #[.int .i64 y1, .int .i64 y2, .int .i64 y3, .int .i64 y4] 23)
  go_upto_region 3 with fail
  obtain ⟨W3, hW⟩ : ∃ W, w2.alloc (.cells #[.int .i64 y1, .int .i64 y2, .int .i64 y3, .int .i64 y4] 23) = W := ⟨_, rfl⟩
  obtain ⟨s, hs⟩ : ∃ s, w2.heap.size = s := ⟨_, rfl⟩
  rw [hW] at S0 SB ⊢
  rw [hs] at S0 ⊢
  have S3 := Lib.hid S0
  have Q3 := Lib.hid (Q2.out.bel SB)
  have R3 := Lib.hid (R2.out.bel SB)
  have K3 := Lib.hid (K2.out.trans SB)
  have E3 := Lib.hid (EN.out W3 SB)
  have LS := Lib.hid (show q < s ∧ p < s from ⟨by rw [← hs]; exact Q2.out.lt, by rw [← hs]; exact R2.out.lt⟩)
  clear hW hs S0 SB Q2 R2 K2 EN
  go_wp2_with fail
  refine (E3.out).mono ?_
  rintro r w4 ⟨rfl, kb⟩
  have S4 := Lib.hid (S3.out.bel kb)
  have Q4 := Lib.hid (Q3.out.bel kb)
  have R4 := Lib.hid (R3.out.bel kb)
  have K4 := Lib.hid (K3.out.trans kb)
  clear kb S3 Q3 R3 K3 E3
  have T0 := Blk.new w4 #[.int .i64 e1, .int .i64 e2] 33
  have TB := (Bel.refl w4).alloc (.cells #[.int .i64 e1, .int .i64 e2] 33)
  go_upto_region 4 with fail
  obtain ⟨W5, hW⟩ : ∃ W, w4.alloc (.cells #[.int .i64 e1, .int .i64 e2] 33) = W := ⟨_, rfl⟩
  obtain ⟨u, hu⟩ : ∃ u, w4.heap.size = u := ⟨_, rfl⟩
  rw [hW] at T0 TB ⊢
  rw [hu] at T0 ⊢
  have T5 := Lib.hid T0
  have S5 := Lib.hid (S4.out.bel TB)
  have Q5 := Lib.hid (Q4.out.bel TB)
  have R5 := Lib.hid (R4.out.bel TB)
  have K5 := Lib.hid (K4.out.trans TB)
  have LU := Lib.hid (show q < u ∧ p < u ∧ s < u from ⟨by rw [← hu]; exact Q4.out.lt, by rw [← hu]; exact R4.out.lt, by rw [← hu]; exact S4.out.lt⟩)
  clear hW hu T0 TB S4 Q4 R4 K4
  have hqs : q ≠ s := by have := LS.out; omega
  have hps : p ≠ s := by have := LS.out; omega
  have hqu : q ≠ u := by have := LU.out; omega
  have hpu : p ≠ u := by have := LU.out; omega
  have hpq : q ≠ p := by have := HP.out; omega
  have t0 := T5.out.cell 0 rfl
  have t1 := T5.out.cell 1 rfl
  have s0 := S5.out.cell 0 rfl
  have s1 := S5.out.cell 1 rfl
  have s2 := S5.out.cell 2 rfl
  have s3 := S5.out.cell 3 rfl
  have q0 := Q5.out.cell 0 rfl
  have q1 := Q5.out.cell 1 rfl
  have q2 := Q5.out.cell 2 rfl
  have q3 := Q5.out.cell 3 rfl
  have r0 := R5.out.cell 0 rfl
  have r1 := R5.out.cell 1 rfl
  have fq0 := Q5.out.frozen 0
  have fq1 := Q5.out.frozen 1
  have fq2 := Q5.out.frozen 2
  have fq3 := Q5.out.frozen 3
  have fr0 := R5.out.frozen 0
  have fr1 := R5.out.frozen 1
  have HLQ := Lib.hid (show w.heap.size ≤ q by rw [HQ.out]; exact Nat.le_refl _)
  have HLP := Lib.hid (show w.heap.size ≤ p by rw [← HP.out]; have := HLQ.out; omega)
  by_cases h0 : e1 = 0
  · obtain ⟨rfl, rfl, rfl, rfl⟩ := HY.out h0
    obtain ⟨rfl, -, -⟩ := end_e2 HE.out HFP.out h0
    subst h0
    go_wp2_with fail
    have QF := (((((Q5.out.set 0 (.int .i64 x1)).set 1 (.int .i64 x2)).set 2 (.int .i64 x3)).set 3 (.int .i64 x4)).other hpq 0 (.int .i64 0)).other hpq 1 (.int .i64 0)
    have RF := (((((R5.out.other hpq.symm 0 (.int .i64 x1)).other hpq.symm 1 (.int .i64 x2)).other hpq.symm 2 (.int .i64 x3)).other hpq.symm 3 (.int .i64 x4)).set 0 (.int .i64 0)).set 1 (.int .i64 0)
    refine bodyPost_ret (Pm.res_cc rfl _ _ ⟨q, 0, none⟩ ⟨p, 0, none⟩ _ _ rfl rfl (load_st QF) (load_flt RF)) rfl ⟨rfl, ?_⟩
    exact (((((K5.out.set HLQ.out _).set HLQ.out _).set HLQ.out _).set HLQ.out _).set HLP.out _).set HLP.out _
  · have h1 : (e1 != 0) = true := by rw [bne_iff_ne]; exact h0
    go_wp2_with fail
    go_region
    all_goals
      go_wp2_with fail
      have QF := ((((((Q5.out.set 0 (.int .i64 0)).set 1 (.int .i64 0)).set 2 (.int .i64 0)).set 3 (.int .i64 0)).other hpq 0 (.int .i64 e1)).other hpq 1 (.int .i64 e2)).bel (Bel.refl _).drew
      have RF := ((((((R5.out.other hpq.symm 0 (.int .i64 0)).other hpq.symm 1 (.int .i64 0)).other hpq.symm 2 (.int .i64 0)).other hpq.symm 3 (.int .i64 0)).set 0 (.int .i64 e1)).set 1 (.int .i64 e2)).bel (Bel.refl _).drew
      refine bodyPost_ret (Pm.res_cc rfl _ _ ⟨q, 0, none⟩ ⟨p, 0, none⟩ _ _ rfl rfl (load_st QF) (load_flt RF)) rfl ⟨?_, ?_⟩
      · rw [show rz e1 x1 = 0 from if_neg h0, show rz e1 x2 = 0 from if_neg h0, show rz e1 x3 = 0 from if_neg h0, show rz e1 x4 = 0 from if_neg h0]
      · exact ((((((K5.out.set HLQ.out _).set HLQ.out _).set HLQ.out _).set HLQ.out _).set HLP.out _).set HLP.out _).drew
end Sm
end Go.Proofs.Ytagcpphkabkgjaa
