/-
  What stamp.Put makes of any writer, and what stamp.Bytes answers. Conditions: the writer is one that NewWriter made, or none.
-/
import Derived.Test.YtagcpphkabkgjaaSm1b
import Derived.Test.YtagcpphkabkgjaaWriter3
import Derived.Test.YtagcpphkabkgjaaNone0
namespace Go.Proofs.Ytagcpphkabkgjaa
open Go.RowKit Go.Shelf
set_option linter.unusedVariables false
namespace Sm
open Cd

/-- A stamp's bytes. -/
def enc4 (a b c d : Int) : List Int := enc a ++ enc b ++ enc (c + 1) ++ enc d
/-- What a writer is behind a stamp. -/
def put4 (L : Int) (s : List Int × Int) (a b c d : Int) : List Int × Int :=
  if ck a b c d = 0 then stp L (stp L (stp L (stp L s (enc a)) (enc b)) (enc (c + 1))) (enc d) else s
theorem ck_ok {a b c d : Int} (h : ck a b c d = 0) : 0 ≤ a ∧ a ≤ 31 ∧ 1 ≤ b ∧ b ≤ 4294967296 ∧ -1 ≤ c ∧ c ≤ 31 ∧ 0 ≤ d ∧ d ≤ 4294967296 ∧ c ≠ a ∧ ((c = -1 ∧ d = 0) ∨ (c ≠ -1 ∧ d ≠ 0)) ∧ d ≤ b := by
  unfold ck at h
  split at h
  · cases h
  split at h
  · cases h
  split at h
  · cases h
  split at h
  · cases h
  omega

set_option maxHeartbeats 1000000 in
theorem refusal (b : Nat) (L : Int) (v : Value) (s : List Int × Int) (base : Nat) (e : Int) (w : World) (h : WS w b L v s.2 s.1 base) (h1 : s.2 ≠ 1) :
    Calls Try.prog 43 #[.pointer (some ⟨b, 0, none⟩), .int .i64 e] w fun r w' => r = .returned (.int .i64 e) ∧ Bel w w' := by
  obtain ⟨out, f⟩ := s
  by_cases hf : f = 0
  · subst hf
    have DN := Lib.hid (wdone b L v out base w h)
    clear h h1
    go_enter Try.func43, Try.ntmps43
    go_wp2_with fail
    refine (DN.out).mono ?_
    rintro r w1 ⟨u, rfl, hu⟩
    have KB := Lib.hid hu.2
    clear hu
    go_wp2_with fail
    go_ret
    exact ⟨rfl, KB.out⟩
  · have DN := Lib.hid (wdone_err b L v f out base w h hf)
    have f1 : (f == 1) = false := beq_eq_false_iff_ne.2 h1
    clear h h1 hf
    go_enter Try.func43, Try.ntmps43
    go_wp2_with fail
    refine (DN.out).mono ?_
    rintro r w1 ⟨rfl, rfl⟩
    go_wp2_with fail
    go_ret
    exact ⟨rfl, Bel.refl _⟩
theorem refusal0 (v : Value) (e : Int) (w : World) (h : Null w v) :
    Calls Try.prog 43 #[v, .int .i64 e] w fun r w' => r = .returned (.int .i64 1) ∧ Bel w w' := by
  have DN := Lib.hid (wDone0 v w h)
  clear h
  go_enter Try.func43, Try.ntmps43
  go_wp2_with fail
  refine (DN.out).mono ?_
  rintro r w1 ⟨rfl, rfl⟩
  go_wp2_with fail
  go_ret
  exact ⟨rfl, Bel.refl _⟩

set_option maxRecDepth 10000 in
set_option maxHeartbeats 2000000 in
theorem put (b : Nat) (L : Int) (v : Value) (s : List Int × Int) (base : Nat) (x1 x2 x3 x4 : Int) (w : World) (h : WS w b L v s.2 s.1 base) (h1 : s.2 ≠ 1) :
    Calls Try.prog 19 #[.pointer (some ⟨b, 0, none⟩), stV x1 x2 x3 x4] w fun r w' => r = .returned (.int .i64 (if ck x1 x2 x3 x4 = 0 then (put4 L s x1 x2 x3 x4).2 else ck x1 x2 x3 x4)) ∧
      ∃ v', WS w' b L v' (put4 L s x1 x2 x3 x4).2 (put4 L s x1 x2 x3 x4).1 base ∧ Lies w v v' ∧ Kep (Own2 b v) w w' := by
  have CK := Lib.hid (fun W => check x1 x2 x3 x4 W)
  have P0 := Lib.hid (Blk.new w #[.int .i64 x1, .int .i64 x2, .int .i64 x3, .int .i64 x4] 23)
  have B0 := Lib.hid ((Bel.refl w).alloc (.cells #[.int .i64 x1, .int .i64 x2, .int .i64 x3, .int .i64 x4] 23))
  have H := Lib.hid h
  have hbl := h.blk.lt
  have hrl := h.row_lt
  have HBL := Lib.hid hbl
  have HRL := Lib.hid hrl
  clear h hbl hrl
  obtain ⟨p, hp⟩ : ∃ p, w.heap.size = p := ⟨_, rfl⟩
  obtain ⟨W, hW⟩ : ∃ W, w.alloc (.cells #[.int .i64 x1, .int .i64 x2, .int .i64 x3, .int .i64 x4] 23) = W := ⟨_, rfl⟩
  rw [hW, hp] at P0
  rw [hW] at B0
  rw [hp] at HBL HRL
  have HW := Lib.hid hW
  have HP := Lib.hid hp
  clear hW hp
  by_cases h0 : ck x1 x2 x3 x4 = 0
  · have e0 : put4 L s x1 x2 x3 x4 = stp L (stp L (stp L (stp L s (enc x1)) (enc x2)) (enc (x3 + 1))) (enc x4) := by unfold put4; rw [if_pos h0]
    rw [e0, if_pos h0]
    obtain ⟨a0, a1, b0, b1, c0, c1, d0, d1, -, -, -⟩ := ck_ok h0
    rw [h0] at CK
    have N1 := Lib.hid (fun V (hv : Bel w V) => nAny b L v s base x1 V (H.out.bel hv) a0 (by omega))
    obtain ⟨s1, hs1⟩ : ∃ q, stp L s (enc x1) = q := ⟨_, rfl⟩
    rw [hs1] at N1
    have N2 := Lib.hid (fun V v1 (hv : WS V b L v1 s1.2 s1.1 base) => nAny b L v1 s1 base x2 V hv (by omega) (by omega))
    obtain ⟨s2, hs2⟩ : ∃ q, stp L s1 (enc x2) = q := ⟨_, rfl⟩
    rw [hs2] at N2
    have N3 := Lib.hid (fun V v1 (hv : WS V b L v1 s2.2 s2.1 base) => nAny b L v1 s2 base (x3 + 1) V hv (by omega) (by omega))
    obtain ⟨s3, hs3⟩ : ∃ q, stp L s2 (enc (x3 + 1)) = q := ⟨_, rfl⟩
    rw [hs3] at N3
    have N4 := Lib.hid (fun V v1 (hv : WS V b L v1 s3.2 s3.1 base) => nAny b L v1 s3 base x4 V hv d0 (by omega))
    obtain ⟨s4, hs4⟩ : ∃ q, stp L s3 (enc x4) = q := ⟨_, rfl⟩
    rw [hs4] at N4
    rw [hs1, hs2, hs3, hs4]
    clear hs1 hs2 hs3 hs4 e0 h0
    have w3 : IntKind.i64.wrap (x3 + 1) = x3 + 1 := IntWalk.i64_in _ (by omega)
    clear a0 a1 b0 b1 c0 c1 d0 d1
    go_enter Try.func19, Try.ntmps19
    go_upto_region 1 with fail
    rw [HW.out, HP.out]
    have c0 := P0.out.cell 0 rfl
    have c1 := P0.out.cell 1 rfl
    have c2 := P0.out.cell 2 rfl
    have c3 := P0.out.cell 3 rfl
    go_wp2_with fail
    refine (CK.out _).mono ?_
    rintro r w1 ⟨rfl, kb⟩
    have K1 := Lib.hid (B0.out.trans kb)
    have P1 := Lib.hid (P0.out.bel kb)
    clear kb c0 c1 c2 c3
    have c0 := P1.out.cell 0 rfl
    go_wp2_with fail
    refine (N1.out _ K1.out).mono ?_
    rintro r w2 ⟨rfl, v1, g1, l1, k1⟩
    have G1 := Lib.hid g1
    have L1 := Lib.hid (show Lies w v v1 from fun g hg => (l1 g hg).imp id (fun h => Nat.le_trans (Below.size K1.out) h))
    have KK1 := Lib.hid ((Kep.of_bel (S := Own2 b v) K1.out).trans k1)
    have P2 := Lib.hid (P1.out.kep k1 (by rintro (h | h); have := HBL.out; omega; have := HRL.out _ h; omega))
    clear g1 l1 k1 c0
    have c1 := P2.out.cell 1 rfl
    go_wp2_with fail
    refine (N2.out _ v1 G1.out).mono ?_
    rintro r w3 ⟨rfl, v2, g1, l1, k1⟩
    have G2 := Lib.hid g1
    have L2 := Lib.hid (L1.out.trans l1 KK1.out.size)
    have KK2 := Lib.hid (kep_lies KK1.out L1.out k1)
    have P3 := Lib.hid (P2.out.kep k1 (by rintro (h | h); have := HBL.out; omega; exact P2.out.not_row (by decide) G1.out.row h))
    clear g1 l1 k1 c1
    have c2 := P3.out.cell 2 rfl
    go_wp2_with fail
    refine (N3.out _ v2 G2.out).mono ?_
    rintro r w4 ⟨rfl, v3, g1, l1, k1⟩
    have G3 := Lib.hid g1
    have L3 := Lib.hid (L2.out.trans l1 KK2.out.size)
    have KK3 := Lib.hid (kep_lies KK2.out L2.out k1)
    have P4 := Lib.hid (P3.out.kep k1 (by rintro (h | h); have := HBL.out; omega; exact P3.out.not_row (by decide) G2.out.row h))
    clear g1 l1 k1 c2
    have c3 := P4.out.cell 3 rfl
    go_wp2_with fail
    refine (N4.out _ v3 G3.out).mono ?_
    rintro r w5 ⟨rfl, v4, g1, l1, k1⟩
    have G4 := Lib.hid g1
    have L4 := Lib.hid (L3.out.trans l1 KK3.out.size)
    have KK4 := Lib.hid (kep_lies KK3.out L3.out k1)
    clear g1 l1 k1 c3
    go_wp2_with fail
    go_ret
    exact ⟨rfl, v4, G4.out, L4.out, KK4.out⟩
  · have e0 : put4 L s x1 x2 x3 x4 = s := by unfold put4; rw [if_neg h0]
    rw [e0, if_neg h0]
    obtain ⟨e, he⟩ : ∃ e, ck x1 x2 x3 x4 = e := ⟨_, rfl⟩
    rw [he] at CK h0 ⊢
    have he1 : (e != 0) = true := by rw [bne_iff_ne]; exact h0
    have RF := Lib.hid (fun V (hv : Bel w V) => refusal b L v s base e V (H.out.bel hv) h1)
    clear he e0 h0 h1
    go_enter Try.func19, Try.ntmps19
    go_upto_region 1 with fail
    rw [HW.out, HP.out]
    have c0 := P0.out.cell 0 rfl
    have c1 := P0.out.cell 1 rfl
    have c2 := P0.out.cell 2 rfl
    have c3 := P0.out.cell 3 rfl
    go_wp2_with fail
    refine (CK.out _).mono ?_
    rintro r w1 ⟨rfl, kb⟩
    have K1 := Lib.hid (B0.out.trans kb)
    clear kb c0 c1 c2 c3
    go_wp2_with fail
    refine (RF.out _ K1.out).mono ?_
    rintro r w2 ⟨rfl, kb⟩
    have K2 := Lib.hid (K1.out.trans kb)
    clear kb
    go_wp2_with fail
    go_ret
    exact ⟨rfl, v, H.out.bel K2.out, Lies.refl _ _, Kep.of_bel K2.out⟩

set_option maxHeartbeats 1000000 in
theorem put0 (v : Value) (x1 x2 x3 x4 : Int) (w : World) (h : Null w v) :
    Calls Try.prog 19 #[v, stV x1 x2 x3 x4] w fun r w' => r = .returned (.int .i64 1) ∧ Bel w w' := by
  have CK := Lib.hid (fun W => check x1 x2 x3 x4 W)
  have P0 := Lib.hid (Blk.new w #[.int .i64 x1, .int .i64 x2, .int .i64 x3, .int .i64 x4] 23)
  have B0 := Lib.hid ((Bel.refl w).alloc (.cells #[.int .i64 x1, .int .i64 x2, .int .i64 x3, .int .i64 x4] 23))
  obtain ⟨W, hW⟩ : ∃ W, w.alloc (.cells #[.int .i64 x1, .int .i64 x2, .int .i64 x3, .int .i64 x4] 23) = W := ⟨_, rfl⟩
  obtain ⟨p, hp⟩ : ∃ p, w.heap.size = p := ⟨_, rfl⟩
  rw [hW, hp] at P0
  rw [hW] at B0
  have HW := Lib.hid hW
  have HP := Lib.hid hp
  have RF := Lib.hid (fun V e (hv : Bel w V) => refusal0 v e V (h.bel hv))
  have NN := Lib.hid (fun V x (hv : Bel w V) => wN0 v x V (h.bel hv))
  obtain ⟨e, he⟩ : ∃ e, ck x1 x2 x3 x4 = e := ⟨_, rfl⟩
  have HC := Lib.hid (fun h0 : e = 0 => ck_ok (he.trans h0))
  rw [he] at CK
  clear hW hp h he
  go_enter Try.func19, Try.ntmps19
  go_upto_region 1 with fail
  rw [HW.out, HP.out]
  have c0 := P0.out.cell 0 rfl
  have c1 := P0.out.cell 1 rfl
  have c2 := P0.out.cell 2 rfl
  have c3 := P0.out.cell 3 rfl
  go_wp2_with fail
  refine (CK.out _).mono ?_
  rintro r w1 ⟨rfl, kb⟩
  have K1 := Lib.hid (B0.out.trans kb)
  have P1 := P0.out.bel kb
  clear kb c0 c1 c2 c3
  by_cases h0 : e = 0
  · have w3 : IntKind.i64.wrap (x3 + 1) = x3 + 1 := IntWalk.i64_in _ (by have := HC.out h0; omega)
    subst h0
    have c0 := P1.cell 0 rfl
    have c1 := P1.cell 1 rfl
    have c2 := P1.cell 2 rfl
    have c3 := P1.cell 3 rfl
    go_wp2_with fail
    refine (NN.out _ _ K1.out).mono ?_
    rintro r w2 ⟨rfl, rfl⟩
    go_wp2_with fail
    refine (NN.out _ _ K1.out).mono ?_
    rintro r w2 ⟨rfl, rfl⟩
    go_wp2_with fail
    refine (NN.out _ _ K1.out).mono ?_
    rintro r w2 ⟨rfl, rfl⟩
    go_wp2_with fail
    refine (NN.out _ _ K1.out).mono ?_
    rintro r w2 ⟨rfl, rfl⟩
    go_wp2_with fail
    go_ret
    exact ⟨rfl, K1.out⟩
  · have he1 : (e != 0) = true := by rw [bne_iff_ne]; exact h0
    clear h0
    go_wp2_with fail
    refine (RF.out _ _ K1.out).mono ?_
    rintro r w2 ⟨rfl, kb⟩
    have K2 := Lib.hid (K1.out.trans kb)
    clear kb
    go_wp2_with fail
    go_ret
    exact ⟨rfl, K2.out⟩

/-- What Bytes tells. -/
def bytesN (a b c d : Int) : List Int := if ck a b c d = 0 then enc4 a b c d else []
theorem enc4_len (a b c d : Int) : (enc4 a b c d).length ≤ 40 := by
  have h1 := (enc_len a).2
  have h2 := (enc_len b).2
  have h3 := (enc_len (c + 1)).2
  have h4 := (enc_len d).2
  unfold enc4
  simp only [List.length_append]
  omega
theorem stp_ok {L : Int} {out more : List Int} (h : ((out ++ more).length : Int) ≤ L) : stp L (out, 0) more = (out ++ more, 0) := by unfold stp; rw [if_neg (by simp), if_pos h]
theorem put4_ok {a b c d : Int} (h : ck a b c d = 0) : put4 1048576 ([], 0) a b c d = (enc4 a b c d, 0) := by
  have h1 := (enc_len a).2
  have h2 := (enc_len b).2
  have h3 := (enc_len (c + 1)).2
  have h4 := (enc_len d).2
  unfold put4 enc4
  rw [if_pos h, stp_ok (by simp only [List.length_append, List.length_nil]; omega), stp_ok (by simp only [List.length_append, List.length_nil]; omega), stp_ok (by simp only [List.length_append, List.length_nil]; omega), stp_ok (by simp only [List.length_append, List.length_nil]; omega)]
  simp
set_option maxRecDepth 10000 in
set_option maxHeartbeats 2000000 in
theorem bytes (x1 x2 x3 x4 : Int) (w : World) :
    Calls Try.prog 9 #[stV x1 x2 x3 x4] w fun r w' => ∃ v, r = .returned (.tuple #[v, .int .i64 (ck x1 x2 x3 x4)]) ∧ Fresh w w' v (bytesN x1 x2 x3 x4) := by
  have P0 := Lib.hid (Blk.new w #[.int .i64 x1, .int .i64 x2, .int .i64 x3, .int .i64 x4] 23)
  have B0 := Lib.hid ((Bel.refl w).alloc (.cells #[.int .i64 x1, .int .i64 x2, .int .i64 x3, .int .i64 x4] 23))
  obtain ⟨W, hW⟩ : ∃ W, w.alloc (.cells #[.int .i64 x1, .int .i64 x2, .int .i64 x3, .int .i64 x4] 23) = W := ⟨_, rfl⟩
  obtain ⟨p, hp⟩ : ∃ p, w.heap.size = p := ⟨_, rfl⟩
  rw [hW, hp] at P0
  rw [hW] at B0
  have HW := Lib.hid hW
  have HP := Lib.hid hp
  clear hW hp
  obtain ⟨e, he⟩ : ∃ e, ck x1 x2 x3 x4 = e := ⟨_, rfl⟩
  obtain ⟨zs, hz⟩ : ∃ zs, bytesN x1 x2 x3 x4 = zs := ⟨_, rfl⟩
  rw [he, hz]
  have HE := Lib.hid he
  have HZ := Lib.hid hz
  clear he hz
  go_enter Try.func9, Try.ntmps9
  go_upto_region 1 with fail
  rw [HW.out, HP.out]
  go_wp2_with fail
  refine (newWriter 1048576 W (by decide) (by decide)).mono ?_
  rintro e w1 ⟨rfl, hws, k1⟩
  obtain ⟨b, hb⟩ : ∃ b, W.heap.size = b := ⟨_, rfl⟩
  rw [hb] at hws ⊢
  have HB := Lib.hid hb
  have K1 := Lib.hid (B0.out.trans k1)
  have P1 := Lib.hid (P0.out.bel k1)
  have PT := Lib.hid (put b 1048576 (.slice none 0 0) ([], 0) b x1 x2 x3 x4 w1 hws (by decide))
  have HSB := Lib.hid (show w.heap.size ≤ b by rw [← hb]; exact Below.size B0.out)
  clear hb hws k1
  have c0 := P1.out.cell 0 rfl
  have c1 := P1.out.cell 1 rfl
  have c2 := P1.out.cell 2 rfl
  have c3 := P1.out.cell 3 rfl
  by_cases h0 : e = 0
  · subst h0
    rw [HE.out, if_pos rfl, put4_ok HE.out] at PT
    obtain rfl : zs = enc4 x1 x2 x3 x4 := by rw [← HZ.out]; unfold bytesN; rw [if_pos HE.out]
    go_wp2_with fail
    refine (PT.out).mono ?_
    rintro e w2 ⟨rfl, v, hws, hl, hk⟩
    have DN := Lib.hid (wdone b 1048576 v _ b w2 hws)
    have K2 := Lib.hid (show Bel w w2 from Kep.bel K1.out hk (fun i hi => by
      rcases hi with rfl | hi
      · exact HSB.out
      · simp [Value.ownBlock] at hi))
    clear hws hl hk c0 c1 c2 c3
    go_wp2_with fail
    refine (DN.out).mono ?_
    rintro e w3 ⟨u, rfl, hu⟩
    have HU := Lib.hid (show Fresh w w3 u (enc4 x1 x2 x3 x4) from ⟨owns_mono hu.1 (Below.size K2.out), K2.out.trans hu.2⟩)
    clear hu
    go_wp2_with fail
    go_ret2
    exact ⟨u, rfl, HU.out⟩
  · rw [HE.out, if_neg h0] at PT
    obtain rfl : zs = [] := by rw [← HZ.out]; unfold bytesN; rw [if_neg (by rw [HE.out]; exact h0)]
    have he1 : (e != 0) = true := by rw [bne_iff_ne]; exact h0
    clear h0
    go_wp2_with fail
    refine (PT.out).mono ?_
    rintro e' w2 ⟨rfl, v, hws, hl, hk⟩
    have K2 := Lib.hid (show Bel w w2 from Kep.bel K1.out hk (fun i hi => by
      rcases hi with rfl | hi
      · exact HSB.out
      · simp [Value.ownBlock] at hi))
    clear hws hl hk c0 c1 c2 c3
    go_wp2_with fail
    go_ret2
    exact ⟨_, rfl, World.ownsRow_nil _ _ _ _, K2.out⟩
end Sm
end Go.Proofs.Ytagcpphkabkgjaa
