/-
  What the laws' makes, errs, of, awake answer, and ShareKnown. Conditions: the amounts are words.
-/
import Derived.Test.YtmfajljgcndgfaaSh6
namespace Go.Proofs.Ytmfajljgcndgfaa
open Go.RowKit Go.Shelf
set_option linter.unusedVariables false
namespace Sh
open Fix

theorem makes (k T S x A B C : Int) (w : World) (hT : dT k T S x = A) (hS : dS k T S x = B) (hN : dN k T S x = C) (hE : dE k T S x = 0) (t0 : 0 ≤ T) (t1 : T ≤ 18446744073709551615) (s0 : 0 ≤ S) (s1 : S ≤ 18446744073709551615) (x0 : 0 ≤ x) (x1 : x ≤ 18446744073709551615) :
    Calls Try.prog 18 #[pV T S, .int .i64 k, .int .u64 x, pV A B, .int .u64 C] w fun r w' => r = .returned (.bool true) ∧ Bel w w' := by
  have DO := Lib.hid (fun W => does k T S x W t0 t1 s0 s1 x0 x1)
  rw [hT, hS, hN, hE] at DO
  clear hT hS hN hE t0 t1 s0 s1 x0 x1
  go_enter Try.func18, Try.ntmps18
  go_wp2_with fail
  refine (DO.out _).mono ?_
  rintro e w1 ⟨rfl, kb⟩
  have c0 := cell_bel (b := w.heap.size + 1) (o := 0) (v := .int .u64 A) (by simp) kb
  have c1 := cell_bel (b := w.heap.size + 1) (o := 1) (v := .int .u64 B) (by simp) kb
  have K := Lib.hid ((((Bel.refl w).alloc (.cells #[.int .u64 T, .int .u64 S] 24)).alloc (.cells #[.int .u64 A, .int .u64 B] 24)).trans kb)
  have hlt : w.heap.size + 1 < w1.heap.size := World.block_lt_of_cell? w1 ⟨w.heap.size + 1, 0, none⟩ c0
  clear kb
  obtain ⟨p, hp⟩ : ∃ p, w.heap.size + 1 = p := ⟨_, rfl⟩
  rw [hp] at c0 c1 hlt ⊢
  clear hp
  go_wp2_with fail
  go_ret
  exact ⟨rfl, K.out.alloc _⟩
theorem errs (k T S x F : Int) (w : World) (hT : dT k T S x = 0) (hS : dS k T S x = 0) (hN : dN k T S x = 0) (hE : dE k T S x = F) (t0 : 0 ≤ T) (t1 : T ≤ 18446744073709551615) (s0 : 0 ≤ S) (s1 : S ≤ 18446744073709551615) (x0 : 0 ≤ x) (x1 : x ≤ 18446744073709551615) :
    Calls Try.prog 19 #[pV T S, .int .i64 k, .int .u64 x, .int .i64 F] w fun r w' => r = .returned (.bool true) ∧ Bel w w' := by
  have DO := Lib.hid (fun W => does k T S x W t0 t1 s0 s1 x0 x1)
  rw [hT, hS, hN, hE] at DO
  clear hT hS hN hE t0 t1 s0 s1 x0 x1
  go_enter Try.func19, Try.ntmps19
  go_wp2_with fail
  refine (DO.out _).mono ?_
  rintro e w1 ⟨rfl, kb⟩
  have K := Lib.hid (((Bel.refl w).alloc (.cells #[.int .u64 T, .int .u64 S] 24)).trans kb)
  clear kb
  go_wp2_with fail
  go_ret
  exact ⟨rfl, K.out.alloc _⟩

/-- The laws' pool that may be. -/
def oT (t : Int) : Int := t % 4611686018427387905
def oS (t s : Int) : Int := if oT t = 0 then 0 else if s < oT t then oT t + s % oT t else s
theorem of_ok {t s : Int} (t0 : 0 ≤ t) (s0 : 0 ≤ s) (s1 : s ≤ 18446744073709551615) : 0 ≤ oT t ∧ oT t ≤ 4611686018427387904 ∧ oT t ≤ oS t s ∧ oS t s ≤ 18446744073709551615 ∧ (oT t = 0 → oS t s = 0) := by
  have h0 : 0 ≤ oT t := Int.emod_nonneg t (by decide)
  have h1 : oT t < 4611686018427387905 := Int.emod_lt_of_pos t (by decide)
  refine ⟨h0, by omega, ?_⟩
  unfold oS
  split
  · exact ⟨by omega, by omega, fun _ => rfl⟩
  · have h2 := Int.emod_nonneg s (b := oT t) (by omega)
    have h3 := Int.emod_lt_of_pos s (b := oT t) (by omega)
    split
    · exact ⟨by omega, by omega, fun h => absurd h ‹_›⟩
    · exact ⟨by omega, by omega, fun h => absurd h ‹_›⟩
theorem Ou.start0 (w : World) : Ou w (w.alloc (.cells #[.int .u64 0, .int .u64 0] 24)) w.heap.size := ⟨(Bel.refl _).alloc _, Kk.Blk.new _ _ _, Nat.le_refl _⟩
theorem res_c {fn : Func} {p : Tmp} {tp : TypeId} (h : fn.results = #[.cell p tp]) (tmps : Array Value) (w : World) (a : Addr) (X : Value)
    (hp : tmps.getD p undef = .pointer (some a)) (hX : (loadVar tp a).run Try.prog w = .ok X w) : (results fn tmps).run Try.prog w = .ok X w := by
  have hp' : tmps[p]?.getD undef = .pointer (some a) := by simpa using hp
  simp [results, h, hp', asAddr, hX]
set_option maxHeartbeats 1000000 in
theorem of (t s : Int) (w : World) (t0 : 0 ≤ t) (t1 : t ≤ 18446744073709551615) (s0 : 0 ≤ s) (s1 : s ≤ 18446744073709551615) :
    Calls Try.prog 20 #[.int .u64 t, .int .u64 s] w fun r w' => r = .returned (pV (oT t) (oS t s)) ∧ Bel w w' := by
  have e1 : IntKind.u64.wrap (t.tmod 4611686018427387905) = oT t := by
    rw [Int.tmod_eq_emod_of_nonneg t0, IntKind.wrap_u64]
    show t % 4611686018427387905 % 18446744073709551616 = t % 4611686018427387905
    omega
  have e2 : t.tmod 4611686018427387905 = oT t := Int.tmod_eq_emod_of_nonneg t0
  obtain ⟨g0, g1, g2, g3, g4⟩ := of_ok (s := s) t0 s0 s1
  have I0 := Lib.hid (Ou.start0 w)
  obtain ⟨T, hT⟩ : ∃ T, oT t = T := ⟨_, rfl⟩
  have OS := Lib.hid (show oS t s = if T = 0 then 0 else if s < T then T + s % T else s from by rw [← hT]; rfl)
  rw [hT] at e1 e2 g0 g1 g2 g4
  have HT := Lib.hid hT
  have G := Lib.hid (And.intro g2 g3)
  clear hT g2 g3 g4
  go_enter Try.func20, Try.ntmps20
  go_upto_region 2 with fail
  obtain ⟨W, hW⟩ : ∃ W, w.alloc (.cells #[.int .u64 0, .int .u64 0] 24) = W := ⟨_, rfl⟩
  obtain ⟨q, hq⟩ : ∃ q, w.heap.size = q := ⟨_, rfl⟩
  rw [hW, hq] at I0
  rw [hW, hq]
  clear hW hq
  obtain ⟨f0, f1, f2, f3⟩ : W.cell? ⟨q, 0, none⟩ = some (.int .u64 0) ∧ W.cell? ⟨q, 1, none⟩ = some (.int .u64 0) ∧ W.frozen? ⟨q, 0, none⟩ = false ∧ W.frozen? ⟨q, 1, none⟩ = false := ⟨I0.out.2.1.cell 0 rfl, I0.out.2.1.cell 1 rfl, I0.out.2.1.frozen 0, I0.out.2.1.frozen 1⟩
  clear e2
  by_cases h0 : T = 0
  · subst h0
    have E := Lib.hid (OS.out.trans (if_pos rfl))
    go_wp2_with fail
    refine bodyPost_ret (v := pV 0 0) (res_c rfl _ _ ⟨q, 0, none⟩ _ rfl (I0.out.load0 _ _)) rfl ⟨by rw [HT.out, E.out], I0.out.end_ _ _⟩
  · have h1 : (T == 0) = false := by simpa using h0
    by_cases hs : s < T
    · have m0 := Int.emod_nonneg s (b := T) (by omega)
      have m1 := Int.emod_lt_of_pos s (b := T) (by omega)
      have e3 : s.tmod T = s % T := Int.tmod_eq_emod_of_nonneg s0
      have e4 : IntKind.u64.wrap (s % T) = s % T := by rw [IntKind.wrap_u64]; omega
      have e5 : IntKind.u64.wrap (T + s % T) = T + s % T := by rw [IntKind.wrap_u64]; omega
      have E := Lib.hid (OS.out.trans ((if_neg h0).trans (if_pos hs)))
      clear e1
      go_wp2_with fail
      refine (pool _ _ _).mono ?_
      rintro e w1 ⟨rfl, kb⟩
      have I1 := Lib.hid (I0.out.up kb)
      clear f0 f1 f2 f3 kb
      obtain ⟨f0, f1, f2, f3⟩ : w1.cell? ⟨q, 0, none⟩ = some (.int .u64 0) ∧ w1.cell? ⟨q, 1, none⟩ = some (.int .u64 0) ∧ w1.frozen? ⟨q, 0, none⟩ = false ∧ w1.frozen? ⟨q, 1, none⟩ = false := ⟨I1.out.2.1.cell 0 rfl, I1.out.2.1.cell 1 rfl, I1.out.2.1.frozen 0, I1.out.2.1.frozen 1⟩
      go_wp2_with fail
      refine bodyPost_ret (res_c rfl _ _ ⟨q, 0, none⟩ _ rfl (I1.out.load0 _ _)) rfl ⟨?_, I1.out.end_ _ _⟩
      rw [HT.out, E.out]
    · have E := Lib.hid (OS.out.trans ((if_neg h0).trans (if_neg hs)))
      clear e1
      go_wp2_with fail
      refine (pool _ _ _).mono ?_
      rintro e w1 ⟨rfl, kb⟩
      have I1 := Lib.hid (I0.out.up kb)
      clear f0 f1 f2 f3 kb
      obtain ⟨f0, f1, f2, f3⟩ : w1.cell? ⟨q, 0, none⟩ = some (.int .u64 0) ∧ w1.cell? ⟨q, 1, none⟩ = some (.int .u64 0) ∧ w1.frozen? ⟨q, 0, none⟩ = false ∧ w1.frozen? ⟨q, 1, none⟩ = false := ⟨I1.out.2.1.cell 0 rfl, I1.out.2.1.cell 1 rfl, I1.out.2.1.frozen 0, I1.out.2.1.frozen 1⟩
      go_wp2_with fail
      refine bodyPost_ret (res_c rfl _ _ ⟨q, 0, none⟩ _ rfl (I1.out.load0 _ _)) rfl ⟨?_, I1.out.end_ _ _⟩
      rw [HT.out, E.out]

theorem v4 : valN 9 10 5 = 4 ∧ valE 9 10 5 = 0 ∧ chk 0 1 = 11 := by decide +kernel
set_option maxHeartbeats 1000000 in
theorem awake (w : World) : Calls Try.prog 8 #[] w fun r w' => r = .returned (.bool true) ∧ Bel w w' := by
  have hb := Bel.refl w
  obtain ⟨h1, h2, h3⟩ := v4
  go_enter Try.func8, Try.ntmps8
  go_wp2_with (first | (go_at_call 17; refine (pool _ _ _).mono ?_; rintro e w9 ⟨rfl, kb⟩; have hb := Bel.trans hb kb) | (go_at_call 9; refine (valueE _ _ _ _ (by decide +kernel) (by decide +kernel) (by decide +kernel) (by decide +kernel) (by decide +kernel) (by decide +kernel)).mono ?_; rintro e w9 ⟨rfl, kb⟩; have hb := Bel.trans hb kb) | (go_at_call 13; refine (checkE _ _ _ (by decide +kernel) (by decide +kernel)).mono ?_; rintro e w9 ⟨rfl, kb⟩; have hb := Bel.trans hb kb) | (go_at_call 18; refine (makes _ _ _ _ _ _ _ _ (by decide +kernel) (by decide +kernel) (by decide +kernel) (by decide +kernel) (by decide +kernel) (by decide +kernel) (by decide +kernel) (by decide +kernel) (by decide +kernel) (by decide +kernel)).mono ?_; rintro e w9 ⟨rfl, kb⟩; have hb := Bel.trans hb kb))
  go_ret
  exact ⟨rfl, hb⟩

theorem v5 : chk 10 9 = 9 ∧ chk 4611686018427387905 9223372036854775808 = 12 ∧ chk 0 0 = 0 ∧ valN 0 0 0 = 0 ∧ valE 0 0 0 = 0 ∧ valE 0 0 1 = 13 ∧ priN 9 10 5 = 5 ∧ priE 9 10 5 = 0 ∧ priE 1 9223372036854775808 2 = 12 := by decide +kernel
set_option maxRecDepth 10000 in
set_option maxHeartbeats 4000000 in
theorem known (w : World) : Calls Try.prog 4 #[] w fun r w' => r = .returned (.bool true) ∧ Bel w w' := by
  obtain ⟨h1, h2, h3, h4, h5, h6, h7, h8, h9⟩ := v5
  go_enter Try.func4, Try.ntmps4
  go_upto_region 1 with fail
  go_wp2_with fail
  refine (pool _ _ _).mono ?_
  rintro e w1 ⟨rfl, kb⟩
  go_upto_region 2 with fail
  have hA : Bel w ((w1.alloc (.cells #[.int .u64 9, .int .u64 10] 24)).drew) ∧ ((w1.alloc (.cells #[.int .u64 9, .int .u64 10] 24)).drew).cell? ⟨w1.heap.size, 0, none⟩ = some (.int .u64 9) ∧ ((w1.alloc (.cells #[.int .u64 9, .int .u64 10] 24)).drew).cell? ⟨w1.heap.size, 1, none⟩ = some (.int .u64 10) := ⟨(kb.alloc _).drew, by simp, by simp⟩
  obtain ⟨p, hp⟩ : ∃ p, w1.heap.size = p := ⟨_, rfl⟩
  obtain ⟨W, hW⟩ : ∃ W, w1.alloc (.cells #[.int .u64 9, .int .u64 10] 24) = W := ⟨_, rfl⟩
  rw [hW, hp] at hA
  rw [hW, hp]
  clear hW hp kb
  have KEEP := Lib.hid (show ∀ V V' : World, (Bel w V ∧ V.cell? ⟨p, 0, none⟩ = some (.int .u64 9) ∧ V.cell? ⟨p, 1, none⟩ = some (.int .u64 10)) → Bel V V' → (Bel w V' ∧ V'.cell? ⟨p, 0, none⟩ = some (.int .u64 9) ∧ V'.cell? ⟨p, 1, none⟩ = some (.int .u64 10)) from
    fun V V' h hb => ⟨h.1.trans hb, cell_bel h.2.1 hb, cell_bel h.2.2 hb⟩)
  go_region_held3 (fun V => Bel w V ∧ V.cell? ⟨p, 0, none⟩ = some (.int .u64 9) ∧ V.cell? ⟨p, 1, none⟩ = some (.int .u64 10)) (first | assumption | exact KEEP.out _ _ (by assumption) (by assumption)) (first | (go_at_call 17; refine (pool _ _ _).mono ?_; rintro e w9 ⟨rfl, kb⟩) | (go_at_call 9; refine (valueE _ _ _ _ (by decide +kernel) (by decide +kernel) (by decide +kernel) (by decide +kernel) (by decide +kernel) (by decide +kernel)).mono ?_; rintro e w9 ⟨rfl, kb⟩) | (go_at_call 11; refine (priceE _ _ _ _ (by decide +kernel) (by decide +kernel) (by decide +kernel) (by decide +kernel) (by decide +kernel) (by decide +kernel)).mono ?_; rintro e w9 ⟨rfl, kb⟩) | (go_at_call 13; refine (checkE _ _ _ (by decide +kernel) (by decide +kernel)).mono ?_; rintro e w9 ⟨rfl, kb⟩) | (go_at_call 18; refine (makes _ _ _ _ _ _ _ _ (by decide +kernel) (by decide +kernel) (by decide +kernel) (by decide +kernel) (by decide +kernel) (by decide +kernel) (by decide +kernel) (by decide +kernel) (by decide +kernel) (by decide +kernel)).mono ?_; rintro e w9 ⟨rfl, kb⟩) | (go_at_call 19; refine (errs _ _ _ _ _ _ (by decide +kernel) (by decide +kernel) (by decide +kernel) (by decide +kernel) (by decide +kernel) (by decide +kernel) (by decide +kernel) (by decide +kernel) (by decide +kernel) (by decide +kernel)).mono ?_; rintro e w9 ⟨rfl, kb⟩) | (go_at_call 8; refine (awake _).mono ?_; rintro e w9 ⟨rfl, kb⟩))
  rename_i hA
  go_upto_region 3 with fail
  have hA := KEEP.out _ _ hA (Bel.refl _).drew
  go_region_held3 (fun V => Bel w V ∧ V.cell? ⟨p, 0, none⟩ = some (.int .u64 9) ∧ V.cell? ⟨p, 1, none⟩ = some (.int .u64 10)) (first | assumption | exact KEEP.out _ _ (by assumption) (by assumption)) (first | (go_at_call 17; refine (pool _ _ _).mono ?_; rintro e w9 ⟨rfl, kb⟩) | (go_at_call 9; refine (valueE _ _ _ _ (by decide +kernel) (by decide +kernel) (by decide +kernel) (by decide +kernel) (by decide +kernel) (by decide +kernel)).mono ?_; rintro e w9 ⟨rfl, kb⟩) | (go_at_call 11; refine (priceE _ _ _ _ (by decide +kernel) (by decide +kernel) (by decide +kernel) (by decide +kernel) (by decide +kernel) (by decide +kernel)).mono ?_; rintro e w9 ⟨rfl, kb⟩) | (go_at_call 13; refine (checkE _ _ _ (by decide +kernel) (by decide +kernel)).mono ?_; rintro e w9 ⟨rfl, kb⟩) | (go_at_call 18; refine (makes _ _ _ _ _ _ _ _ (by decide +kernel) (by decide +kernel) (by decide +kernel) (by decide +kernel) (by decide +kernel) (by decide +kernel) (by decide +kernel) (by decide +kernel) (by decide +kernel) (by decide +kernel)).mono ?_; rintro e w9 ⟨rfl, kb⟩) | (go_at_call 19; refine (errs _ _ _ _ _ _ (by decide +kernel) (by decide +kernel) (by decide +kernel) (by decide +kernel) (by decide +kernel) (by decide +kernel) (by decide +kernel) (by decide +kernel) (by decide +kernel) (by decide +kernel)).mono ?_; rintro e w9 ⟨rfl, kb⟩) | (go_at_call 8; refine (awake _).mono ?_; rintro e w9 ⟨rfl, kb⟩))
  rename_i hA
  have c0 := hA.2.1
  have c1 := hA.2.2
  go_wp2_with (first | (go_at_call 17; refine (pool _ _ _).mono ?_; rintro e w9 ⟨rfl, kb⟩; have hA := KEEP.out _ _ hA kb; have c0 := hA.2.1; have c1 := hA.2.2) | (go_at_call 9; refine (valueE _ _ _ _ (by decide +kernel) (by decide +kernel) (by decide +kernel) (by decide +kernel) (by decide +kernel) (by decide +kernel)).mono ?_; rintro e w9 ⟨rfl, kb⟩; have hA := KEEP.out _ _ hA kb; have c0 := hA.2.1; have c1 := hA.2.2) | (go_at_call 11; refine (priceE _ _ _ _ (by decide +kernel) (by decide +kernel) (by decide +kernel) (by decide +kernel) (by decide +kernel) (by decide +kernel)).mono ?_; rintro e w9 ⟨rfl, kb⟩; have hA := KEEP.out _ _ hA kb; have c0 := hA.2.1; have c1 := hA.2.2) | (go_at_call 13; refine (checkE _ _ _ (by decide +kernel) (by decide +kernel)).mono ?_; rintro e w9 ⟨rfl, kb⟩; have hA := KEEP.out _ _ hA kb; have c0 := hA.2.1; have c1 := hA.2.2) | (go_at_call 18; refine (makes _ _ _ _ _ _ _ _ (by decide +kernel) (by decide +kernel) (by decide +kernel) (by decide +kernel) (by decide +kernel) (by decide +kernel) (by decide +kernel) (by decide +kernel) (by decide +kernel) (by decide +kernel)).mono ?_; rintro e w9 ⟨rfl, kb⟩; have hA := KEEP.out _ _ hA kb; have c0 := hA.2.1; have c1 := hA.2.2) | (go_at_call 19; refine (errs _ _ _ _ _ _ (by decide +kernel) (by decide +kernel) (by decide +kernel) (by decide +kernel) (by decide +kernel) (by decide +kernel) (by decide +kernel) (by decide +kernel) (by decide +kernel) (by decide +kernel)).mono ?_; rintro e w9 ⟨rfl, kb⟩; have hA := KEEP.out _ _ hA kb; have c0 := hA.2.1; have c1 := hA.2.2) | (go_at_call 8; refine (awake _).mono ?_; rintro e w9 ⟨rfl, kb⟩; have hA := KEEP.out _ _ hA kb; have c0 := hA.2.1; have c1 := hA.2.2))
  go_ret
  exact ⟨rfl, hA.1⟩

end Sh
end Go.Proofs.Ytmfajljgcndgfaa
