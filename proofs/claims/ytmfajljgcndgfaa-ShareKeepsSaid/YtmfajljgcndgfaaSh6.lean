/-
  What the laws' does, should, pool, makes, errs, of and awake answer. Conditions: the amounts are words.
-/
import Derived.Test.YtmfajljgcndgfaaSh5
namespace Go.Proofs.Ytmfajljgcndgfaa
open Go.RowKit Go.Shelf
set_option linter.unusedVariables false
namespace Sh
open Fix

/-- An act, as a value. -/
abbrev aV (k x : Int) : Value := .agg #[.int .i64 k, .int .u64 x]
def dE (k T S x : Int) : Int := if k = 0 then joiE T S x else if k = 1 then leaE T S x else if k = 2 then cutE T S x else 0
def dT (k T S x : Int) : Int := if k = 0 then joiT T S x else if k = 1 then leaT T S x else if k = 2 then cutT T S x else T
def dS (k T S x : Int) : Int := if k = 0 then joiS T S x else if k = 1 then leaS T S x else if k = 2 then cutS T S x else S
def dN (k T S x : Int) : Int := if k = 0 then joiN T S x else if k = 1 then leaN T S x else if k = 2 then cutN T S x else 0
theorem d0 (T S x : Int) : dE 0 T S x = joiE T S x ∧ dT 0 T S x = joiT T S x ∧ dS 0 T S x = joiS T S x ∧ dN 0 T S x = joiN T S x := ⟨rfl, rfl, rfl, rfl⟩
theorem d1 (T S x : Int) : dE 1 T S x = leaE T S x ∧ dT 1 T S x = leaT T S x ∧ dS 1 T S x = leaS T S x ∧ dN 1 T S x = leaN T S x := ⟨rfl, rfl, rfl, rfl⟩
theorem d2 (T S x : Int) : dE 2 T S x = cutE T S x ∧ dT 2 T S x = cutT T S x ∧ dS 2 T S x = cutS T S x ∧ dN 2 T S x = cutN T S x := ⟨rfl, rfl, rfl, rfl⟩
theorem d3 {k : Int} (T S x : Int) (h0 : ¬ k = 0) (h1 : ¬ k = 1) (h2 : ¬ k = 2) : dE k T S x = 0 ∧ dT k T S x = T ∧ dS k T S x = S ∧ dN k T S x = 0 := by
  unfold dE dT dS dN
  simp [h0, h1, h2]
theorem Ou.start2 (w : World) (T S k x : Int) : Ou w (((w.alloc (.cells #[.int .u64 T, .int .u64 S] 24)).alloc (.cells #[.int .i64 k, .int .u64 x] 34)).alloc (.cells #[.int .u64 0, .int .u64 0] 24)) (w.heap.size + 1 + 1) :=
  ⟨(((Bel.refl _).alloc _).alloc _).alloc _, by
    have := Kk.Blk.new ((w.alloc (.cells #[.int .u64 T, .int .u64 S] 24)).alloc (.cells #[.int .i64 k, .int .u64 x] 34)) #[.int .u64 0, .int .u64 0] 24
    simpa using this, by omega⟩
theorem Ou.load0 {w W : World} {q : Nat} (h : Ou w W q) (A B : Int) : (loadVar 24 ⟨q, 0, none⟩).run Try.prog ((W.setCell ⟨q, 0, none⟩ (.int .u64 A)).setCell ⟨q, 1, none⟩ (.int .u64 B)) = .ok (pV A B) ((W.setCell ⟨q, 0, none⟩ (.int .u64 A)).setCell ⟨q, 1, none⟩ (.int .u64 B)) :=
  Pm.load_b (C := [.int .u64 A, .int .u64 B]) ((h.2.1.set 0 _).set 1 _) Try.underlying24 rfl (by kernel_rfl)
theorem put_new (W : World) (A B : Int) (t : TypeId) : (W.alloc (.cells #[.int .u64 A, .int .u64 B] t)) = (W.alloc (.cells #[.int .u64 A, .int .u64 B] t)) := rfl
set_option maxRecDepth 10000 in
set_option maxHeartbeats 2000000 in
theorem does (k T S x : Int) (w : World) (t0 : 0 ≤ T) (t1 : T ≤ 18446744073709551615) (s0 : 0 ≤ S) (s1 : S ≤ 18446744073709551615) (x0 : 0 ≤ x) (x1 : x ≤ 18446744073709551615) :
    Calls Try.prog 15 #[pV T S, aV k x] w fun r w' => r = .returned (.tuple #[pV (dT k T S x) (dS k T S x), .int .u64 (dN k T S x), .int .i64 (dE k T S x)]) ∧ Bel w w' := by
  have I0 := Lib.hid (Ou.start2 w T S k x)
  have C0 := Lib.hid (fun W => joinX T S x W t0 t1 s0 s1 x0 x1)
  have C1 := Lib.hid (fun W => leaveX T S x W t0 t1 s0 s1 x0 x1)
  have C2 := Lib.hid (fun W => cutX T S x W t0 t1 s0 s1 x0 x1)
  clear t0 t1 s0 s1 x0 x1
  go_enter Try.func15, Try.ntmps15
  go_upto_region 1 with fail
  have c0 : (((w.alloc (.cells #[.int .u64 T, .int .u64 S] 24)).alloc (.cells #[.int .i64 k, .int .u64 x] 34)).alloc (.cells #[.int .u64 0, .int .u64 0] 24)).cell? ⟨w.heap.size, 0, none⟩ = some (.int .u64 T) := cell_bel (w := w.alloc (.cells #[.int .u64 T, .int .u64 S] 24)) (by simp) (((Bel.refl _).alloc _).alloc _)
  have c1 : (((w.alloc (.cells #[.int .u64 T, .int .u64 S] 24)).alloc (.cells #[.int .i64 k, .int .u64 x] 34)).alloc (.cells #[.int .u64 0, .int .u64 0] 24)).cell? ⟨w.heap.size, 1, none⟩ = some (.int .u64 S) := cell_bel (w := w.alloc (.cells #[.int .u64 T, .int .u64 S] 24)) (by simp) (((Bel.refl _).alloc _).alloc _)
  have c2 : (((w.alloc (.cells #[.int .u64 T, .int .u64 S] 24)).alloc (.cells #[.int .i64 k, .int .u64 x] 34)).alloc (.cells #[.int .u64 0, .int .u64 0] 24)).cell? ⟨w.heap.size + 1, 0, none⟩ = some (.int .i64 k) := by simp [World.cell?_alloc_old]
  have c3 : (((w.alloc (.cells #[.int .u64 T, .int .u64 S] 24)).alloc (.cells #[.int .i64 k, .int .u64 x] 34)).alloc (.cells #[.int .u64 0, .int .u64 0] 24)).cell? ⟨w.heap.size + 1, 1, none⟩ = some (.int .u64 x) := by simp [World.cell?_alloc_old]
  obtain ⟨W, hW⟩ : ∃ W, ((w.alloc (.cells #[.int .u64 T, .int .u64 S] 24)).alloc (.cells #[.int .i64 k, .int .u64 x] 34)).alloc (.cells #[.int .u64 0, .int .u64 0] 24) = W := ⟨_, rfl⟩
  obtain ⟨p, hp⟩ : ∃ p, w.heap.size = p := ⟨_, rfl⟩
  obtain ⟨p1, hp1⟩ : ∃ p1, p + 1 = p1 := ⟨_, rfl⟩
  obtain ⟨q, hq⟩ : ∃ q, p1 + 1 = q := ⟨_, rfl⟩
  rw [hW, hp, hp1, hq] at I0
  rw [hW, hp] at c0 c1
  rw [hW, hp, hp1] at c2 c3
  rw [hW, hp, hp1, hq]
  clear hW hp hp1 hq
  by_cases hk0 : k = 0
  · subst hk0
    go_wp2_with fail
    refine (C0.out _).mono ?_
    rintro e w1 ⟨rfl, kb⟩
    have hS1 := I0.out.up kb
    have I1 := Lib.hid hS1
    obtain ⟨f0, f1, f2, f3⟩ : w1.cell? ⟨q, 0, none⟩ = some (.int .u64 0) ∧ w1.cell? ⟨q, 1, none⟩ = some (.int .u64 0) ∧ w1.frozen? ⟨q, 0, none⟩ = false ∧ w1.frozen? ⟨q, 1, none⟩ = false := ⟨hS1.2.1.cell 0 rfl, hS1.2.1.cell 1 rfl, hS1.2.1.frozen 0, hS1.2.1.frozen 1⟩
    clear kb hS1
    go_wp2_with fail
    refine bodyPost_ret (res_cii rfl _ _ ⟨q, 0, none⟩ _ _ _ rfl rfl rfl (I1.out.load0 _ _)) rfl ⟨?_, I1.out.end_ _ _⟩
    rfl
  have hb0 : (k == 0) = false := by simpa using hk0
  by_cases hk1 : k = 1
  · subst hk1
    go_wp2_with fail
    refine (C1.out _).mono ?_
    rintro e w1 ⟨rfl, kb⟩
    have hS1 := I0.out.up kb
    have I1 := Lib.hid hS1
    obtain ⟨f0, f1, f2, f3⟩ : w1.cell? ⟨q, 0, none⟩ = some (.int .u64 0) ∧ w1.cell? ⟨q, 1, none⟩ = some (.int .u64 0) ∧ w1.frozen? ⟨q, 0, none⟩ = false ∧ w1.frozen? ⟨q, 1, none⟩ = false := ⟨hS1.2.1.cell 0 rfl, hS1.2.1.cell 1 rfl, hS1.2.1.frozen 0, hS1.2.1.frozen 1⟩
    clear kb hS1
    go_wp2_with fail
    refine bodyPost_ret (res_cii rfl _ _ ⟨q, 0, none⟩ _ _ _ rfl rfl rfl (I1.out.load0 _ _)) rfl ⟨?_, I1.out.end_ _ _⟩
    rfl
  have hb1 : (k == 1) = false := by simpa using hk1
  by_cases hk2 : k = 2
  · subst hk2
    go_wp2_with fail
    refine (C2.out _).mono ?_
    rintro e w1 ⟨rfl, kb⟩
    have hS1 := I0.out.up kb
    have I1 := Lib.hid hS1
    obtain ⟨f0, f1, f2, f3⟩ : w1.cell? ⟨q, 0, none⟩ = some (.int .u64 0) ∧ w1.cell? ⟨q, 1, none⟩ = some (.int .u64 0) ∧ w1.frozen? ⟨q, 0, none⟩ = false ∧ w1.frozen? ⟨q, 1, none⟩ = false := ⟨hS1.2.1.cell 0 rfl, hS1.2.1.cell 1 rfl, hS1.2.1.frozen 0, hS1.2.1.frozen 1⟩
    clear kb hS1
    go_wp2_with fail
    refine bodyPost_ret (res_cii rfl _ _ ⟨q, 0, none⟩ _ _ _ rfl rfl rfl (I1.out.load0 _ _)) rfl ⟨?_, I1.out.end_ _ _⟩
    rfl
  have hb2 : (k == 2) = false := by simpa using hk2
  have HS := I0.out
  have HD := Lib.hid (d3 T S x hk0 hk1 hk2)
  obtain ⟨f0, f1, f2, f3⟩ : W.cell? ⟨q, 0, none⟩ = some (.int .u64 0) ∧ W.cell? ⟨q, 1, none⟩ = some (.int .u64 0) ∧ W.frozen? ⟨q, 0, none⟩ = false ∧ W.frozen? ⟨q, 1, none⟩ = false := ⟨HS.2.1.cell 0 rfl, HS.2.1.cell 1 rfl, HS.2.1.frozen 0, HS.2.1.frozen 1⟩
  clear HS
  go_wp2_with fail
  refine bodyPost_ret (v := .tuple #[pV T S, .int .u64 0, .int .i64 0]) (res_cii rfl _ _ ⟨q, 0, none⟩ _ _ _ rfl rfl rfl (I0.out.load0 _ _)) rfl ⟨by rw [HD.out.1, HD.out.2.1, HD.out.2.2.1, HD.out.2.2.2], I0.out.end_ _ _⟩

theorem pool (T S : Int) (w : World) : Calls Try.prog 17 #[.int .u64 T, .int .u64 S] w fun r w' => r = .returned (pV T S) ∧ Bel w w' := by
  go_enter Try.func17, Try.ntmps17
  go_wp2_with fail
  refine bodyPost_ret (v := pV T S) (Pm.res_c rfl _ _ ⟨w.heap.size, 0, none⟩ _ rfl ?_) rfl ⟨rfl, ?_⟩
  · have h := Kk.Blk.new w #[.int .u64 T, .int .u64 S] 24
    exact Pm.load_b (C := [.int .u64 T, .int .u64 S]) h Try.underlying24 rfl (by kernel_rfl)
  · exact (Bel.refl _).alloc _

end Sh
end Go.Proofs.Ytmfajljgcndgfaa
