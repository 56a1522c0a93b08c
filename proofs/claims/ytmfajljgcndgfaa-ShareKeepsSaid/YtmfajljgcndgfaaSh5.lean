/-
  What share's exported functions answer, as plain functions of the numbers. Conditions: the amounts are words.
-/
import Derived.Test.YtmfajljgcndgfaaSh4
namespace Go.Proofs.Ytmfajljgcndgfaa
open Go.RowKit Go.Shelf
set_option linter.unusedVariables false
namespace Sh
open Fix

theorem checkE (T S : Int) (w : World) (t0 : 0 ≤ T) (s0 : 0 ≤ S) :
    Calls Try.prog 13 #[pV T S] w fun r w' => r = .returned (.int .i64 (chk T S)) ∧ Bel w w' := by
  have CH := Lib.hid (fun W => check T S W t0 s0)
  go_enter Try.func13, Try.ntmps13
  go_wp2_with fail
  refine (CH.out _).mono ?_
  rintro e w1 ⟨rfl, kb⟩
  have k := Lib.hid (((Bel.refl w).alloc (.cells #[.int .u64 T, .int .u64 S] 24)).trans kb)
  clear kb
  go_wp2_with fail
  go_ret
  exact ⟨rfl, k.out⟩
theorem valueE (T S x : Int) (w : World) (t0 : 0 ≤ T) (t1 : T ≤ 18446744073709551615) (s0 : 0 ≤ S) (s1 : S ≤ 18446744073709551615) (x0 : 0 ≤ x) (x1 : x ≤ 18446744073709551615) :
    Calls Try.prog 9 #[pV T S, .int .u64 x] w fun r w' => r = .returned (.tuple #[.int .u64 (valN T S x), .int .i64 (valE T S x)]) ∧ Bel w w' := by
  have CH := Lib.hid (fun W => value T S x W t0 t1 s0 s1 x0 x1)
  go_enter Try.func9, Try.ntmps9
  go_wp2_with fail
  refine (CH.out _).mono ?_
  rintro e w1 ⟨rfl, kb⟩
  have k := Lib.hid (((Bel.refl w).alloc (.cells #[.int .u64 T, .int .u64 S] 24)).trans kb)
  clear kb
  go_wp2_with fail
  go_ret2
  exact ⟨rfl, k.out⟩
theorem priceE (T S a : Int) (w : World) (t0 : 0 ≤ T) (t1 : T ≤ 18446744073709551615) (s0 : 0 ≤ S) (s1 : S ≤ 18446744073709551615) (x0 : 0 ≤ a) (x1 : a ≤ 18446744073709551615) :
    Calls Try.prog 11 #[pV T S, .int .u64 a] w fun r w' => r = .returned (.tuple #[.int .u64 (priN T S a), .int .i64 (priE T S a)]) ∧ Bel w w' := by
  have CH := Lib.hid (fun W => price T S a W t0 t1 s0 s1 x0 x1)
  go_enter Try.func11, Try.ntmps11
  go_wp2_with fail
  refine (CH.out _).mono ?_
  rintro e w1 ⟨rfl, kb⟩
  have k := Lib.hid (((Bel.refl w).alloc (.cells #[.int .u64 T, .int .u64 S] 24)).trans kb)
  clear kb
  go_wp2_with fail
  go_ret2
  exact ⟨rfl, k.out⟩
/-- The world of an exported operation: its result in the block q. -/
def Ou (w W : World) (q : Nat) : Prop := Bel w W ∧ Kk.Blk W q #[.int .u64 0, .int .u64 0] 24 ∧ w.heap.size ≤ q
theorem Ou.up {w W W' : World} {q : Nat} (h : Ou w W q) (hb : Bel W W') : Ou w W' q := ⟨h.1.trans hb, h.2.1.bel hb, h.2.2⟩
theorem Ou.start (w : World) (T S : Int) : Ou w ((w.alloc (.cells #[.int .u64 T, .int .u64 S] 24)).alloc (.cells #[.int .u64 0, .int .u64 0] 24)) (w.heap.size + 1) :=
  ⟨((Bel.refl _).alloc _).alloc _, by
    have := Kk.Blk.new (w.alloc (.cells #[.int .u64 T, .int .u64 S] 24)) #[.int .u64 0, .int .u64 0] 24
    simpa using this, by omega⟩
theorem Ou.load {w W : World} {q : Nat} (h : Ou w W q) (A B : Int) (o : Obj) : (loadVar 24 ⟨q, 0, none⟩).run Try.prog (((W.setCell ⟨q, 0, none⟩ (.int .u64 A)).setCell ⟨q, 1, none⟩ (.int .u64 B)).alloc o) = .ok (pV A B) (((W.setCell ⟨q, 0, none⟩ (.int .u64 A)).setCell ⟨q, 1, none⟩ (.int .u64 B)).alloc o) :=
  Pm.load_b (C := [.int .u64 A, .int .u64 B]) (((h.2.1.set 0 _).set 1 _).alloc o) Try.underlying24 rfl (by kernel_rfl)
theorem Ou.end_ {w W : World} {q : Nat} (h : Ou w W q) (u v : Value) : Bel w ((W.setCell ⟨q, 0, none⟩ u).setCell ⟨q, 1, none⟩ v) :=
  (h.1.set h.2.2 _).set h.2.2 _
set_option maxHeartbeats 1000000 in
theorem joinX (T S x : Int) (w : World) (t0 : 0 ≤ T) (t1 : T ≤ 18446744073709551615) (s0 : 0 ≤ S) (s1 : S ≤ 18446744073709551615) (x0 : 0 ≤ x) (x1 : x ≤ 18446744073709551615) :
    Calls Try.prog 34 #[pV T S, .int .u64 x] w fun r w' => r = .returned (.tuple #[pV (joiT T S x) (joiS T S x), .int .u64 (joiN T S x), .int .i64 (joiE T S x)]) ∧ Bel w w' := by
  have CH := Lib.hid (fun W => join T S x W t0 t1 s0 s1 x0 x1)
  have I0 := Lib.hid (Ou.start w T S)
  obtain ⟨A, hA⟩ : ∃ A, joiT T S x = A := ⟨_, rfl⟩
  obtain ⟨B, hB⟩ : ∃ B, joiS T S x = B := ⟨_, rfl⟩
  obtain ⟨C, hC⟩ : ∃ C, joiN T S x = C := ⟨_, rfl⟩
  obtain ⟨D, hD⟩ : ∃ D, joiE T S x = D := ⟨_, rfl⟩
  rw [hA, hB, hC, hD] at CH
  rw [hA, hB, hC, hD]
  clear hA hB hC hD
  go_enter Try.func34, Try.ntmps34
  go_wp2_with fail
  obtain ⟨W, hW⟩ : ∃ W, (w.alloc (.cells #[.int .u64 T, .int .u64 S] 24)).alloc (.cells #[.int .u64 0, .int .u64 0] 24) = W := ⟨_, rfl⟩
  obtain ⟨q, hq⟩ : ∃ q, w.heap.size + 1 = q := ⟨_, rfl⟩
  rw [hW, hq] at I0
  rw [hW, hq]
  clear hW hq
  refine (CH.out _).mono ?_
  rintro e w1 ⟨rfl, kb⟩
  have hS1 := (I0.out.up kb)
  clear kb I0
  have I1 := Lib.hid hS1
  obtain ⟨d0, d1, d2, d3⟩ : w1.cell? ⟨q, 0, none⟩ = some (.int .u64 0) ∧ w1.cell? ⟨q, 1, none⟩ = some (.int .u64 0) ∧ w1.frozen? ⟨q, 0, none⟩ = false ∧ w1.frozen? ⟨q, 1, none⟩ = false := ⟨hS1.2.1.cell 0 rfl, hS1.2.1.cell 1 rfl, hS1.2.1.frozen 0, hS1.2.1.frozen 1⟩
  have hq1 : q < w1.heap.size := hS1.2.1.lt
  clear hS1
  go_wp2_with fail
  refine bodyPost_ret (v := .tuple #[pV A B, .int .u64 C, .int .i64 D]) (res_cii rfl _ _ ⟨q, 0, none⟩ _ _ _ rfl rfl rfl (I1.out.load _ _ _)) rfl ⟨rfl, (I1.out.end_ _ _).alloc _⟩
set_option maxHeartbeats 1000000 in
theorem leaveX (T S x : Int) (w : World) (t0 : 0 ≤ T) (t1 : T ≤ 18446744073709551615) (s0 : 0 ≤ S) (s1 : S ≤ 18446744073709551615) (x0 : 0 ≤ x) (x1 : x ≤ 18446744073709551615) :
    Calls Try.prog 35 #[pV T S, .int .u64 x] w fun r w' => r = .returned (.tuple #[pV (leaT T S x) (leaS T S x), .int .u64 (leaN T S x), .int .i64 (leaE T S x)]) ∧ Bel w w' := by
  have CH := Lib.hid (fun W => leave T S x W t0 t1 s0 s1 x0 x1)
  have I0 := Lib.hid (Ou.start w T S)
  obtain ⟨A, hA⟩ : ∃ A, leaT T S x = A := ⟨_, rfl⟩
  obtain ⟨B, hB⟩ : ∃ B, leaS T S x = B := ⟨_, rfl⟩
  obtain ⟨C, hC⟩ : ∃ C, leaN T S x = C := ⟨_, rfl⟩
  obtain ⟨D, hD⟩ : ∃ D, leaE T S x = D := ⟨_, rfl⟩
  rw [hA, hB, hC, hD] at CH
  rw [hA, hB, hC, hD]
  clear hA hB hC hD
  go_enter Try.func35, Try.ntmps35
  go_wp2_with fail
  obtain ⟨W, hW⟩ : ∃ W, (w.alloc (.cells #[.int .u64 T, .int .u64 S] 24)).alloc (.cells #[.int .u64 0, .int .u64 0] 24) = W := ⟨_, rfl⟩
  obtain ⟨q, hq⟩ : ∃ q, w.heap.size + 1 = q := ⟨_, rfl⟩
  rw [hW, hq] at I0
  rw [hW, hq]
  clear hW hq
  refine (CH.out _).mono ?_
  rintro e w1 ⟨rfl, kb⟩
  have hS1 := (I0.out.up kb)
  clear kb I0
  have I1 := Lib.hid hS1
  obtain ⟨d0, d1, d2, d3⟩ : w1.cell? ⟨q, 0, none⟩ = some (.int .u64 0) ∧ w1.cell? ⟨q, 1, none⟩ = some (.int .u64 0) ∧ w1.frozen? ⟨q, 0, none⟩ = false ∧ w1.frozen? ⟨q, 1, none⟩ = false := ⟨hS1.2.1.cell 0 rfl, hS1.2.1.cell 1 rfl, hS1.2.1.frozen 0, hS1.2.1.frozen 1⟩
  have hq1 : q < w1.heap.size := hS1.2.1.lt
  clear hS1
  go_wp2_with fail
  refine bodyPost_ret (v := .tuple #[pV A B, .int .u64 C, .int .i64 D]) (res_cii rfl _ _ ⟨q, 0, none⟩ _ _ _ rfl rfl rfl (I1.out.load _ _ _)) rfl ⟨rfl, (I1.out.end_ _ _).alloc _⟩
set_option maxHeartbeats 1000000 in
theorem cutX (T S x : Int) (w : World) (t0 : 0 ≤ T) (t1 : T ≤ 18446744073709551615) (s0 : 0 ≤ S) (s1 : S ≤ 18446744073709551615) (x0 : 0 ≤ x) (x1 : x ≤ 18446744073709551615) :
    Calls Try.prog 25 #[pV T S, .int .u64 x] w fun r w' => r = .returned (.tuple #[pV (cutT T S x) (cutS T S x), .int .u64 (cutN T S x), .int .i64 (cutE T S x)]) ∧ Bel w w' := by
  have CH := Lib.hid (fun W => cut T S x W t0 t1 s0 s1 x0 x1)
  have I0 := Lib.hid (Ou.start w T S)
  obtain ⟨A, hA⟩ : ∃ A, cutT T S x = A := ⟨_, rfl⟩
  obtain ⟨B, hB⟩ : ∃ B, cutS T S x = B := ⟨_, rfl⟩
  obtain ⟨C, hC⟩ : ∃ C, cutN T S x = C := ⟨_, rfl⟩
  obtain ⟨D, hD⟩ : ∃ D, cutE T S x = D := ⟨_, rfl⟩
  rw [hA, hB, hC, hD] at CH
  rw [hA, hB, hC, hD]
  clear hA hB hC hD
  go_enter Try.func25, Try.ntmps25
  go_wp2_with fail
  obtain ⟨W, hW⟩ : ∃ W, (w.alloc (.cells #[.int .u64 T, .int .u64 S] 24)).alloc (.cells #[.int .u64 0, .int .u64 0] 24) = W := ⟨_, rfl⟩
  obtain ⟨q, hq⟩ : ∃ q, w.heap.size + 1 = q := ⟨_, rfl⟩
  rw [hW, hq] at I0
  rw [hW, hq]
  clear hW hq
  refine (CH.out _).mono ?_
  rintro e w1 ⟨rfl, kb⟩
  have hS1 := (I0.out.up kb)
  clear kb I0
  have I1 := Lib.hid hS1
  obtain ⟨d0, d1, d2, d3⟩ : w1.cell? ⟨q, 0, none⟩ = some (.int .u64 0) ∧ w1.cell? ⟨q, 1, none⟩ = some (.int .u64 0) ∧ w1.frozen? ⟨q, 0, none⟩ = false ∧ w1.frozen? ⟨q, 1, none⟩ = false := ⟨hS1.2.1.cell 0 rfl, hS1.2.1.cell 1 rfl, hS1.2.1.frozen 0, hS1.2.1.frozen 1⟩
  have hq1 : q < w1.heap.size := hS1.2.1.lt
  clear hS1
  go_wp2_with fail
  refine bodyPost_ret (v := .tuple #[pV A B, .int .u64 C, .int .i64 D]) (res_cii rfl _ _ ⟨q, 0, none⟩ _ _ _ rfl rfl rfl (I1.out.load _ _ _)) rfl ⟨rfl, (I1.out.end_ _ _).alloc _⟩
end Sh
end Go.Proofs.Ytmfajljgcndgfaa
