/-
  Texts of this claim, put together: VRef, VRef2, VRef3, VRef4. What each one says, and under which conditions, stands ahead of it.
-/
import Derived.Test.YtjbbecplkkkiiaaDoorGW
import Derived.Test.YtjbbecplkkkiiaaDoorGE
import Derived.Test.YtjbbecplkkkiiaaDoorGR

section
/-
  What the reference's numbers and within answer. Condition: the numbers may be written.
-/
namespace Go.Proofs.YtjbbecplkkkiiaaDoor
open Go.RowKit Go.Shelf
set_option linter.unusedVariables false
namespace Vt
open Kk

theorem sl_hs (w : World) (hs : List Int) (h : hs.length = 32) : Sl (w.alloc (.cells (hs.map B8).toArray 23)) (some ⟨w.heap.size, 0, none⟩) 32 32 hs := by
  refine ⟨⟨h, fun hn => ⟨w.heap.size, 0, rfl, by simp, fun i hi => ?_⟩⟩, Nat.le_refl _, fun h => by cases h⟩
  rw [Nat.zero_add, World.cell?_alloc_new, List.getElem?_toArray, List.getElem?_map, List.getElem?_eq_getElem (by omega), getD_eq _ _ (by omega)]
  rfl
theorem refPut (x : Int) (w : World) (x0 : 0 ≤ x) (x1 : x ≤ 18446744073709551615) :
    Calls Tryd.prog 40 #[.int .u64 x] w fun e w' => ∃ A c, e = .returned (.slice A (Cd.enc x).length c) ∧ Sl w' A (Cd.enc x).length c (Cd.enc x) ∧ Bel w w' :=
  (Cd.ref_put x w x0 x1).mono fun e w' ⟨v, h1, h2, h3⟩ => by
    obtain ⟨A, c, rfl, hs⟩ := sl_of_own h2
    exact ⟨A, c, h1, hs, h3⟩
theorem flat_take_succ (xs : List Int) (k : Nat) (h : k < xs.length) : (xs.take (k + 1)).flatMap Cd.enc = (xs.take k).flatMap Cd.enc ++ Cd.enc (xs.getD k 0) := by
  rw [List.take_add_one, List.getElem?_eq_getElem h, List.flatMap_append, getD_eq _ _ h]
  simp
theorem flat_len_le (xs : List Int) : ((xs.flatMap Cd.enc).length) ≤ xs.length * 10 := by
  induction xs with
  | nil => simp
  | cons x r ih =>
    rw [List.flatMap_cons, List.length_append, List.length_cons]
    have := enc_le x
    omega

set_option maxRecDepth 100000 in
set_option maxHeartbeats 2000000 in
theorem numbers (g n c : Nat) (xs hs : List Int) (w : World) (hI : Ints .i64 w (some ⟨g, 0, none⟩) n xs) (hx : ∀ x ∈ xs, 0 ≤ x ∧ x ≤ 9223372036854775807) (h32 : hs.length = 32) (hn : n ≤ 10) :
    Calls Tryd.prog 75 #[.agg (hs.map B8).toArray, .slice (some ⟨g, 0, none⟩) n c] w fun e w' => ∃ v, e = .returned v ∧ w'.ownsRow w.heap.size 5 1 v ((xs.flatMap Cd.enc).length + 32) ((xs.flatMap Cd.enc ++ hs).map (Value.int .u8)) ∧ Bel w w' := by
  have hl := hI.1
  obtain ⟨bx, hbx⟩ : ∃ bx, bx = w.heap.size := ⟨_, rfl⟩
  obtain ⟨W, hW⟩ : ∃ W, w.alloc (.cells (hs.map B8).toArray 23) = W := ⟨_, rfl⟩
  have B0 := Lib.hid (show Bel w W by rw [← hW]; exact (Bel.refl w).alloc _)
  have SH := Lib.hid (show Sl W (some ⟨bx, 0, none⟩) 32 32 hs by rw [← hW, hbx]; exact sl_hs w hs h32)
  have II := Lib.hid (hI.bel B0.out)
  have HX := Lib.hid hx
  have HL := Lib.hid hl
  have HB := Lib.hid hbx
  have HW := Lib.hid hW
  obtain ⟨Y, hY⟩ : ∃ Y, Y = (hs.map B8).toArray := ⟨_, rfl⟩
  have HY := Lib.hid hY
  rw [← hY] at HW ⊢
  clear hI hx hW hbx hY hl
  go_enter Tryd.func75, Tryd.ntmps75
  go_upto_region 1 with fail
  rw [← HB.out, HW.out]
  go_wp2_with fail
  go_loopw [5, 6] (fun v i wr => ∃ k : Nat, i = .int .i64 k ∧ k ≤ n ∧ wr.ownsRow W.heap.size 5 1 v ((xs.take k).flatMap Cd.enc).length (((xs.take k).flatMap Cd.enc).map (Value.int .u8)) ∧ Bel W wr) (fun _ i _ => n - (intOf i).toNat)
  case atStart => exact ⟨0, rfl, Nat.zero_le _, World.ownsRow_nil _ _ _ _, Bel.refl _⟩
  case round =>
    obtain ⟨k, rfl, hk, hown, hbl⟩ := hrel
    by_cases hlt : k < n
    · obtain ⟨b', o', e, hgl, hc⟩ := (II.out.bel hbl).cell hlt
      injection e with e
      injection e with e1 e2
      subst e1
      subst e2
      rw [Nat.zero_add] at hc
      obtain ⟨x, hx⟩ : ∃ x, x = xs.getD k 0 := ⟨_, rfl⟩
      rw [← hx] at hc
      obtain ⟨x0, x1⟩ : 0 ≤ x ∧ x ≤ 9223372036854775807 := HX.out x (by rw [hx, getD_eq _ _ (by have := HL.out; omega)]; exact List.getElem_mem _)
      have wx : IntKind.u64.wrap x = x := by rw [IntKind.wrap_u64]; omega
      have HXX := Lib.hid hx
      have HO := Lib.hid hown
      have HBL := Lib.hid hbl
      clear hown hbl hgl hx
      have PT := Lib.hid (fun W => refPut x W x0 (by omega))
      go_wp2_with fail
      refine (PT.out _).mono ?_
      rintro e w2 ⟨A, c2, rfl, s2, k2⟩
      have O2 := Lib.hid (owns_bel HO.out k2)
      have S2 := Lib.hid s2
      have B2 := Lib.hid (HBL.out.trans k2)
      have LE := Lib.hid (show ((xs.take k).flatMap Cd.enc).length ≤ 100 by have := flat_len_le (xs.take k); rw [List.length_take] at this; omega)
      clear k2 s2 PT
      go_wp2_with (at_builtin; refine wpList_append_sl rfl _ _ rfl W.heap.size _ _ _ rfl O2.out A (Cd.enc x).length c2 (Cd.enc x) rfl S2.out (by have := LE.out; have := enc_le x; omega) (Below.size B2.out) ?_; intro v' w3 hown hgrow)
      have O3 := Lib.hid (show w3.ownsRow W.heap.size 5 1 v' ((xs.take (k + 1)).flatMap Cd.enc).length (((xs.take (k + 1)).flatMap Cd.enc).map (Value.int .u8)) by
        rw [flat_take_succ xs k (by have := HL.out; omega), ← HXX.out, List.length_append, List.map_append]
        exact hown)
      have hgr := Lib.hid hgrow
      have hlow := Lib.hid (fun i e => (O2.out.lt i e).1)
      have HX3 := Lib.hid (show ∃ A c, v' = .slice A ((xs.take (k + 1)).flatMap Cd.enc).length c from by
        obtain ⟨A, c, e, _⟩ := sl_of_own O3.out
        exact ⟨A, c, e⟩)
      clear hown hgrow LE
      go_wp2
      go_roundw
      case rel => exact ⟨k + 1, by go_num, by omega, O3.out, Kep.bel B2.out (Kep.grown (Kep.refl _ _) hgr.out (fun i e _ => e)) (fun i e => hlow.out i e)⟩
      case measure => simp [intOf] <;> omega
    · obtain rfl : k = n := by omega
      rw [show xs.take k = xs by rw [← HL.out]; exact List.take_length] at hown
      have HO := Lib.hid hown
      have S2 := Lib.hid (SH.out.bel hbl)
      have B2 := Lib.hid (B0.out.trans hbl)
      have HBL := Lib.hid hbl
      have LE := Lib.hid (show (xs.flatMap Cd.enc).length ≤ 100 by have := flat_len_le xs; have := HL.out; omega)
      clear hown hbl
      go_wp2_with (at_builtin; refine wpList_append_sl rfl _ _ rfl W.heap.size _ _ _ rfl HO.out (some ⟨bx, 0, none⟩) 32 32 hs rfl S2.out (by have := LE.out; omega) (Below.size HBL.out) ?_; intro v' w3 hown hgrow)
      go_ret
      exact ⟨v', rfl, by rw [List.map_append]; exact owns_mono hown (Below.size B0.out), Bel.grown B2.out hgrow (fun i e => by have := (HO.out.lt i e).1; have := Below.size B0.out; omega)⟩
end Vt
end Go.Proofs.YtjbbecplkkkiiaaDoor
end

section
/-
  What the reference's Check, bare, Bytes and Digest answer. Condition: a root has 32 bytes, a tag is below 2^64.
-/
namespace Go.Proofs.YtjbbecplkkkiiaaDoor
open Go.RowKit Go.Shelf
set_option linter.unusedVariables false
namespace Vt
open Kk

set_option maxRecDepth 100000 in
set_option maxHeartbeats 1000000 in
theorem refWithin (n l h : Int) (w : World) : Calls Tryd.prog 44 #[.int .i64 n, .int .i64 l, .int .i64 h] w fun e w' => e = .returned (.bool (okB (n, l, h))) ∧ w = w' := by
  go_enter Tryd.func44, Tryd.ntmps44
  by_cases h1 : l ≤ n
  case neg =>
    have HF := Lib.hid (show okB (n, l, h) = false by simp [okB]; omega)
    go_wp2
    go_ret
    exact ⟨by rw [HF.out]; rfl, rfl⟩
  by_cases h2 : n ≤ h
  case neg =>
    have HF := Lib.hid (show okB (n, l, h) = false by simp [okB]; omega)
    go_wp2
    go_ret
    exact ⟨by rw [HF.out]; simp <;> omega, rfl⟩
  have HF := Lib.hid (show okB (n, l, h) = true by simp [okB]; omega)
  go_wp2
  go_ret
  exact ⟨by rw [HF.out]; simp <;> omega, rfl⟩

set_option maxRecDepth 100000 in
set_option maxHeartbeats 2000000 in
theorem refCheck (v s t tag : Int) (hs : List Int) (w : World) (h32 : hs.length = 32) :
    Calls Tryd.prog 14 #[.agg (attC v s t hs tag).toArray] w fun e w' => e = .returned (.int .i64 (chkE v s t)) ∧ Bel w w' := by
  obtain ⟨D, hD⟩ : ∃ D, D = attC v s t hs tag := ⟨_, rfl⟩
  have HDl := Lib.hid (show D.length = 36 by rw [hD]; exact len_attC h32 v s t tag)
  have d0 : D[0]? = some (.int .i64 v) := by rw [hD]; rfl
  have d1 : D[1]? = some (.int .i64 s) := by rw [hD]; rfl
  have d2 : D[2]? = some (.int .i64 t) := by rw [hD]; rfl
  rw [← hD]
  obtain ⟨W, hW⟩ : ∃ W, w.alloc (.cells D.toArray 26) = W := ⟨_, rfl⟩
  obtain ⟨bx, hbx⟩ : ∃ bx, bx = w.heap.size := ⟨_, rfl⟩
  have hbk : Blk W bx D.toArray 26 := by rw [← hW, hbx]; exact Blk.new w _ _
  have c0 : W.cell? ⟨bx, 0, none⟩ = some (.int .i64 v) := hbk.cell 0 (by rw [List.getElem?_toArray]; exact d0)
  have c1 : W.cell? ⟨bx, 1, none⟩ = some (.int .i64 s) := hbk.cell 1 (by rw [List.getElem?_toArray]; exact d1)
  have c2 : W.cell? ⟨bx, 2, none⟩ = some (.int .i64 t) := hbk.cell 2 (by rw [List.getElem?_toArray]; exact d2)
  have B0 := Lib.hid (show Bel w W by rw [← hW]; exact (Bel.refl w).alloc _)
  have HW := Lib.hid hW
  have HX := Lib.hid hbx
  have HC := Lib.hid (show chkE v s t = (if [(v, 0, 31), (s, 0, 4294967296), (t, 0, 4294967296)].all okB = true then 0 else 3) from rfl)
  have W0 := Lib.hid (fun X => refWithin v 0 31 X)
  obtain ⟨q0, hq0⟩ : ∃ q, q = okB (v, 0, 31) := ⟨_, rfl⟩
  rw [← hq0] at W0
  have HQ0 := Lib.hid hq0
  have W1 := Lib.hid (fun X => refWithin s 0 4294967296 X)
  obtain ⟨q1, hq1⟩ : ∃ q, q = okB (s, 0, 4294967296) := ⟨_, rfl⟩
  rw [← hq1] at W1
  have HQ1 := Lib.hid hq1
  have W2 := Lib.hid (fun X => refWithin t 0 4294967296 X)
  obtain ⟨q2, hq2⟩ : ∃ q, q = okB (t, 0, 4294967296) := ⟨_, rfl⟩
  rw [← hq2] at W2
  have HQ2 := Lib.hid hq2
  clear hD hW hbx hbk d0 d1 d2 hq0 hq1 hq2
  go_enter Tryd.func14, Tryd.ntmps14
  go_upto_region 1 with fail
  rw [← HX.out, HW.out]
  go_wp2_with fail
  refine (W0.out _).mono ?_
  rintro e w' ⟨rfl, rfl⟩
  cases q0
  case false =>
    have HZ := Lib.hid (show chkE v s t = 3 by rw [HC.out]; simp [← HQ0.out])
    go_wp2
    go_ret
    exact ⟨by rw [HZ.out]; rfl, B0.out⟩
  go_wp2_with fail
  refine (W1.out _).mono ?_
  rintro e w' ⟨rfl, rfl⟩
  cases q1
  case false =>
    have HZ := Lib.hid (show chkE v s t = 3 by rw [HC.out]; simp [← HQ0.out, ← HQ1.out])
    go_wp2
    go_ret
    exact ⟨by rw [HZ.out]; rfl, B0.out⟩
  go_wp2_with fail
  refine (W2.out _).mono ?_
  rintro e w' ⟨rfl, rfl⟩
  cases q2
  case false =>
    have HZ := Lib.hid (show chkE v s t = 3 by rw [HC.out]; simp [← HQ0.out, ← HQ1.out, ← HQ2.out])
    go_wp2
    go_ret
    exact ⟨by rw [HZ.out]; rfl, B0.out⟩
  have HZ := Lib.hid (show chkE v s t = 0 by rw [HC.out]; simp [← HQ0.out, ← HQ1.out, ← HQ2.out])
  go_wp2
  go_ret
  exact ⟨by rw [HZ.out]; rfl, B0.out⟩

set_option maxRecDepth 100000 in
set_option maxHeartbeats 2000000 in
theorem refCheckB (v s tag : Int) (hs : List Int) (w : World) (h32 : hs.length = 32) :
    Calls Tryd.prog 16 #[.agg (propC v s hs tag).toArray] w fun e w' => e = .returned (.int .i64 (chkBE v s)) ∧ Bel w w' := by
  obtain ⟨D, hD⟩ : ∃ D, D = propC v s hs tag := ⟨_, rfl⟩
  have HDl := Lib.hid (show D.length = 35 by rw [hD]; exact len_propC h32 v s tag)
  have d0 : D[0]? = some (.int .i64 v) := by rw [hD]; rfl
  have d1 : D[1]? = some (.int .i64 s) := by rw [hD]; rfl
  rw [← hD]
  obtain ⟨W, hW⟩ : ∃ W, w.alloc (.cells D.toArray 28) = W := ⟨_, rfl⟩
  obtain ⟨bx, hbx⟩ : ∃ bx, bx = w.heap.size := ⟨_, rfl⟩
  have hbk : Blk W bx D.toArray 28 := by rw [← hW, hbx]; exact Blk.new w _ _
  have c0 : W.cell? ⟨bx, 0, none⟩ = some (.int .i64 v) := hbk.cell 0 (by rw [List.getElem?_toArray]; exact d0)
  have c1 : W.cell? ⟨bx, 1, none⟩ = some (.int .i64 s) := hbk.cell 1 (by rw [List.getElem?_toArray]; exact d1)
  have B0 := Lib.hid (show Bel w W by rw [← hW]; exact (Bel.refl w).alloc _)
  have HW := Lib.hid hW
  have HX := Lib.hid hbx
  have HC := Lib.hid (show chkBE v s = (if [(v, 0, 31), (s, 1, 4294967296)].all okB = true then 0 else 3) from rfl)
  have W0 := Lib.hid (fun X => refWithin v 0 31 X)
  obtain ⟨q0, hq0⟩ : ∃ q, q = okB (v, 0, 31) := ⟨_, rfl⟩
  rw [← hq0] at W0
  have HQ0 := Lib.hid hq0
  have W1 := Lib.hid (fun X => refWithin s 1 4294967296 X)
  obtain ⟨q1, hq1⟩ : ∃ q, q = okB (s, 1, 4294967296) := ⟨_, rfl⟩
  rw [← hq1] at W1
  have HQ1 := Lib.hid hq1
  clear hD hW hbx hbk d0 d1 hq0 hq1
  go_enter Tryd.func16, Tryd.ntmps16
  go_upto_region 1 with fail
  rw [← HX.out, HW.out]
  go_wp2_with fail
  refine (W0.out _).mono ?_
  rintro e w' ⟨rfl, rfl⟩
  cases q0
  case false =>
    have HZ := Lib.hid (show chkBE v s = 3 by rw [HC.out]; simp [← HQ0.out])
    go_wp2
    go_ret
    exact ⟨by rw [HZ.out]; rfl, B0.out⟩
  go_wp2_with fail
  refine (W1.out _).mono ?_
  rintro e w' ⟨rfl, rfl⟩
  cases q1
  case false =>
    have HZ := Lib.hid (show chkBE v s = 3 by rw [HC.out]; simp [← HQ0.out, ← HQ1.out])
    go_wp2
    go_ret
    exact ⟨by rw [HZ.out]; rfl, B0.out⟩
  have HZ := Lib.hid (show chkBE v s = 0 by rw [HC.out]; simp [← HQ0.out, ← HQ1.out])
  go_wp2
  go_ret
  exact ⟨by rw [HZ.out]; rfl, B0.out⟩

theorem flat_attI (v s t : Int) (hs : List Int) : bytesOf (attI v s t hs) = [1, v, s, t].flatMap Cd.enc ++ hs := by simp [bytesOf]
set_option maxRecDepth 100000 in
set_option maxHeartbeats 2000000 in
theorem refBare (v s t tag : Int) (hs : List Int) (w : World) (h32 : hs.length = 32) (hok : chkE v s t = 0) :
    Calls Tryd.prog 39 #[.agg (attC v s t hs tag).toArray] w fun e w' => ∃ vv, e = .returned vv ∧ w'.ownsRow w.heap.size 5 1 vv (bytesOf (attI v s t hs)).length ((bytesOf (attI v s t hs)).map (Value.int .u8)) ∧ Bel w w' := by
  have OK := chk_ok hok
  obtain ⟨D, hD⟩ : ∃ D, D = attC v s t hs tag := ⟨_, rfl⟩
  have HDl := Lib.hid (show D.length = 36 by rw [hD]; exact len_attC h32 v s t tag)
  have d0 : D[0]? = some (.int .i64 v) := by rw [hD]; rfl
  have d1 : D[1]? = some (.int .i64 s) := by rw [hD]; rfl
  have d2 : D[2]? = some (.int .i64 t) := by rw [hD]; rfl
  have hbkr := fun (W : World) (bx : Nat) (h : W.rangeAt bx 0 D) => show W.rangeAt bx 3 (hs.map B8) by
    rw [hD] at h
    exact range_sub (A := [.int .i64 v, .int .i64 s, .int .i64 t]) h
  rw [← hD]
  obtain ⟨W, hW⟩ : ∃ W, w.alloc (.cells D.toArray 26) = W := ⟨_, rfl⟩
  obtain ⟨bx, hbx⟩ : ∃ bx, bx = w.heap.size := ⟨_, rfl⟩
  have hbk : Blk W bx D.toArray 26 := by rw [← hW, hbx]; exact Blk.new w _ _
  have c0 : W.cell? ⟨bx, 0, none⟩ = some (.int .i64 v) := hbk.cell 0 (by rw [List.getElem?_toArray]; exact d0)
  have c1 : W.cell? ⟨bx, 1, none⟩ = some (.int .i64 s) := hbk.cell 1 (by rw [List.getElem?_toArray]; exact d1)
  have c2 : W.cell? ⟨bx, 2, none⟩ = some (.int .i64 t) := hbk.cell 2 (by rw [List.getElem?_toArray]; exact d2)
  have RH := Lib.hid (hbkr W bx (range_blk hbk))
  have B0 := Lib.hid (show Bel w W by rw [← hW]; exact (Bel.refl w).alloc _)
  obtain ⟨Y, hY⟩ : ∃ Y, Y = hs.map B8 := ⟨_, rfl⟩
  have h32' := Lib.hid h32
  have YI := Lib.hid (show (Tryd.prog.info? 23).map (·.size) = some Y.length by rw [hY, List.length_map, h32]; exact info_hash)
  obtain ⟨g, hg⟩ : ∃ g, g = W.heap.size := ⟨_, rfl⟩
  obtain ⟨w1, hw1⟩ : ∃ w1, W.alloc (.cells #[.int .i64 1, .int .i64 v, .int .i64 s, .int .i64 t] 3) = w1 := ⟨_, rfl⟩
  have B1 := Lib.hid (show Bel W w1 by rw [← hw1]; exact (Bel.refl W).alloc _)
  have NU := Lib.hid (numbers g 4 4 [1, v, s, t] hs w1 (by
    rw [← hw1, hg]
    refine ⟨rfl, fun _ => ⟨W.heap.size, 0, rfl, by simp, fun i hi => ?_⟩⟩
    rw [Nat.zero_add, World.cell?_alloc_new]
    match i, hi with
    | 0, _ => rfl
    | 1, _ => rfl
    | 2, _ => rfl
    | 3, _ => rfl) (by simp; omega) h32 (by decide))
  rw [← hY] at RH NU
  have HW := Lib.hid hW
  have HX := Lib.hid hbx
  have HG := Lib.hid hg
  have HV := Lib.hid hw1
  clear hD hW hbx hbk hbkr d0 d1 d2 hg hw1 hY OK hok h32
  go_enter Tryd.func39, Tryd.ntmps39
  go_upto_region 1 with fail
  rw [← HX.out, HW.out]
  go_wp2_with (refine wpList_load_mid rfl 23 (.tmp 3) rfl bx 3 rfl Y _ RH.out Tryd.underlying23 rfl YI.out ?_)
  rw [← HG.out, HV.out]
  refine NU.out.mono ?_
  rintro e w2 ⟨v2, rfl, o2, k2⟩
  have O2 := Lib.hid o2
  have K2 := Lib.hid k2
  clear o2 k2
  go_wp2
  go_ret
  refine ⟨v2, rfl, ?_, B0.out.trans (B1.out.trans K2.out)⟩
  rw [flat_attI, List.length_append, h32'.out]
  exact owns_mono O2.out (Below.size (B0.out.trans B1.out))

theorem flat_propI (v s : Int) (hs : List Int) : bytesOf (propI v s hs) = [2, v, s].flatMap Cd.enc ++ hs := by simp [bytesOf]
set_option maxRecDepth 100000 in
set_option maxHeartbeats 2000000 in
theorem refBareB (v s tag : Int) (hs : List Int) (w : World) (h32 : hs.length = 32) (hok : chkBE v s = 0) :
    Calls Tryd.prog 42 #[.agg (propC v s hs tag).toArray] w fun e w' => ∃ vv, e = .returned vv ∧ w'.ownsRow w.heap.size 5 1 vv (bytesOf (propI v s hs)).length ((bytesOf (propI v s hs)).map (Value.int .u8)) ∧ Bel w w' := by
  have OK := chkB_ok hok
  obtain ⟨D, hD⟩ : ∃ D, D = propC v s hs tag := ⟨_, rfl⟩
  have HDl := Lib.hid (show D.length = 35 by rw [hD]; exact len_propC h32 v s tag)
  have d0 : D[0]? = some (.int .i64 v) := by rw [hD]; rfl
  have d1 : D[1]? = some (.int .i64 s) := by rw [hD]; rfl
  have hbkr := fun (W : World) (bx : Nat) (h : W.rangeAt bx 0 D) => show W.rangeAt bx 2 (hs.map B8) by
    rw [hD] at h
    exact range_sub (A := [.int .i64 v, .int .i64 s]) h
  rw [← hD]
  obtain ⟨W, hW⟩ : ∃ W, w.alloc (.cells D.toArray 28) = W := ⟨_, rfl⟩
  obtain ⟨bx, hbx⟩ : ∃ bx, bx = w.heap.size := ⟨_, rfl⟩
  have hbk : Blk W bx D.toArray 28 := by rw [← hW, hbx]; exact Blk.new w _ _
  have c0 : W.cell? ⟨bx, 0, none⟩ = some (.int .i64 v) := hbk.cell 0 (by rw [List.getElem?_toArray]; exact d0)
  have c1 : W.cell? ⟨bx, 1, none⟩ = some (.int .i64 s) := hbk.cell 1 (by rw [List.getElem?_toArray]; exact d1)
  have RH := Lib.hid (hbkr W bx (range_blk hbk))
  have B0 := Lib.hid (show Bel w W by rw [← hW]; exact (Bel.refl w).alloc _)
  obtain ⟨Y, hY⟩ : ∃ Y, Y = hs.map B8 := ⟨_, rfl⟩
  have h32' := Lib.hid h32
  have YI := Lib.hid (show (Tryd.prog.info? 23).map (·.size) = some Y.length by rw [hY, List.length_map, h32]; exact info_hash)
  obtain ⟨g, hg⟩ : ∃ g, g = W.heap.size := ⟨_, rfl⟩
  obtain ⟨w1, hw1⟩ : ∃ w1, W.alloc (.cells #[.int .i64 2, .int .i64 v, .int .i64 s] 3) = w1 := ⟨_, rfl⟩
  have B1 := Lib.hid (show Bel W w1 by rw [← hw1]; exact (Bel.refl W).alloc _)
  have NU := Lib.hid (numbers g 3 3 [2, v, s] hs w1 (by
    rw [← hw1, hg]
    refine ⟨rfl, fun _ => ⟨W.heap.size, 0, rfl, by simp, fun i hi => ?_⟩⟩
    rw [Nat.zero_add, World.cell?_alloc_new]
    match i, hi with
    | 0, _ => rfl
    | 1, _ => rfl
    | 2, _ => rfl) (by simp; omega) h32 (by decide))
  rw [← hY] at RH NU
  have HW := Lib.hid hW
  have HX := Lib.hid hbx
  have HG := Lib.hid hg
  have HV := Lib.hid hw1
  clear hD hW hbx hbk hbkr d0 d1 hg hw1 hY OK hok h32
  go_enter Tryd.func42, Tryd.ntmps42
  go_upto_region 1 with fail
  rw [← HX.out, HW.out]
  go_wp2_with (refine wpList_load_mid rfl 23 (.tmp 3) rfl bx 2 rfl Y _ RH.out Tryd.underlying23 rfl YI.out ?_)
  rw [← HG.out, HV.out]
  refine NU.out.mono ?_
  rintro e w2 ⟨v2, rfl, o2, k2⟩
  have O2 := Lib.hid o2
  have K2 := Lib.hid k2
  clear o2 k2
  go_wp2
  go_ret
  refine ⟨v2, rfl, ?_, B0.out.trans (B1.out.trans K2.out)⟩
  rw [flat_propI, List.length_append, h32'.out]
  exact owns_mono O2.out (Below.size (B0.out.trans B1.out))
end Vt
end Go.Proofs.YtjbbecplkkkiiaaDoor
end

section
/-
  What the reference's Bytes and Digest answer. Condition: a root has 32 bytes, a tag is below 2^64.
-/
namespace Go.Proofs.YtjbbecplkkkiiaaDoor
open Go.RowKit Go.Shelf
set_option linter.unusedVariables false
namespace Vt
open Kk


set_option maxRecDepth 100000 in
set_option maxHeartbeats 4000000 in
theorem refBytes (v s t tag : Int) (hs : List Int) (w : World) (h32 : hs.length = 32) (t0 : 0 ≤ tag) (t1 : tag ≤ 18446744073709551615) :
    Calls Tryd.prog 9 #[.agg (attC v s t hs tag).toArray] w fun e w' => ∃ u, e = .returned (.tuple #[u, .int .i64 (errOf (attI v s t hs ++ tagI tag))]) ∧ EncR (attI v s t hs ++ tagI tag) w u w' := by
  have CK := Lib.hid (fun W => refCheck v s t tag hs W h32)
  have BR' := Lib.hid (fun (hok : chkE v s t = 0) W => refBare v s t tag hs W h32 hok)
  have PT := Lib.hid (fun W => refPut tag W t0 t1)
  have ER := Lib.hid (err_attT v s t tag hs)
  have LL := Lib.hid (attI_len2 (v := v) (s := s) (t := t) h32)
  have TG := Lib.hid (show bytesOf (attI v s t hs ++ tagI tag) = bytesOf (attI v s t hs) ++ Cd.enc tag by rw [bytesOf_append]; simp [bytesOf])
  obtain ⟨D, hD⟩ : ∃ D, D = attC v s t hs tag := ⟨_, rfl⟩
  have HDl := Lib.hid (show D.length = 36 by rw [hD]; exact len_attC h32 v s t tag)
  have HDt := Lib.hid (show D[35]? = some (.int .u64 tag) by rw [hD]; simp [attC, h32])
  rw [← hD] at CK BR' ⊢
  obtain ⟨its, hits⟩ : ∃ its, its = attI v s t hs := ⟨_, rfl⟩
  rw [← hits] at ER LL TG BR' ⊢
  obtain ⟨W, hW⟩ : ∃ W, w.alloc (.cells D.toArray 26) = W := ⟨_, rfl⟩
  obtain ⟨bx, hbx⟩ : ∃ bx, bx = w.heap.size := ⟨_, rfl⟩
  have HB := Lib.hid (show Bel w W by rw [← hW]; exact (Bel.refl w).alloc _)
  have hbk : Blk W bx D.toArray 26 := by rw [← hW, hbx]; exact Blk.new w _ _
  have S0 : W.rangeAt bx 0 D ∧ W.cell? ⟨bx, 35, none⟩ = some (.int .u64 tag) ∧ bx < W.heap.size ∧ Bel w W := ⟨range_blk hbk, hbk.cell 35 (by rw [List.getElem?_toArray]; exact HDt.out), by rw [← hW, hbx]; simp, HB.out⟩
  have KEEP := Lib.hid (show ∀ W W' : World, (W.rangeAt bx 0 D ∧ W.cell? ⟨bx, 35, none⟩ = some (.int .u64 tag) ∧ bx < W.heap.size ∧ Bel w W) → Bel W W' → (W'.rangeAt bx 0 D ∧ W'.cell? ⟨bx, 35, none⟩ = some (.int .u64 tag) ∧ bx < W'.heap.size ∧ Bel w W') from
    fun W W' h hb => ⟨fun j u hu => (Below.cell (p := ⟨bx, 0 + j, none⟩) hb h.2.2.1).trans (h.1 j u hu), (Below.cell (p := ⟨bx, 35, none⟩) hb h.2.2.1).trans h.2.1, Nat.lt_of_lt_of_le h.2.2.1 (Below.size hb), h.2.2.2.trans hb⟩)
  have R0 := Lib.hid S0.1
  have HS0 := Lib.hid S0
  have HW := Lib.hid hW
  have uA := Tryd.underlying26
  have iA : (Tryd.prog.info? 26).map (·.size) = some D.length := by rw [HDl.out]; exact info_att
  have HX := Lib.hid hbx
  obtain ⟨E, hE⟩ : ∃ E, E = chkE v s t := ⟨_, rfl⟩
  rw [← hE] at CK ER BR'
  clear hD hW hbk hbx S0 hE hits
  go_enter Tryd.func9, Tryd.ntmps9
  go_upto_region 1 with fail
  rw [← HX.out, HW.out]
  go_wp2_with (refine wpList_load_mid rfl 26 (.tmp 1) rfl bx 0 rfl D _ R0.out uA rfl iA ?_)
  refine (CK.out W).mono ?_
  rintro e w1 ⟨rfl, m1⟩
  have S1 := Lib.hid (KEEP.out _ _ HS0.out (show Bel W w1 from m1))
  clear m1 R0 HS0
  by_cases e1 : E = 0
  case neg =>
    have f1 : (E != 0) = true := by rw [bne_iff_ne]; exact e1
    have HE := Lib.hid e1
    clear e1
    go_wp2
    go_ret2
    exact ⟨.slice none 0 0, by rw [ER.out]; rfl, S1.out.2.2.2, .inl ⟨by rw [ER.out]; exact HE.out, rfl⟩⟩
  subst e1
  have BR := Lib.hid (BR'.out rfl)
  have S1d := KEEP.out _ _ S1.out (Bel.refl w1).drew
  clear BR' CK
  go_upto_region 4 with fail
  refine wp_region_held_drew (S := fun w' => w'.rangeAt bx 0 D ∧ w'.cell? ⟨bx, 35, none⟩ = some (.int .u64 tag) ∧ bx < w'.heap.size ∧ Bel w w') (by kernel_rfl) S1d (fun hS0 => ?_)
  obtain ⟨v0, hv0⟩ : ∃ v0, w1.drew = v0 := ⟨_, rfl⟩
  rw [hv0] at hS0 ⊢
  clear hv0 S1d
  refine wpAnyH_take (i := 0) (oi := { dst := some 10, op := .load 26 (.tmp 1), type := 26, pos := "ref.go:51", after := #[], guard := none }) (v := .agg D.toArray) rfl (by kernel_rfl) (by kernel_rfl) (by kernel_rfl) (fun _ _ _ h => h) (yieldsIf_load_mid (by rfl) _ _ rfl _ _ rfl _ _ (fun w h => h.1) uA rfl iA) hS0 ?_
  try simp only [Act.put, List.setIfInBounds_toArray, List.set_cons_zero, List.set_cons_succ]
  refine wpAnyH_take (i := 2) (oi := { dst := some 12, op := .fieldAddr 26 (.tmp 1) 4, type := 0, pos := "ref.go:51", after := #[], guard := none }) (v := .pointer (some ⟨bx, 35, none⟩)) rfl (by kernel_rfl) (by kernel_rfl) (by kernel_rfl) (fun _ _ _ h => h) (Or.inl ⟨by rfl, by intro w hSw; clear hSw; go_simp⟩) hS0 ?_
  try simp only [Act.put, List.setIfInBounds_toArray, List.set_cons_zero, List.set_cons_succ]
  refine wpAnyH_take (i := 3) (oi := { dst := some 13, op := .load 24 (.tmp 12), type := 24, pos := "ref.go:51", after := #[{ on := 2, ground := .data }], guard := none }) (v := .int .u64 tag) rfl (by kernel_rfl) (by kernel_rfl) (by kernel_rfl) (fun _ _ _ h => h) (Or.inl ⟨by rfl, by intro w h; have hcell := (h.2.1); clear h; go_simp⟩) hS0 ?_
  try simp only [Act.put, List.setIfInBounds_toArray, List.set_cons_zero, List.set_cons_succ]
  refine wpAnyH_ready (rs := [1]) (by kernel_rfl) (by simp) ?_
  refine AllReadyH.cons (o := { dst := some 11, op := .call { callee := .value (.func 39), args := #[.tmp 10], argTypes := #[26] }, type := 29, pos := "ref.go:51", after := #[{ on := 0, ground := .data }], guard := none }) rfl (fun K hK => ?_) AllReadyH.nil
  go_simp
  refine (BR.out _).mono ?_
  rintro e v1 ⟨vb, rfl, ob, kb⟩
  go_wp2_with fail
  refine hK.out _ _ (KEEP.out _ _ hS0 kb) (fun hS1 => ?_)
  clear hK K
  try simp only [Act.put, List.setIfInBounds_toArray, List.set_cons_zero, List.set_cons_succ]
  have OB := Lib.hid ob
  have BB := Lib.hid (show Bel v0 v1 from kb)
  clear ob kb
  refine wpAnyH_ready (rs := [4]) (by kernel_rfl) (by simp) ?_
  refine AllReadyH.cons (o := { dst := some 14, op := .call { callee := .value (.func 40), args := #[.tmp 13], argTypes := #[24] }, type := 29, pos := "ref.go:51", after := #[{ on := 3, ground := .data }, { on := 1, ground := .chain }], guard := none }) rfl (fun K hK => ?_) AllReadyH.nil
  go_simp
  refine (PT.out _).mono ?_
  rintro e v2 ⟨A, c, rfl, sp, kp⟩
  go_wp2_with fail
  refine hK.out _ _ (KEEP.out _ _ hS1 kp) (fun hS2 => ?_)
  clear hK K
  try simp only [Act.put, List.setIfInBounds_toArray, List.set_cons_zero, List.set_cons_succ]
  have OB := Lib.hid (owns_bel OB.out kp)
  have BB := Lib.hid (BB.out.trans kp)
  have SP := Lib.hid sp
  clear sp kp
  refine wpAnyH_ready (rs := [5]) (by kernel_rfl) (by simp) ?_
  refine AllReadyH.cons (o := { dst := some 15, op := .call { callee := .builtin .append, args := #[.tmp 11, .tmp 14], argTypes := #[29, 29] }, type := 29, pos := "ref.go:51", after := #[{ on := 1, ground := .data }, { on := 4, ground := .data }, { on := 4, ground := .chain }], guard := none }) rfl (fun K hK => ?_) AllReadyH.nil
  refine step_append_sl rfl (.tmp 11) (.tmp 14) rfl (v0.heap.size) (vb) (_) (_) rfl (OB.out) (A) ((Cd.enc tag).length) (c) (Cd.enc tag) rfl (SP.out) (by have := LL.out; have := enc_le tag; omega) (Below.size BB.out) ?_
  intro vw3 v3 hown3 hgrow3
  refine hK.out _ _ (KEEP.out _ _ hS0 (Bel.grown BB.out hgrow3 (fun i e => (OB.out.lt i e).1))) (fun hS3 => ?_)
  clear hK K
  try simp only [Act.put, List.setIfInBounds_toArray, List.set_cons_zero, List.set_cons_succ]
  have O3 := Lib.hid hown3
  have B3 := Lib.hid (Bel.grown BB.out hgrow3 (fun i e => (OB.out.lt i e).1))
  clear hown3 hgrow3
  refine wpAnyH_take (i := 6) (oi := { dst := some 2, op := .assign (.tmp 15), type := 29, pos := "ref.go:51", after := #[{ on := 5, ground := .data }, { on := 5, ground := .chain }, { on := 0, ground := .phase }, { on := 1, ground := .phase }, { on := 2, ground := .phase }, { on := 3, ground := .phase }, { on := 4, ground := .phase }, { on := 5, ground := .phase }], guard := none }) (v := vw3) rfl (by kernel_rfl) (by kernel_rfl) (by kernel_rfl) (fun _ _ _ h => h) (Or.inl ⟨by rfl, by intro w hSw; clear hSw; go_simp⟩) hS3 ?_
  try simp only [Act.put, List.setIfInBounds_toArray, List.set_cons_zero, List.set_cons_succ]
  refine wpAnyH_take (i := 7) (oi := { dst := some 3, op := .assign (.const (Value.int IntKind.i64 0)), type := 30, pos := "ref.go:51", after := #[{ on := 6, ground := .chain }, { on := 0, ground := .phase }, { on := 1, ground := .phase }, { on := 2, ground := .phase }, { on := 3, ground := .phase }, { on := 4, ground := .phase }, { on := 5, ground := .phase }, { on := 6, ground := .phase }], guard := none }) (v := .int .i64 0) rfl (by kernel_rfl) (by kernel_rfl) (by kernel_rfl) (fun _ _ _ h => h) (Or.inl ⟨by rfl, by intro w hSw; clear hSw; go_simp⟩) hS3 ?_
  try simp only [Act.put, List.setIfInBounds_toArray, List.set_cons_zero, List.set_cons_succ]
  refine wpAnyH_done (by kernel_rfl) ?_ _
  go_wp2
  go_ret2
  refine ⟨vw3, by rw [ER.out]; rfl, hS3.2.2.2, .inr ⟨ER.out, ?_⟩⟩
  rw [TG.out, List.length_append, List.map_append]
  exact owns_mono O3.out (Below.size hS0.2.2.2)

set_option maxRecDepth 100000 in
set_option maxHeartbeats 4000000 in
theorem refBytesB (v s tag : Int) (hs : List Int) (w : World) (h32 : hs.length = 32) (t0 : 0 ≤ tag) (t1 : tag ≤ 18446744073709551615) :
    Calls Tryd.prog 11 #[.agg (propC v s hs tag).toArray] w fun e w' => ∃ u, e = .returned (.tuple #[u, .int .i64 (errOf (propI v s hs ++ tagI tag))]) ∧ EncR (propI v s hs ++ tagI tag) w u w' := by
  have CK := Lib.hid (fun W => refCheckB v s tag hs W h32)
  have BR' := Lib.hid (fun (hok : chkBE v s = 0) W => refBareB v s tag hs W h32 hok)
  have PT := Lib.hid (fun W => refPut tag W t0 t1)
  have ER := Lib.hid (err_propT v s tag hs)
  have LL := Lib.hid (propI_len2 (v := v) (s := s) h32)
  have TG := Lib.hid (show bytesOf (propI v s hs ++ tagI tag) = bytesOf (propI v s hs) ++ Cd.enc tag by rw [bytesOf_append]; simp [bytesOf])
  obtain ⟨D, hD⟩ : ∃ D, D = propC v s hs tag := ⟨_, rfl⟩
  have HDl := Lib.hid (show D.length = 35 by rw [hD]; exact len_propC h32 v s tag)
  have HDt := Lib.hid (show D[34]? = some (.int .u64 tag) by rw [hD]; simp [propC, h32])
  rw [← hD] at CK BR' ⊢
  obtain ⟨its, hits⟩ : ∃ its, its = propI v s hs := ⟨_, rfl⟩
  rw [← hits] at ER LL TG BR' ⊢
  obtain ⟨W, hW⟩ : ∃ W, w.alloc (.cells D.toArray 28) = W := ⟨_, rfl⟩
  obtain ⟨bx, hbx⟩ : ∃ bx, bx = w.heap.size := ⟨_, rfl⟩
  have HB := Lib.hid (show Bel w W by rw [← hW]; exact (Bel.refl w).alloc _)
  have hbk : Blk W bx D.toArray 28 := by rw [← hW, hbx]; exact Blk.new w _ _
  have S0 : W.rangeAt bx 0 D ∧ W.cell? ⟨bx, 34, none⟩ = some (.int .u64 tag) ∧ bx < W.heap.size ∧ Bel w W := ⟨range_blk hbk, hbk.cell 34 (by rw [List.getElem?_toArray]; exact HDt.out), by rw [← hW, hbx]; simp, HB.out⟩
  have KEEP := Lib.hid (show ∀ W W' : World, (W.rangeAt bx 0 D ∧ W.cell? ⟨bx, 34, none⟩ = some (.int .u64 tag) ∧ bx < W.heap.size ∧ Bel w W) → Bel W W' → (W'.rangeAt bx 0 D ∧ W'.cell? ⟨bx, 34, none⟩ = some (.int .u64 tag) ∧ bx < W'.heap.size ∧ Bel w W') from
    fun W W' h hb => ⟨fun j u hu => (Below.cell (p := ⟨bx, 0 + j, none⟩) hb h.2.2.1).trans (h.1 j u hu), (Below.cell (p := ⟨bx, 34, none⟩) hb h.2.2.1).trans h.2.1, Nat.lt_of_lt_of_le h.2.2.1 (Below.size hb), h.2.2.2.trans hb⟩)
  have R0 := Lib.hid S0.1
  have HS0 := Lib.hid S0
  have HW := Lib.hid hW
  have uA := Tryd.underlying28
  have iA : (Tryd.prog.info? 28).map (·.size) = some D.length := by rw [HDl.out]; exact info_prop
  have HX := Lib.hid hbx
  obtain ⟨E, hE⟩ : ∃ E, E = chkBE v s := ⟨_, rfl⟩
  rw [← hE] at CK ER BR'
  clear hD hW hbk hbx S0 hE hits
  go_enter Tryd.func11, Tryd.ntmps11
  go_upto_region 1 with fail
  rw [← HX.out, HW.out]
  go_wp2_with (refine wpList_load_mid rfl 28 (.tmp 1) rfl bx 0 rfl D _ R0.out uA rfl iA ?_)
  refine (CK.out W).mono ?_
  rintro e w1 ⟨rfl, m1⟩
  have S1 := Lib.hid (KEEP.out _ _ HS0.out (show Bel W w1 from m1))
  clear m1 R0 HS0
  by_cases e1 : E = 0
  case neg =>
    have f1 : (E != 0) = true := by rw [bne_iff_ne]; exact e1
    have HE := Lib.hid e1
    clear e1
    go_wp2
    go_ret2
    exact ⟨.slice none 0 0, by rw [ER.out]; rfl, S1.out.2.2.2, .inl ⟨by rw [ER.out]; exact HE.out, rfl⟩⟩
  subst e1
  have BR := Lib.hid (BR'.out rfl)
  have S1d := KEEP.out _ _ S1.out (Bel.refl w1).drew
  clear BR' CK
  go_upto_region 4 with fail
  refine wp_region_held_drew (S := fun w' => w'.rangeAt bx 0 D ∧ w'.cell? ⟨bx, 34, none⟩ = some (.int .u64 tag) ∧ bx < w'.heap.size ∧ Bel w w') (by kernel_rfl) S1d (fun hS0 => ?_)
  obtain ⟨v0, hv0⟩ : ∃ v0, w1.drew = v0 := ⟨_, rfl⟩
  rw [hv0] at hS0 ⊢
  clear hv0 S1d
  refine wpAnyH_take (i := 0) (oi := { dst := some 10, op := .load 28 (.tmp 1), type := 28, pos := "ref.go:58", after := #[], guard := none }) (v := .agg D.toArray) rfl (by kernel_rfl) (by kernel_rfl) (by kernel_rfl) (fun _ _ _ h => h) (yieldsIf_load_mid (by rfl) _ _ rfl _ _ rfl _ _ (fun w h => h.1) uA rfl iA) hS0 ?_
  try simp only [Act.put, List.setIfInBounds_toArray, List.set_cons_zero, List.set_cons_succ]
  refine wpAnyH_take (i := 2) (oi := { dst := some 12, op := .fieldAddr 28 (.tmp 1) 3, type := 0, pos := "ref.go:58", after := #[], guard := none }) (v := .pointer (some ⟨bx, 34, none⟩)) rfl (by kernel_rfl) (by kernel_rfl) (by kernel_rfl) (fun _ _ _ h => h) (Or.inl ⟨by rfl, by intro w hSw; clear hSw; go_simp⟩) hS0 ?_
  try simp only [Act.put, List.setIfInBounds_toArray, List.set_cons_zero, List.set_cons_succ]
  refine wpAnyH_take (i := 3) (oi := { dst := some 13, op := .load 24 (.tmp 12), type := 24, pos := "ref.go:58", after := #[{ on := 2, ground := .data }], guard := none }) (v := .int .u64 tag) rfl (by kernel_rfl) (by kernel_rfl) (by kernel_rfl) (fun _ _ _ h => h) (Or.inl ⟨by rfl, by intro w h; have hcell := (h.2.1); clear h; go_simp⟩) hS0 ?_
  try simp only [Act.put, List.setIfInBounds_toArray, List.set_cons_zero, List.set_cons_succ]
  refine wpAnyH_ready (rs := [1]) (by kernel_rfl) (by simp) ?_
  refine AllReadyH.cons (o := { dst := some 11, op := .call { callee := .value (.func 42), args := #[.tmp 10], argTypes := #[28] }, type := 29, pos := "ref.go:58", after := #[{ on := 0, ground := .data }], guard := none }) rfl (fun K hK => ?_) AllReadyH.nil
  go_simp
  refine (BR.out _).mono ?_
  rintro e v1 ⟨vb, rfl, ob, kb⟩
  go_wp2_with fail
  refine hK.out _ _ (KEEP.out _ _ hS0 kb) (fun hS1 => ?_)
  clear hK K
  try simp only [Act.put, List.setIfInBounds_toArray, List.set_cons_zero, List.set_cons_succ]
  have OB := Lib.hid ob
  have BB := Lib.hid (show Bel v0 v1 from kb)
  clear ob kb
  refine wpAnyH_ready (rs := [4]) (by kernel_rfl) (by simp) ?_
  refine AllReadyH.cons (o := { dst := some 14, op := .call { callee := .value (.func 40), args := #[.tmp 13], argTypes := #[24] }, type := 29, pos := "ref.go:58", after := #[{ on := 3, ground := .data }, { on := 1, ground := .chain }], guard := none }) rfl (fun K hK => ?_) AllReadyH.nil
  go_simp
  refine (PT.out _).mono ?_
  rintro e v2 ⟨A, c, rfl, sp, kp⟩
  go_wp2_with fail
  refine hK.out _ _ (KEEP.out _ _ hS1 kp) (fun hS2 => ?_)
  clear hK K
  try simp only [Act.put, List.setIfInBounds_toArray, List.set_cons_zero, List.set_cons_succ]
  have OB := Lib.hid (owns_bel OB.out kp)
  have BB := Lib.hid (BB.out.trans kp)
  have SP := Lib.hid sp
  clear sp kp
  refine wpAnyH_ready (rs := [5]) (by kernel_rfl) (by simp) ?_
  refine AllReadyH.cons (o := { dst := some 15, op := .call { callee := .builtin .append, args := #[.tmp 11, .tmp 14], argTypes := #[29, 29] }, type := 29, pos := "ref.go:58", after := #[{ on := 1, ground := .data }, { on := 4, ground := .data }, { on := 4, ground := .chain }], guard := none }) rfl (fun K hK => ?_) AllReadyH.nil
  refine step_append_sl rfl (.tmp 11) (.tmp 14) rfl (v0.heap.size) (vb) (_) (_) rfl (OB.out) (A) ((Cd.enc tag).length) (c) (Cd.enc tag) rfl (SP.out) (by have := LL.out; have := enc_le tag; omega) (Below.size BB.out) ?_
  intro vw3 v3 hown3 hgrow3
  refine hK.out _ _ (KEEP.out _ _ hS0 (Bel.grown BB.out hgrow3 (fun i e => (OB.out.lt i e).1))) (fun hS3 => ?_)
  clear hK K
  try simp only [Act.put, List.setIfInBounds_toArray, List.set_cons_zero, List.set_cons_succ]
  have O3 := Lib.hid hown3
  have B3 := Lib.hid (Bel.grown BB.out hgrow3 (fun i e => (OB.out.lt i e).1))
  clear hown3 hgrow3
  refine wpAnyH_take (i := 6) (oi := { dst := some 2, op := .assign (.tmp 15), type := 29, pos := "ref.go:58", after := #[{ on := 5, ground := .data }, { on := 5, ground := .chain }, { on := 0, ground := .phase }, { on := 1, ground := .phase }, { on := 2, ground := .phase }, { on := 3, ground := .phase }, { on := 4, ground := .phase }, { on := 5, ground := .phase }], guard := none }) (v := vw3) rfl (by kernel_rfl) (by kernel_rfl) (by kernel_rfl) (fun _ _ _ h => h) (Or.inl ⟨by rfl, by intro w hSw; clear hSw; go_simp⟩) hS3 ?_
  try simp only [Act.put, List.setIfInBounds_toArray, List.set_cons_zero, List.set_cons_succ]
  refine wpAnyH_take (i := 7) (oi := { dst := some 3, op := .assign (.const (Value.int IntKind.i64 0)), type := 30, pos := "ref.go:58", after := #[{ on := 6, ground := .chain }, { on := 0, ground := .phase }, { on := 1, ground := .phase }, { on := 2, ground := .phase }, { on := 3, ground := .phase }, { on := 4, ground := .phase }, { on := 5, ground := .phase }, { on := 6, ground := .phase }], guard := none }) (v := .int .i64 0) rfl (by kernel_rfl) (by kernel_rfl) (by kernel_rfl) (fun _ _ _ h => h) (Or.inl ⟨by rfl, by intro w hSw; clear hSw; go_simp⟩) hS3 ?_
  try simp only [Act.put, List.setIfInBounds_toArray, List.set_cons_zero, List.set_cons_succ]
  refine wpAnyH_done (by kernel_rfl) ?_ _
  go_wp2
  go_ret2
  refine ⟨vw3, by rw [ER.out]; rfl, hS3.2.2.2, .inr ⟨ER.out, ?_⟩⟩
  rw [TG.out, List.length_append, List.map_append]
  exact owns_mono O3.out (Below.size hS0.2.2.2)

set_option maxRecDepth 100000 in
set_option maxHeartbeats 4000000 in
theorem refDigest (v s t tag : Int) (hs : List Int) (w : World) (h32 : hs.length = 32) (hb : By hs) :
    Calls Tryd.prog 19 #[.agg (attC v s t hs tag).toArray] w fun e w' => e = .returned (.tuple #[hsV (dgV (attI v s t hs)), .int .i64 (errOf (attI v s t hs))]) ∧ Bel w w' := by
  have CK := Lib.hid (fun W => refCheck v s t tag hs W h32)
  have BR := Lib.hid (fun (hok : chkE v s t = 0) W => refBare v s t tag hs W h32 hok)
  have ER := Lib.hid (err_attI v s t hs)
  have LL := Lib.hid (attI_len2 (v := v) (s := s) (t := t) h32)
  have BY := Lib.hid (fun h => by_attI (v := v) (s := s) (t := t) hb h)
  obtain ⟨D, hD⟩ : ∃ D, D = attC v s t hs tag := ⟨_, rfl⟩
  have HDl := Lib.hid (show D.length = 36 by rw [hD]; exact len_attC h32 v s t tag)
  rw [← hD] at CK BR ⊢
  obtain ⟨its, hits⟩ : ∃ its, its = attI v s t hs := ⟨_, rfl⟩
  rw [← hits] at ER LL BR BY ⊢
  obtain ⟨bx, hbx⟩ : ∃ bx, bx = w.heap.size := ⟨_, rfl⟩
  obtain ⟨h, hh⟩ : ∃ h, h = w.heap.size + 1 := ⟨_, rfl⟩
  obtain ⟨W1, hW1⟩ : ∃ W, w.alloc (.cells D.toArray 26) = W := ⟨_, rfl⟩
  obtain ⟨W, hW⟩ : ∃ W, W1.alloc Z32h = W := ⟨_, rfl⟩
  have hb1 : Bel w W1 := by rw [← hW1]; exact (Bel.refl w).alloc _
  have hb2 : Bel W1 W := by rw [← hW]; exact (Bel.refl W1).alloc Z32h
  have B0 := Lib.hid (hb1.trans hb2)
  have R0 := Lib.hid (show W.rangeAt bx 0 D by
    have hbk : Blk W1 bx D.toArray 26 := by rw [← hW1, hbx]; exact Blk.new w _ _
    exact range_blk (hbk.bel hb2))
  have TH0 := Lib.hid (show W.there h 0 32 by rw [← hW, hh, show w.heap.size + 1 = W1.heap.size by rw [← hW1]; simp]; exact there_newK (by decide))
  have LT := Lib.hid (show bx < W.heap.size by rw [← hW]; simp; rw [← hW1, hbx]; simp; omega)
  have HW1 := Lib.hid hW1
  have HW := Lib.hid hW
  have HH := Lib.hid hh
  have HX := Lib.hid hbx
  have iA := Lib.hid (show (Tryd.prog.info? 26).map (·.size) = some D.length by rw [HDl.out]; exact info_att)
  obtain ⟨Y, hY, hl, ho⟩ := hs_facts its
  have HY := Lib.hid hY
  have HYs := Lib.hid (show Y.toArray.size = 32 by rw [List.size_toArray]; exact hl)
  have HYo := Lib.hid (all_oneCell_toArray (cs := Y) ho)
  have HYi := Lib.hid (show (Tryd.prog.info? 23).map (·.size) = some Y.toArray.size by rw [HYs.out]; exact info_hash)
  have YI := Lib.hid (show (Tryd.prog.info? 23).map (·.size) = some Y.length by rw [hl]; exact info_hash)
  have HL := Lib.hid hl
  obtain ⟨E, hE⟩ : ∃ E, E = chkE v s t := ⟨_, rfl⟩
  rw [← hE] at CK ER BR
  clear hb1 hb2 hW1 hW hh hbx hD hE hits hY hl ho
  go_enter Tryd.func19, Tryd.ntmps19
  go_upto_region 1 with fail
  rw [← HH.out, ← HX.out, HW1.out, HW.out]
  go_wp2_with (refine wpList_load_mid rfl 26 (.tmp 1) rfl bx 0 rfl D _ R0.out Tryd.underlying26 rfl iA.out ?_)
  refine (CK.out W).mono ?_
  rintro e w2 ⟨rfl, m2⟩
  have B2 := Lib.hid (show Bel W w2 from m2)
  clear m2 CK
  by_cases e1 : E = 0
  case neg =>
    have f1 : (E != 0) = true := by rw [bne_iff_ne]; exact e1
    have HE := Lib.hid (show hsV (dgV its) = .agg Z32l.toArray by unfold dgV; rw [if_neg (by rw [ER.out]; exact e1)])
    have HYZ := Lib.hid (show Y.toArray = Z32l.toArray by have := HY.out; rw [HE.out] at this; injection this with this; exact this.symm)
    have TH2 := Lib.hid (show w2.there h 0 Y.toArray.size by rw [HYs.out]; exact there_bel TH0.out B2.out)
    clear e1
    go_wp2_with (refine wpList_store_mid rfl 23 (.tmp 2) (.tmp 9) rfl h 0 Y.toArray rfl (by rw [HYZ.out]; rfl) TH2.out HYi.out HYo.out ?_)
    have RE : (w2.setCells h 0 Y).rangeAt h 0 Y := World.rangeAt_setCells_same _ _ _ _ (by have := TH2.out; rw [HYs.out] at this; rw [HL.out]; exact this)
    refine bodyPost_ret (results_ct Tryd.results19 _ _ ⟨h, 0, none⟩ (.agg Y.toArray) (.int .i64 E) rfl rfl (run_loadVar_mid (P := Tryd.prog) _ h 0 23 Y _ RE Tryd.underlying23 rfl YI.out)) rfl ⟨by rw [HY.out, ER.out], ?_⟩
    exact Kep.bel (B0.out.trans B2.out) (kep_setCellsK h Y 0 _) (fun i hi => by have := HH.out; omega)
  subst e1
  have R2 := Lib.hid (range_up R0.out B2.out LT.out)
  go_wp2_with (refine wpList_load_mid rfl 26 (.tmp 1) rfl bx 0 rfl D _ R2.out Tryd.underlying26 rfl iA.out ?_)
  refine (BR.out (by simp) w2).mono ?_
  rintro e w3 ⟨vb, rfl, ob, kb⟩
  obtain ⟨A, c, rfl, sb⟩ := sl_of_own ob
  have HD := Lib.hid (show dgV its = sumOf (bytesOf its) by unfold dgV; rw [if_pos ER.out])
  have SM := Lib.hid (refSum A _ c _ w3 sb (BY.out ER.out) (by have := LL.out; omega))
  have YS := Lib.hid (show hsV (sumOf (bytesOf its)) = .agg Y.toArray by rw [← HD.out]; exact HY.out)
  have B3 := Lib.hid (B2.out.trans kb)
  obtain ⟨n, hn⟩ : ∃ n, n = (bytesOf its).length := ⟨_, rfl⟩
  rw [← hn] at SM ⊢
  clear ob kb sb BR hn
  go_wp2_with fail
  refine SM.out.mono ?_
  rintro e w4 ⟨rfl, k4⟩
  rw [YS.out]
  have B4 := Lib.hid (B3.out.trans k4)
  have TH4 := Lib.hid (show w4.there h 0 Y.toArray.size by rw [HYs.out]; exact there_bel TH0.out B4.out)
  clear k4 SM
  go_wp2_with (refine wpList_store_mid rfl 23 (.tmp 2) (.tmp 13) rfl h 0 Y.toArray rfl rfl TH4.out HYi.out HYo.out ?_)
  have RE : (w4.setCells h 0 Y).rangeAt h 0 Y := World.rangeAt_setCells_same _ _ _ _ (by have := TH4.out; rw [HYs.out] at this; rw [HL.out]; exact this)
  refine bodyPost_ret (results_ct Tryd.results19 _ _ ⟨h, 0, none⟩ (.agg Y.toArray) (.int .i64 0) rfl rfl (run_loadVar_mid (P := Tryd.prog) _ h 0 23 Y _ RE Tryd.underlying23 rfl YI.out)) rfl ⟨by rw [HY.out, ER.out], ?_⟩
  exact Kep.bel (B0.out.trans B4.out) (kep_setCellsK h Y 0 _) (fun i hi => by have := HH.out; omega)

set_option maxRecDepth 100000 in
set_option maxHeartbeats 4000000 in
theorem refDigestB (v s tag : Int) (hs : List Int) (w : World) (h32 : hs.length = 32) (hb : By hs) :
    Calls Tryd.prog 21 #[.agg (propC v s hs tag).toArray] w fun e w' => e = .returned (.tuple #[hsV (dgV (propI v s hs)), .int .i64 (errOf (propI v s hs))]) ∧ Bel w w' := by
  have CK := Lib.hid (fun W => refCheckB v s tag hs W h32)
  have BR := Lib.hid (fun (hok : chkBE v s = 0) W => refBareB v s tag hs W h32 hok)
  have ER := Lib.hid (err_propI v s hs)
  have LL := Lib.hid (propI_len2 (v := v) (s := s) h32)
  have BY := Lib.hid (fun h => by_propI (v := v) (s := s) hb h)
  obtain ⟨D, hD⟩ : ∃ D, D = propC v s hs tag := ⟨_, rfl⟩
  have HDl := Lib.hid (show D.length = 35 by rw [hD]; exact len_propC h32 v s tag)
  rw [← hD] at CK BR ⊢
  obtain ⟨its, hits⟩ : ∃ its, its = propI v s hs := ⟨_, rfl⟩
  rw [← hits] at ER LL BR BY ⊢
  obtain ⟨bx, hbx⟩ : ∃ bx, bx = w.heap.size := ⟨_, rfl⟩
  obtain ⟨h, hh⟩ : ∃ h, h = w.heap.size + 1 := ⟨_, rfl⟩
  obtain ⟨W1, hW1⟩ : ∃ W, w.alloc (.cells D.toArray 28) = W := ⟨_, rfl⟩
  obtain ⟨W, hW⟩ : ∃ W, W1.alloc Z32h = W := ⟨_, rfl⟩
  have hb1 : Bel w W1 := by rw [← hW1]; exact (Bel.refl w).alloc _
  have hb2 : Bel W1 W := by rw [← hW]; exact (Bel.refl W1).alloc Z32h
  have B0 := Lib.hid (hb1.trans hb2)
  have R0 := Lib.hid (show W.rangeAt bx 0 D by
    have hbk : Blk W1 bx D.toArray 28 := by rw [← hW1, hbx]; exact Blk.new w _ _
    exact range_blk (hbk.bel hb2))
  have TH0 := Lib.hid (show W.there h 0 32 by rw [← hW, hh, show w.heap.size + 1 = W1.heap.size by rw [← hW1]; simp]; exact there_newK (by decide))
  have LT := Lib.hid (show bx < W.heap.size by rw [← hW]; simp; rw [← hW1, hbx]; simp; omega)
  have HW1 := Lib.hid hW1
  have HW := Lib.hid hW
  have HH := Lib.hid hh
  have HX := Lib.hid hbx
  have iA := Lib.hid (show (Tryd.prog.info? 28).map (·.size) = some D.length by rw [HDl.out]; exact info_prop)
  obtain ⟨Y, hY, hl, ho⟩ := hs_facts its
  have HY := Lib.hid hY
  have HYs := Lib.hid (show Y.toArray.size = 32 by rw [List.size_toArray]; exact hl)
  have HYo := Lib.hid (all_oneCell_toArray (cs := Y) ho)
  have HYi := Lib.hid (show (Tryd.prog.info? 23).map (·.size) = some Y.toArray.size by rw [HYs.out]; exact info_hash)
  have YI := Lib.hid (show (Tryd.prog.info? 23).map (·.size) = some Y.length by rw [hl]; exact info_hash)
  have HL := Lib.hid hl
  obtain ⟨E, hE⟩ : ∃ E, E = chkBE v s := ⟨_, rfl⟩
  rw [← hE] at CK ER BR
  clear hb1 hb2 hW1 hW hh hbx hD hE hits hY hl ho
  go_enter Tryd.func21, Tryd.ntmps21
  go_upto_region 1 with fail
  rw [← HH.out, ← HX.out, HW1.out, HW.out]
  go_wp2_with (refine wpList_load_mid rfl 28 (.tmp 1) rfl bx 0 rfl D _ R0.out Tryd.underlying28 rfl iA.out ?_)
  refine (CK.out W).mono ?_
  rintro e w2 ⟨rfl, m2⟩
  have B2 := Lib.hid (show Bel W w2 from m2)
  clear m2 CK
  by_cases e1 : E = 0
  case neg =>
    have f1 : (E != 0) = true := by rw [bne_iff_ne]; exact e1
    have HE := Lib.hid (show hsV (dgV its) = .agg Z32l.toArray by unfold dgV; rw [if_neg (by rw [ER.out]; exact e1)])
    have HYZ := Lib.hid (show Y.toArray = Z32l.toArray by have := HY.out; rw [HE.out] at this; injection this with this; exact this.symm)
    have TH2 := Lib.hid (show w2.there h 0 Y.toArray.size by rw [HYs.out]; exact there_bel TH0.out B2.out)
    clear e1
    go_wp2_with (refine wpList_store_mid rfl 23 (.tmp 2) (.tmp 9) rfl h 0 Y.toArray rfl (by rw [HYZ.out]; rfl) TH2.out HYi.out HYo.out ?_)
    have RE : (w2.setCells h 0 Y).rangeAt h 0 Y := World.rangeAt_setCells_same _ _ _ _ (by have := TH2.out; rw [HYs.out] at this; rw [HL.out]; exact this)
    refine bodyPost_ret (results_ct Tryd.results21 _ _ ⟨h, 0, none⟩ (.agg Y.toArray) (.int .i64 E) rfl rfl (run_loadVar_mid (P := Tryd.prog) _ h 0 23 Y _ RE Tryd.underlying23 rfl YI.out)) rfl ⟨by rw [HY.out, ER.out], ?_⟩
    exact Kep.bel (B0.out.trans B2.out) (kep_setCellsK h Y 0 _) (fun i hi => by have := HH.out; omega)
  subst e1
  have R2 := Lib.hid (range_up R0.out B2.out LT.out)
  go_wp2_with (refine wpList_load_mid rfl 28 (.tmp 1) rfl bx 0 rfl D _ R2.out Tryd.underlying28 rfl iA.out ?_)
  refine (BR.out (by simp) w2).mono ?_
  rintro e w3 ⟨vb, rfl, ob, kb⟩
  obtain ⟨A, c, rfl, sb⟩ := sl_of_own ob
  have HD := Lib.hid (show dgV its = sumOf (bytesOf its) by unfold dgV; rw [if_pos ER.out])
  have SM := Lib.hid (refSum A _ c _ w3 sb (BY.out ER.out) (by have := LL.out; omega))
  have YS := Lib.hid (show hsV (sumOf (bytesOf its)) = .agg Y.toArray by rw [← HD.out]; exact HY.out)
  have B3 := Lib.hid (B2.out.trans kb)
  obtain ⟨n, hn⟩ : ∃ n, n = (bytesOf its).length := ⟨_, rfl⟩
  rw [← hn] at SM ⊢
  clear ob kb sb BR hn
  go_wp2_with fail
  refine SM.out.mono ?_
  rintro e w4 ⟨rfl, k4⟩
  rw [YS.out]
  have B4 := Lib.hid (B3.out.trans k4)
  have TH4 := Lib.hid (show w4.there h 0 Y.toArray.size by rw [HYs.out]; exact there_bel TH0.out B4.out)
  clear k4 SM
  go_wp2_with (refine wpList_store_mid rfl 23 (.tmp 2) (.tmp 13) rfl h 0 Y.toArray rfl rfl TH4.out HYi.out HYo.out ?_)
  have RE : (w4.setCells h 0 Y).rangeAt h 0 Y := World.rangeAt_setCells_same _ _ _ _ (by have := TH4.out; rw [HYs.out] at this; rw [HL.out]; exact this)
  refine bodyPost_ret (results_ct Tryd.results21 _ _ ⟨h, 0, none⟩ (.agg Y.toArray) (.int .i64 0) rfl rfl (run_loadVar_mid (P := Tryd.prog) _ h 0 23 Y _ RE Tryd.underlying23 rfl YI.out)) rfl ⟨by rw [HY.out, ER.out], ?_⟩
  exact Kep.bel (B0.out.trans B4.out) (kep_setCellsK h Y 0 _) (fun i hi => by have := HH.out; omega)
end Vt
end Go.Proofs.YtjbbecplkkkiiaaDoor
end

section
/-
  What the reference's Doubles, DoublesBlock and Surrounds answer. Condition: roots have 32 bytes.
-/
namespace Go.Proofs.YtjbbecplkkkiiaaDoor
open Go.RowKit Go.Shelf
set_option linter.unusedVariables false
namespace Vt
open Kk

set_option maxRecDepth 100000 in
set_option maxHeartbeats 4000000 in
theorem refDoubles (v1 s1 t1 g1 : Int) (h1 : List Int) (v2 s2 t2 g2 : Int) (h2 : List Int) (w : World) (l1 : h1.length = 32) (y1 : By h1) (l2 : h2.length = 32) (y2 : By h2) :
    Calls Tryd.prog 24 #[.agg (attC v1 s1 t1 h1 g1).toArray, .agg (attC v2 s2 t2 h2 g2).toArray] w fun e w' => e = .returned (.bool ((v1 == v2) && ((t1 == t2) && dif (attI v1 s1 t1 h1) (attI v2 s2 t2 h2)))) ∧ Bel w w' := by
  have D1 := Lib.hid (fun W => refDigest v1 s1 t1 g1 h1 W l1 y1)
  have D2 := Lib.hid (fun W => refDigest v2 s2 t2 g2 h2 W l2 y2)
  obtain ⟨A, hA⟩ : ∃ A, A = attI v1 s1 t1 h1 := ⟨_, rfl⟩
  obtain ⟨B, hB⟩ : ∃ A, A = attI v2 s2 t2 h2 := ⟨_, rfl⟩
  obtain ⟨C1, hC1⟩ : ∃ D, D = attC v1 s1 t1 h1 g1 := ⟨_, rfl⟩
  obtain ⟨C2, hC2⟩ : ∃ D, D = attC v2 s2 t2 h2 g2 := ⟨_, rfl⟩
  have L1 := Lib.hid (show C1.length = 36 by rw [hC1]; exact len_attC l1 v1 s1 t1 g1)
  have L2 := Lib.hid (show C2.length = 36 by rw [hC2]; exact len_attC l2 v2 s2 t2 g2)
  have a1 : C1[0]? = some (.int .i64 v1) := by rw [hC1]; rfl
  have a2 : C2[0]? = some (.int .i64 v2) := by rw [hC2]; rfl
  have c1 : C1[2]? = some (.int .i64 t1) := by rw [hC1]; rfl
  have c2 : C2[2]? = some (.int .i64 t2) := by rw [hC2]; rfl
  rw [← hA, ← hC1] at D1
  rw [← hB, ← hC2] at D2
  rw [← hA, ← hB, ← hC1, ← hC2]
  clear hA hB hC1 hC2 l1 l2 y1 y2
  obtain ⟨E1, hE1⟩ : ∃ E, E = errOf A := ⟨_, rfl⟩
  obtain ⟨E2, hE2⟩ : ∃ E, E = errOf B := ⟨_, rfl⟩
  obtain ⟨Y1, hY1, n1, o1⟩ := hs_facts A
  obtain ⟨Y2, hY2, n2, o2⟩ := hs_facts B
  have NQ := Lib.hid (show ∀ W, (binOp .neq 23 (.agg Y1.toArray) (.agg Y2.toArray)).run Tryd.prog W = .ok (.bool (!(dgV A == dgV B))) W by
    intro W
    rw [← hY1, ← hY2]
    exact neq_hs _ _ (dgV_len A) (dgV_len B) W)
  obtain ⟨R, hR⟩ : ∃ R, R = ((v1 == v2) && ((t1 == t2) && dif A B)) := ⟨_, rfl⟩
  have HD := Lib.hid (show R = ((v1 == v2) && ((t1 == t2) && ((E1 == 0) && ((E2 == 0) && !(dgV A == dgV B))))) by rw [hR, hE1, hE2]; rfl)
  rw [hY1, ← hE1] at D1
  rw [hY2, ← hE2] at D2
  rw [← hR]
  clear hE1 hE2 hY1 hY2 hR
  obtain ⟨q, hq⟩ : ∃ q, q = !(dgV A == dgV B) := ⟨_, rfl⟩
  rw [← hq] at NQ HD
  have s1 : Y1.toArray.size = 32 := by rw [List.size_toArray]; exact n1
  have s2 : Y2.toArray.size = 32 := by rw [List.size_toArray]; exact n2
  have O1 := Lib.hid (all_oneCell_toArray (cs := Y1) o1)
  have O2 := Lib.hid (all_oneCell_toArray (cs := Y2) o2)
  have I1 := Lib.hid (show (Tryd.prog.info? 23).map (·.size) = some Y1.toArray.size by rw [s1]; exact info_hash)
  have I2 := Lib.hid (show (Tryd.prog.info? 23).map (·.size) = some Y2.toArray.size by rw [s2]; exact info_hash)
  have J1 := Lib.hid (show (Tryd.prog.info? 23).map (·.size) = some Y1.length by rw [n1]; exact info_hash)
  have J2 := Lib.hid (show (Tryd.prog.info? 23).map (·.size) = some Y2.length by rw [n2]; exact info_hash)
  have N1 := Lib.hid n1
  have N2 := Lib.hid n2
  clear hq s1 s2 o1 o2 n1 n2
  obtain ⟨b1, hb1⟩ : ∃ b, b = w.heap.size := ⟨_, rfl⟩
  obtain ⟨b2, hb2⟩ : ∃ b, b = w.heap.size + 1 := ⟨_, rfl⟩
  obtain ⟨W1, hW1⟩ : ∃ W, w.alloc (.cells C1.toArray 26) = W := ⟨_, rfl⟩
  obtain ⟨W, hW⟩ : ∃ W, W1.alloc (.cells C2.toArray 26) = W := ⟨_, rfl⟩
  have z1 : W1.heap.size = w.heap.size + 1 := by rw [← hW1]; simp
  have z2 : W.heap.size = w.heap.size + 2 := by rw [← hW]; simp; exact z1
  have k1 : Bel w W1 := by rw [← hW1]; exact (Bel.refl w).alloc _
  have k2 : Bel W1 W := by rw [← hW]; exact (Bel.refl W1).alloc _
  have hbk1 : Blk W b1 C1.toArray 26 := by
    have hbk : Blk W1 b1 C1.toArray 26 := by rw [← hW1, hb1]; exact Blk.new w _ _
    exact hbk.bel k2
  have hbk2 : Blk W b2 C2.toArray 26 := by rw [← hW, hb2, ← z1]; exact Blk.new W1 _ _
  have CL := Lib.hid (show ∀ X, Bel W X → X.cell? ⟨b1, 0, none⟩ = some (.int .i64 v1) ∧ X.cell? ⟨b2, 0, none⟩ = some (.int .i64 v2) ∧ X.cell? ⟨b1, 2, none⟩ = some (.int .i64 t1) ∧ X.cell? ⟨b2, 2, none⟩ = some (.int .i64 t2) from fun X hX =>
    ⟨(hbk1.bel hX).cell 0 (by rw [List.getElem?_toArray]; exact a1), (hbk2.bel hX).cell 0 (by rw [List.getElem?_toArray]; exact a2), (hbk1.bel hX).cell 2 (by rw [List.getElem?_toArray]; exact c1), (hbk2.bel hX).cell 2 (by rw [List.getElem?_toArray]; exact c2)⟩)
  have R1 := Lib.hid (show W.rangeAt b1 0 C1 from range_blk hbk1)
  have R2 := Lib.hid (show W.rangeAt b2 0 C2 from range_blk hbk2)
  have LT2 := Lib.hid (show b2 < W.heap.size by omega)
  have B0 := Lib.hid (k1.trans k2)
  have HW1 := Lib.hid hW1
  have HW := Lib.hid hW
  have X1 := Lib.hid hb1
  have X2 := Lib.hid hb2
  clear hb1 hb2 hW1 hW z1 z2 k1 k2 hbk1 hbk2 a1 a2 c1 c2
  go_enter Tryd.func24, Tryd.ntmps24
  go_upto_region 1 with fail
  rw [← X2.out, ← X1.out, HW1.out, HW.out]
  go_wp2_with (refine wpList_load_mid rfl 26 (.tmp 2) rfl b1 0 rfl C1 _ R1.out Tryd.underlying26 rfl (by rw [L1.out]; exact info_att) ?_)
  refine (D1.out W).mono ?_
  rintro e w2 ⟨rfl, m2⟩
  have M2 := Lib.hid (show Bel W w2 from m2)
  clear m2
  obtain ⟨t1, t2, t3, t4⟩ := put32 w2 Y1 N1.out
  have TH := Lib.hid t1
  have M3 := Lib.hid (M2.out.trans t2)
  have RH := Lib.hid t3
  have LH := Lib.hid t4
  clear t1 t2 t3 t4
  go_upto_region 2 with (refine wpList_store_mid rfl 23 (.tmp 5) (.tmp 12) rfl w2.heap.size 0 Y1.toArray rfl rfl TH.out I1.out O1.out ?_)
  obtain ⟨w3, hw3⟩ : ∃ w3, (w2.alloc Z32h).setCells w2.heap.size 0 Y1 = w3 := ⟨_, rfl⟩
  obtain ⟨q1, hq1⟩ : ∃ q, q = w2.heap.size := ⟨_, rfl⟩
  rw [hw3] at M3 RH LH ⊢
  rw [← hq1] at RH LH ⊢
  clear hw3 hq1 TH
  have R2b := Lib.hid (range_up R2.out M3.out LT2.out)
  go_wp2_with (refine wpList_load_mid rfl 26 (.tmp 3) rfl b2 0 rfl C2 _ R2b.out Tryd.underlying26 rfl (by rw [L2.out]; exact info_att) ?_)
  refine (D2.out w3).mono ?_
  rintro e w4 ⟨rfl, m4⟩
  have M4 := Lib.hid (show Bel w3 w4 from m4)
  clear m4
  obtain ⟨t1, t2, t3, t4⟩ := put32 w4 Y2 N2.out
  have TH := Lib.hid t1
  have M5 := Lib.hid (M4.out.trans t2)
  have RI := Lib.hid t3
  clear t1 t2 t3 t4
  go_upto_region 3 with (refine wpList_store_mid rfl 23 (.tmp 7) (.tmp 17) rfl w4.heap.size 0 Y2.toArray rfl rfl TH.out I2.out O2.out ?_)
  obtain ⟨w5, hw5⟩ : ∃ w3, (w4.alloc Z32h).setCells w4.heap.size 0 Y2 = w3 := ⟨_, rfl⟩
  obtain ⟨q2, hq2⟩ : ∃ q, q = w4.heap.size := ⟨_, rfl⟩
  rw [hw5] at M5 RI ⊢
  rw [← hq2] at RI ⊢
  clear hw5 hq2 TH
  have RH5 := Lib.hid (range_up RH.out M5.out LH.out)
  have BB := Lib.hid (B0.out.trans (M3.out.trans M5.out))
  obtain ⟨x1, x2, x3, x4⟩ := CL.out w5 (M3.out.trans M5.out)
  clear M3 M4 M5 M2 B0 CL
  by_cases e1 : E1 = 0
  case neg =>
    have f1 : (E1 == 0) = false := by rw [beq_eq_false_iff_ne]; exact e1
    have HZ := Lib.hid (show R = false by rw [HD.out, f1]; simp)
    clear e1 NQ HD
    go_wp2
    go_ret
    exact ⟨by rw [HZ.out]; rfl, BB.out⟩
  subst e1
  by_cases e2 : E2 = 0
  case neg =>
    have f1 : (E2 == 0) = false := by rw [beq_eq_false_iff_ne]; exact e2
    have HZ := Lib.hid (show R = false by rw [HD.out, f1]; simp)
    clear e2 NQ HD
    go_wp2
    go_ret
    exact ⟨by rw [HZ.out]; rfl, BB.out⟩
  subst e2
  by_cases e3 : v1 = v2
  case neg =>
    have f1 : (v1 == v2) = false := by rw [beq_eq_false_iff_ne]; exact e3
    have HZ := Lib.hid (show R = false by rw [HD.out, f1]; simp)
    clear e3 NQ HD
    go_wp2
    go_ret
    exact ⟨by rw [HZ.out]; rfl, BB.out⟩
  subst e3
  by_cases e4 : t1 = t2
  case neg =>
    have f1 : (t1 == t2) = false := by rw [beq_eq_false_iff_ne]; exact e4
    have HZ := Lib.hid (show R = false by rw [HD.out, f1]; simp)
    clear e4 NQ HD
    go_wp2
    go_ret
    exact ⟨by rw [HZ.out]; rfl, BB.out⟩
  subst e4
  have HZ := Lib.hid (show R = q by rw [HD.out]; simp)
  have nq := NQ.out
  clear HD NQ
  go_wp2_with (first | (refine load_guarded (by rfl) 23 (.tmp 5) rfl q1 0 rfl Y1 _ RH5.out Tryd.underlying23 rfl J1.out ?_) | (refine load_guarded (by rfl) 23 (.tmp 7) rfl q2 0 rfl Y2 _ RI.out Tryd.underlying23 rfl J2.out ?_))
  go_ret
  exact ⟨by rw [HZ.out]; rfl, BB.out⟩

set_option maxRecDepth 100000 in
set_option maxHeartbeats 4000000 in
theorem refDoublesB (v1 s1 g1 : Int) (h1 : List Int) (v2 s2 g2 : Int) (h2 : List Int) (w : World) (l1 : h1.length = 32) (y1 : By h1) (l2 : h2.length = 32) (y2 : By h2) :
    Calls Tryd.prog 28 #[.agg (propC v1 s1 h1 g1).toArray, .agg (propC v2 s2 h2 g2).toArray] w fun e w' => e = .returned (.bool ((v1 == v2) && ((s1 == s2) && dif (propI v1 s1 h1) (propI v2 s2 h2)))) ∧ Bel w w' := by
  have D1 := Lib.hid (fun W => refDigestB v1 s1 g1 h1 W l1 y1)
  have D2 := Lib.hid (fun W => refDigestB v2 s2 g2 h2 W l2 y2)
  obtain ⟨A, hA⟩ : ∃ A, A = propI v1 s1 h1 := ⟨_, rfl⟩
  obtain ⟨B, hB⟩ : ∃ A, A = propI v2 s2 h2 := ⟨_, rfl⟩
  obtain ⟨C1, hC1⟩ : ∃ D, D = propC v1 s1 h1 g1 := ⟨_, rfl⟩
  obtain ⟨C2, hC2⟩ : ∃ D, D = propC v2 s2 h2 g2 := ⟨_, rfl⟩
  have L1 := Lib.hid (show C1.length = 35 by rw [hC1]; exact len_propC l1 v1 s1 g1)
  have L2 := Lib.hid (show C2.length = 35 by rw [hC2]; exact len_propC l2 v2 s2 g2)
  have a1 : C1[0]? = some (.int .i64 v1) := by rw [hC1]; rfl
  have a2 : C2[0]? = some (.int .i64 v2) := by rw [hC2]; rfl
  have c1 : C1[1]? = some (.int .i64 s1) := by rw [hC1]; rfl
  have c2 : C2[1]? = some (.int .i64 s2) := by rw [hC2]; rfl
  rw [← hA, ← hC1] at D1
  rw [← hB, ← hC2] at D2
  rw [← hA, ← hB, ← hC1, ← hC2]
  clear hA hB hC1 hC2 l1 l2 y1 y2
  obtain ⟨E1, hE1⟩ : ∃ E, E = errOf A := ⟨_, rfl⟩
  obtain ⟨E2, hE2⟩ : ∃ E, E = errOf B := ⟨_, rfl⟩
  obtain ⟨Y1, hY1, n1, o1⟩ := hs_facts A
  obtain ⟨Y2, hY2, n2, o2⟩ := hs_facts B
  have NQ := Lib.hid (show ∀ W, (binOp .neq 23 (.agg Y1.toArray) (.agg Y2.toArray)).run Tryd.prog W = .ok (.bool (!(dgV A == dgV B))) W by
    intro W
    rw [← hY1, ← hY2]
    exact neq_hs _ _ (dgV_len A) (dgV_len B) W)
  obtain ⟨R, hR⟩ : ∃ R, R = ((v1 == v2) && ((s1 == s2) && dif A B)) := ⟨_, rfl⟩
  have HD := Lib.hid (show R = ((v1 == v2) && ((s1 == s2) && ((E1 == 0) && ((E2 == 0) && !(dgV A == dgV B))))) by rw [hR, hE1, hE2]; rfl)
  rw [hY1, ← hE1] at D1
  rw [hY2, ← hE2] at D2
  rw [← hR]
  clear hE1 hE2 hY1 hY2 hR
  obtain ⟨q, hq⟩ : ∃ q, q = !(dgV A == dgV B) := ⟨_, rfl⟩
  rw [← hq] at NQ HD
  have s1 : Y1.toArray.size = 32 := by rw [List.size_toArray]; exact n1
  have s2 : Y2.toArray.size = 32 := by rw [List.size_toArray]; exact n2
  have O1 := Lib.hid (all_oneCell_toArray (cs := Y1) o1)
  have O2 := Lib.hid (all_oneCell_toArray (cs := Y2) o2)
  have I1 := Lib.hid (show (Tryd.prog.info? 23).map (·.size) = some Y1.toArray.size by rw [s1]; exact info_hash)
  have I2 := Lib.hid (show (Tryd.prog.info? 23).map (·.size) = some Y2.toArray.size by rw [s2]; exact info_hash)
  have J1 := Lib.hid (show (Tryd.prog.info? 23).map (·.size) = some Y1.length by rw [n1]; exact info_hash)
  have J2 := Lib.hid (show (Tryd.prog.info? 23).map (·.size) = some Y2.length by rw [n2]; exact info_hash)
  have N1 := Lib.hid n1
  have N2 := Lib.hid n2
  clear hq s1 s2 o1 o2 n1 n2
  obtain ⟨b1, hb1⟩ : ∃ b, b = w.heap.size := ⟨_, rfl⟩
  obtain ⟨b2, hb2⟩ : ∃ b, b = w.heap.size + 1 := ⟨_, rfl⟩
  obtain ⟨W1, hW1⟩ : ∃ W, w.alloc (.cells C1.toArray 28) = W := ⟨_, rfl⟩
  obtain ⟨W, hW⟩ : ∃ W, W1.alloc (.cells C2.toArray 28) = W := ⟨_, rfl⟩
  have z1 : W1.heap.size = w.heap.size + 1 := by rw [← hW1]; simp
  have z2 : W.heap.size = w.heap.size + 2 := by rw [← hW]; simp; exact z1
  have k1 : Bel w W1 := by rw [← hW1]; exact (Bel.refl w).alloc _
  have k2 : Bel W1 W := by rw [← hW]; exact (Bel.refl W1).alloc _
  have hbk1 : Blk W b1 C1.toArray 28 := by
    have hbk : Blk W1 b1 C1.toArray 28 := by rw [← hW1, hb1]; exact Blk.new w _ _
    exact hbk.bel k2
  have hbk2 : Blk W b2 C2.toArray 28 := by rw [← hW, hb2, ← z1]; exact Blk.new W1 _ _
  have CL := Lib.hid (show ∀ X, Bel W X → X.cell? ⟨b1, 0, none⟩ = some (.int .i64 v1) ∧ X.cell? ⟨b2, 0, none⟩ = some (.int .i64 v2) ∧ X.cell? ⟨b1, 1, none⟩ = some (.int .i64 s1) ∧ X.cell? ⟨b2, 1, none⟩ = some (.int .i64 s2) from fun X hX =>
    ⟨(hbk1.bel hX).cell 0 (by rw [List.getElem?_toArray]; exact a1), (hbk2.bel hX).cell 0 (by rw [List.getElem?_toArray]; exact a2), (hbk1.bel hX).cell 1 (by rw [List.getElem?_toArray]; exact c1), (hbk2.bel hX).cell 1 (by rw [List.getElem?_toArray]; exact c2)⟩)
  have R1 := Lib.hid (show W.rangeAt b1 0 C1 from range_blk hbk1)
  have R2 := Lib.hid (show W.rangeAt b2 0 C2 from range_blk hbk2)
  have LT2 := Lib.hid (show b2 < W.heap.size by omega)
  have B0 := Lib.hid (k1.trans k2)
  have HW1 := Lib.hid hW1
  have HW := Lib.hid hW
  have X1 := Lib.hid hb1
  have X2 := Lib.hid hb2
  clear hb1 hb2 hW1 hW z1 z2 k1 k2 hbk1 hbk2 a1 a2 c1 c2
  go_enter Tryd.func28, Tryd.ntmps28
  go_upto_region 1 with fail
  rw [← X2.out, ← X1.out, HW1.out, HW.out]
  go_wp2_with (refine wpList_load_mid rfl 28 (.tmp 2) rfl b1 0 rfl C1 _ R1.out Tryd.underlying28 rfl (by rw [L1.out]; exact info_prop) ?_)
  refine (D1.out W).mono ?_
  rintro e w2 ⟨rfl, m2⟩
  have M2 := Lib.hid (show Bel W w2 from m2)
  clear m2
  obtain ⟨t1, t2, t3, t4⟩ := put32 w2 Y1 N1.out
  have TH := Lib.hid t1
  have M3 := Lib.hid (M2.out.trans t2)
  have RH := Lib.hid t3
  have LH := Lib.hid t4
  clear t1 t2 t3 t4
  go_upto_region 2 with (refine wpList_store_mid rfl 23 (.tmp 5) (.tmp 12) rfl w2.heap.size 0 Y1.toArray rfl rfl TH.out I1.out O1.out ?_)
  obtain ⟨w3, hw3⟩ : ∃ w3, (w2.alloc Z32h).setCells w2.heap.size 0 Y1 = w3 := ⟨_, rfl⟩
  obtain ⟨q1, hq1⟩ : ∃ q, q = w2.heap.size := ⟨_, rfl⟩
  rw [hw3] at M3 RH LH ⊢
  rw [← hq1] at RH LH ⊢
  clear hw3 hq1 TH
  have R2b := Lib.hid (range_up R2.out M3.out LT2.out)
  go_wp2_with (refine wpList_load_mid rfl 28 (.tmp 3) rfl b2 0 rfl C2 _ R2b.out Tryd.underlying28 rfl (by rw [L2.out]; exact info_prop) ?_)
  refine (D2.out w3).mono ?_
  rintro e w4 ⟨rfl, m4⟩
  have M4 := Lib.hid (show Bel w3 w4 from m4)
  clear m4
  obtain ⟨t1, t2, t3, t4⟩ := put32 w4 Y2 N2.out
  have TH := Lib.hid t1
  have M5 := Lib.hid (M4.out.trans t2)
  have RI := Lib.hid t3
  clear t1 t2 t3 t4
  go_upto_region 3 with (refine wpList_store_mid rfl 23 (.tmp 7) (.tmp 17) rfl w4.heap.size 0 Y2.toArray rfl rfl TH.out I2.out O2.out ?_)
  obtain ⟨w5, hw5⟩ : ∃ w3, (w4.alloc Z32h).setCells w4.heap.size 0 Y2 = w3 := ⟨_, rfl⟩
  obtain ⟨q2, hq2⟩ : ∃ q, q = w4.heap.size := ⟨_, rfl⟩
  rw [hw5] at M5 RI ⊢
  rw [← hq2] at RI ⊢
  clear hw5 hq2 TH
  have RH5 := Lib.hid (range_up RH.out M5.out LH.out)
  have BB := Lib.hid (B0.out.trans (M3.out.trans M5.out))
  obtain ⟨x1, x2, x3, x4⟩ := CL.out w5 (M3.out.trans M5.out)
  clear M3 M4 M5 M2 B0 CL
  by_cases e1 : E1 = 0
  case neg =>
    have f1 : (E1 == 0) = false := by rw [beq_eq_false_iff_ne]; exact e1
    have HZ := Lib.hid (show R = false by rw [HD.out, f1]; simp)
    clear e1 NQ HD
    go_wp2
    go_ret
    exact ⟨by rw [HZ.out]; rfl, BB.out⟩
  subst e1
  by_cases e2 : E2 = 0
  case neg =>
    have f1 : (E2 == 0) = false := by rw [beq_eq_false_iff_ne]; exact e2
    have HZ := Lib.hid (show R = false by rw [HD.out, f1]; simp)
    clear e2 NQ HD
    go_wp2
    go_ret
    exact ⟨by rw [HZ.out]; rfl, BB.out⟩
  subst e2
  by_cases e3 : v1 = v2
  case neg =>
    have f1 : (v1 == v2) = false := by rw [beq_eq_false_iff_ne]; exact e3
    have HZ := Lib.hid (show R = false by rw [HD.out, f1]; simp)
    clear e3 NQ HD
    go_wp2
    go_ret
    exact ⟨by rw [HZ.out]; rfl, BB.out⟩
  subst e3
  by_cases e4 : s1 = s2
  case neg =>
    have f1 : (s1 == s2) = false := by rw [beq_eq_false_iff_ne]; exact e4
    have HZ := Lib.hid (show R = false by rw [HD.out, f1]; simp)
    clear e4 NQ HD
    go_wp2
    go_ret
    exact ⟨by rw [HZ.out]; rfl, BB.out⟩
  subst e4
  have HZ := Lib.hid (show R = q by rw [HD.out]; simp)
  have nq := NQ.out
  clear HD NQ
  go_wp2_with (first | (refine load_guarded (by rfl) 23 (.tmp 5) rfl q1 0 rfl Y1 _ RH5.out Tryd.underlying23 rfl J1.out ?_) | (refine load_guarded (by rfl) 23 (.tmp 7) rfl q2 0 rfl Y2 _ RI.out Tryd.underlying23 rfl J2.out ?_))
  go_ret
  exact ⟨by rw [HZ.out]; rfl, BB.out⟩
set_option maxRecDepth 100000 in
set_option maxHeartbeats 4000000 in
theorem refSurrounds (v1 s1 t1 g1 : Int) (h1 : List Int) (v2 s2 t2 g2 : Int) (h2 : List Int) (w : World) (l1 : h1.length = 32) (l2 : h2.length = 32) :
    Calls Tryd.prog 26 #[.agg (attC v1 s1 t1 h1 g1).toArray, .agg (attC v2 s2 t2 h2 g2).toArray] w fun e w' => e = .returned (.bool (sur v1 s1 t1 v2 s2 t2)) ∧ Bel w w' := by
  have K1 := Lib.hid (fun W => refCheck v1 s1 t1 g1 h1 W l1)
  have K2 := Lib.hid (fun W => refCheck v2 s2 t2 g2 h2 W l2)
  have HS := Lib.hid (show sur v1 s1 t1 v2 s2 t2 = ((chkE v1 s1 t1 == 0) && ((chkE v2 s2 t2 == 0) && ((v1 == v2) && (decide (s1 < s2) && decide (t2 < t1))))) from rfl)
  obtain ⟨C1, hC1⟩ : ∃ D, D = attC v1 s1 t1 h1 g1 := ⟨_, rfl⟩
  obtain ⟨C2, hC2⟩ : ∃ D, D = attC v2 s2 t2 h2 g2 := ⟨_, rfl⟩
  obtain ⟨E1, hE1⟩ : ∃ E, E = chkE v1 s1 t1 := ⟨_, rfl⟩
  obtain ⟨E2, hE2⟩ : ∃ E, E = chkE v2 s2 t2 := ⟨_, rfl⟩
  obtain ⟨R, hR⟩ : ∃ R, R = sur v1 s1 t1 v2 s2 t2 := ⟨_, rfl⟩
  have L1 := Lib.hid (show C1.length = 36 by rw [hC1]; exact len_attC l1 v1 s1 t1 g1)
  have L2 := Lib.hid (show C2.length = 36 by rw [hC2]; exact len_attC l2 v2 s2 t2 g2)
  have a1 : C1[0]? = some (.int .i64 v1) := by rw [hC1]; rfl
  have a2 : C2[0]? = some (.int .i64 v2) := by rw [hC2]; rfl
  have c1 : C1[1]? = some (.int .i64 s1) := by rw [hC1]; rfl
  have c2 : C2[1]? = some (.int .i64 s2) := by rw [hC2]; rfl
  have d1 : C1[2]? = some (.int .i64 t1) := by rw [hC1]; rfl
  have d2 : C2[2]? = some (.int .i64 t2) := by rw [hC2]; rfl
  rw [← hC1, ← hE1] at K1
  rw [← hC2, ← hE2] at K2
  rw [← hE1, ← hE2, ← hR] at HS
  rw [← hC1, ← hC2, ← hR]
  clear hC1 hC2 hE1 hE2 hR l1 l2
  obtain ⟨b1, hb1⟩ : ∃ b, b = w.heap.size := ⟨_, rfl⟩
  obtain ⟨b2, hb2⟩ : ∃ b, b = w.heap.size + 1 := ⟨_, rfl⟩
  obtain ⟨W1, hW1⟩ : ∃ W, w.alloc (.cells C1.toArray 26) = W := ⟨_, rfl⟩
  obtain ⟨W, hW⟩ : ∃ W, W1.alloc (.cells C2.toArray 26) = W := ⟨_, rfl⟩
  have z1 : W1.heap.size = w.heap.size + 1 := by rw [← hW1]; simp
  have z2 : W.heap.size = w.heap.size + 2 := by rw [← hW]; simp; exact z1
  have k1 : Bel w W1 := by rw [← hW1]; exact (Bel.refl w).alloc _
  have k2 : Bel W1 W := by rw [← hW]; exact (Bel.refl W1).alloc _
  have hbk1 : Blk W b1 C1.toArray 26 := by
    have hbk : Blk W1 b1 C1.toArray 26 := by rw [← hW1, hb1]; exact Blk.new w _ _
    exact hbk.bel k2
  have hbk2 : Blk W b2 C2.toArray 26 := by rw [← hW, hb2, ← z1]; exact Blk.new W1 _ _
  have CL := Lib.hid (show ∀ X, Bel W X → X.rangeAt b2 0 C2 ∧ X.cell? ⟨b1, 0, none⟩ = some (.int .i64 v1) ∧ X.cell? ⟨b2, 0, none⟩ = some (.int .i64 v2) ∧ X.cell? ⟨b1, 1, none⟩ = some (.int .i64 s1) ∧ X.cell? ⟨b2, 1, none⟩ = some (.int .i64 s2) ∧ X.cell? ⟨b1, 2, none⟩ = some (.int .i64 t1) ∧ X.cell? ⟨b2, 2, none⟩ = some (.int .i64 t2) from fun X hX =>
    ⟨range_blk (hbk2.bel hX), (hbk1.bel hX).cell 0 (by rw [List.getElem?_toArray]; exact a1), (hbk2.bel hX).cell 0 (by rw [List.getElem?_toArray]; exact a2), (hbk1.bel hX).cell 1 (by rw [List.getElem?_toArray]; exact c1), (hbk2.bel hX).cell 1 (by rw [List.getElem?_toArray]; exact c2), (hbk1.bel hX).cell 2 (by rw [List.getElem?_toArray]; exact d1), (hbk2.bel hX).cell 2 (by rw [List.getElem?_toArray]; exact d2)⟩)
  have R1 := Lib.hid (show W.rangeAt b1 0 C1 from range_blk hbk1)
  have B0 := Lib.hid (k1.trans k2)
  have HW1 := Lib.hid hW1
  have HW := Lib.hid hW
  have X1 := Lib.hid hb1
  have X2 := Lib.hid hb2
  clear hb1 hb2 hW1 hW z1 z2 k1 k2 hbk1 hbk2 a1 a2 c1 c2 d1 d2
  go_enter Tryd.func26, Tryd.ntmps26
  go_upto_region 1 with fail
  rw [← X2.out, ← X1.out, HW1.out, HW.out]
  go_wp2_with (refine wpList_load_mid rfl 26 (.tmp 2) rfl b1 0 rfl C1 _ R1.out Tryd.underlying26 rfl (by rw [L1.out]; exact info_att) ?_)
  refine (K1.out W).mono ?_
  rintro e w2 ⟨rfl, m2⟩
  have M2 := Lib.hid (show Bel W w2 from m2)
  clear m2 K1 R1
  by_cases e1 : E1 = 0
  case neg =>
    have f1 : (E1 == 0) = false := by rw [beq_eq_false_iff_ne]; exact e1
    have HZ := Lib.hid (show R = false by rw [HS.out, f1, Bool.false_and])
    clear e1 HS
    go_wp2
    go_ret
    exact ⟨by rw [HZ.out]; rfl, B0.out.trans M2.out⟩
  subst e1
  obtain ⟨hr, x1, x2, x3, x4, x5, x6⟩ := CL.out w2 M2.out
  have HR := Lib.hid hr
  clear hr x1 x2 x3 x4 x5 x6
  go_wp2_with (refine load_guarded (by rfl) 26 (.tmp 3) rfl b2 0 rfl C2 _ HR.out Tryd.underlying26 rfl (by rw [L2.out]; exact info_att) ?_)
  refine (K2.out w2).mono ?_
  rintro e w3 ⟨rfl, m3⟩
  have M3 := Lib.hid (M2.out.trans (show Bel w2 w3 from m3))
  clear m3 K2 HR
  by_cases e2 : E2 = 0
  case neg =>
    have f1 : (E2 == 0) = false := by rw [beq_eq_false_iff_ne]; exact e2
    have HZ := Lib.hid (show R = false by rw [HS.out, f1, Bool.false_and, Bool.and_false])
    clear e2 HS
    go_wp2
    go_ret
    exact ⟨by rw [HZ.out]; rfl, B0.out.trans M3.out⟩
  subst e2
  obtain ⟨hr, x1, x2, x3, x4, x5, x6⟩ := CL.out w3 M3.out
  clear hr
  by_cases e3 : v1 = v2
  case neg =>
    have f1 : (v1 == v2) = false := by rw [beq_eq_false_iff_ne]; exact e3
    have HZ := Lib.hid (show R = false by rw [HS.out, f1, Bool.false_and, Bool.and_false, Bool.and_false])
    clear e3 HS
    go_wp2
    go_ret
    exact ⟨by rw [HZ.out]; rfl, B0.out.trans M3.out⟩
  subst e3
  by_cases e4 : s1 < s2
  case neg =>
    have HZ := Lib.hid (show R = false by rw [HS.out, decide_eq_false e4]; simp)
    clear HS
    go_wp2
    go_ret
    exact ⟨by rw [HZ.out]; rfl, B0.out.trans M3.out⟩
  by_cases e5 : t2 < t1
  case neg =>
    have HZ := Lib.hid (show R = false by rw [HS.out, decide_eq_false e5]; simp)
    clear HS
    go_wp2
    go_ret
    exact ⟨by rw [HZ.out]; simp; omega, B0.out.trans M3.out⟩
  have HZ := Lib.hid (show R = true by rw [HS.out, decide_eq_true e4, decide_eq_true e5]; simp)
  clear HS
  go_wp2
  go_ret
  exact ⟨by rw [HZ.out]; rfl, B0.out.trans M3.out⟩
end Vt
end Go.Proofs.YtjbbecplkkkiiaaDoor
end
