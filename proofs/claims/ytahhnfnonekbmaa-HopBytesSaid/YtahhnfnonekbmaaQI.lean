/-
  Texts of this claim, put together: RwEqF, Hp17. What each one says, and under which conditions, stands ahead of it.
-/
import Derived.Laws.StructEq
import Derived.ChangeKeysEq
import Derived.Test.YtahhnfnonekbmaaQG

section
/-
  What == and != of structs of integers tell, field by field. No condition.
-/
namespace Go.Proofs.Ytahhnfnonekbmaa
open Go.RowKit Go.Shelf
set_option linter.unusedVariables false
set_option linter.unusedSimpArgs false
namespace Rw


theorem eqIn_fault (d : Nat) (a0 a1 b0 b1 : Int) (W : World) : (Op.equalIn (d + 2) 48 (.agg #[Value.int .i64 a0, Value.int .i64 a1]) (.agg #[Value.int .i64 b0, Value.int .i64 b1])).run Try.prog W = .ok ((a0 == b0) && ((a1 == b1) && true)) W := by
  have hS : Try.prog.underlying 48 = some (.struct (Try.prog.fieldsOf 48)) := by kernel_rfl
  rw [show d + 2 = (d + 1) + 1 from rfl, run_equalIn_struct W (d + 1) _ _ _ hS (by kernel_rfl)]
  simp only [Program.fieldsOf, Try.underlying48]
  exact eqF_cons (by decide) (partI Try.underlying27 rfl _) (partI Try.underlying27 rfl _) (run_equalIn_int W _ _ _ _ _ _ Try.underlying27) (eqF_cons (by decide) (partI Try.underlying3 rfl _) (partI Try.underlying3 rfl _) (run_equalIn_int W _ _ _ _ _ _ Try.underlying3) (eqF_nil))
theorem eq_fault (a0 a1 b0 b1 : Int) : ((a0 == b0) && ((a1 == b1) && true)) = decide ((a0, a1) = (b0, b1)) := by
  rw [Bool.eq_iff_iff]
  simp only [Bool.and_eq_true, beq_iff_eq, Prod.mk.injEq, and_assoc, and_true, decide_eq_true_eq]
theorem eql_fault (a0 a1 b0 b1 : Int) (W : World) : (binOp .eql 48 (.agg #[Value.int .i64 a0, Value.int .i64 a1]) (.agg #[Value.int .i64 b0, Value.int .i64 b1])).run Try.prog W = .ok (.bool (decide ((a0, a1) = (b0, b1)))) W := by
  rw [run_eql_struct, show (10000 : Nat) = 9998 + 2 from rfl, eqIn_fault, eq_fault]
  rfl
theorem neq_fault (a0 a1 b0 b1 : Int) (W : World) : (binOp .neq 48 (.agg #[Value.int .i64 a0, Value.int .i64 a1]) (.agg #[Value.int .i64 b0, Value.int .i64 b1])).run Try.prog W = .ok (.bool (!decide ((a0, a1) = (b0, b1)))) W := by
  rw [run_neq_struct, show (10000 : Nat) = 9998 + 2 from rfl, eqIn_fault, eq_fault]
  rfl

end Rw
end Go.Proofs.Ytahhnfnonekbmaa
end

section
/-
  What reads of the laws answers; how the chapter's bytes are read. Conditions: at most 10^6 bytes; the bytes are bytes.
-/
namespace Go.Proofs.Ytahhnfnonekbmaa
open Go.RowKit Go.Shelf
set_option linter.unusedVariables false
set_option linter.unusedSimpArgs false
namespace Hp
open Cd

theorem sl_lit (w : World) (zs : List Int) : Sl (w.alloc (.cells (zs.map (Value.int .u8)).toArray 5)) (some ⟨w.heap.size, 0, none⟩) zs.length zs.length zs := by
  refine ⟨⟨rfl, fun hn => ⟨w.heap.size, 0, rfl, by simp, fun i hi => ?_⟩⟩, Nat.le_refl _, fun h => by cases h⟩
  rw [Nat.zero_add, World.cell?_alloc_new, List.getElem?_toArray, List.getElem?_map, List.getElem?_eq_getElem hi, Kk.getD_eq _ _ hi]
  rfl
theorem way_one {zs : List Int} {k : Nat} {z : Int} (hz : zs.getD k 0 = z) (hk : k < zs.length) (h0 : 0 ≤ z) (h1 : z < 128) : Cd.Way zs k z ((k + 1 : Nat) : Int) 0 0 := by
  refine .inr (.inr ⟨k, 0, rfl, by decide, hk, fun i hi => absurd hi (by omega), by rw [Nat.add_zero, hz]; exact h1, fun h => absurd h (by omega), fun h => absurd h (by omega), (Rm.val_one zs k hz h0 h1).symm, by push_cast; omega, rfl, rfl⟩)
theorem rn_ok {zs : List Int} {k : Nat} {z least most : Int} (hz : zs.getD k 0 = z) (hk : k < zs.length) (h0 : 0 ≤ z) (h1 : z < 128) (hl : least ≤ z) (hm : z ≤ most) : Cd.RN zs k none least most z (k + 1) none :=
  .inr ⟨rfl, ((k + 1 : Nat) : Int), 0, 0, ⟨z, _, 0, 0, way_one hz hk h0 h1, h0, by omega, .inr (.inr ⟨rfl, hl, hm, rfl, rfl, rfl, rfl⟩)⟩, .inl ⟨rfl, rfl, rfl⟩, by omega, fun h => absurd rfl h⟩
theorem rn_no {zs : List Int} {k : Nat} {z least most : Int} (hz : zs.getD k 0 = z) (hk : k < zs.length) (h0 : 0 ≤ z) (h1 : z < 128) (hb : z < least ∨ most < z) : Cd.RN zs k none least most 0 k (some (3, (k : Int))) :=
  .inr ⟨rfl, 0, 3, (k : Int), ⟨z, _, 0, 0, way_one hz hk h0 h1, h0, by omega, .inr (.inl ⟨rfl, hb, rfl, rfl, rfl, rfl⟩)⟩, .inr ⟨by decide, rfl, rfl⟩, by omega, fun _ => rfl⟩
set_option maxRecDepth 10000 in
set_option maxHeartbeats 1000000 in
theorem reads (A : Option Addr) (n c : Nat) (zs : List Int) (m k1 : Nat) (f1 : Option (Int × Int)) (L : List R4) (k' : Nat) (f' : Option (Int × Int)) (e1 e2 : Int) (w : World) (hs : Sl w A n c zs) (hn : n ≤ 1000000) (hb : Bytes zs)
    (hr : RN zs 0 none 0 4096 (m : Int) k1 f1) (hm : m ≤ 4096) (hl : L.length = m) (hk : Lk zs L k1 f1 0 k' f') (he : endOf zs.length k' f' = (e1, e2)) :
    Calls Try.prog 36 #[.slice A n c] w fun r w' => r = .returned (.agg #[.int .i64 e1, .int .i64 e2]) ∧ Bel w w' := by
  have Q0 := Lib.hid (Blk.new w #[.int .i64 0, .int .i64 0] 48)
  obtain ⟨W, hW⟩ : ∃ W, w.alloc (.cells #[.int .i64 0, .int .i64 0] 48) = W := ⟨_, rfl⟩
  have BW := Lib.hid (show Bel w W by rw [← hW]; exact (Bel.refl w).alloc _)
  obtain ⟨q, hq⟩ : ∃ q, w.heap.size = q := ⟨_, rfl⟩
  rw [hW, hq] at Q0
  have RD_ := Lib.hid (readH A n c zs m k1 f1 L k' f' e1 e2 W (hs.bel BW.out) hn hb hr hm hl hk he)
  have HW := Lib.hid hW
  have HQ := Lib.hid hq
  clear hs hb hr hl hk he hW hq
  go_enter Try.func36, Try.ntmps36
  go_upto_region 1 with fail
  rw [HW.out, HQ.out]
  go_wp2_with fail
  refine RD_.out.mono ?_
  rintro e w1 ⟨v, rfl, _, kb⟩
  have K1 := Lib.hid (BW.out.trans kb)
  have Q1 := Lib.hid (Q0.out.bel kb)
  clear kb RD_
  go_upto_region 2 with fail
  have T0 := Blk.new w1 #[.int .i64 e1, .int .i64 e2] 48
  have TB := (Bel.refl w1).alloc (.cells #[.int .i64 e1, .int .i64 e2] 48)
  obtain ⟨W5, hW⟩ : ∃ W, w1.alloc (.cells #[.int .i64 e1, .int .i64 e2] 48) = W := ⟨_, rfl⟩
  obtain ⟨u, hu⟩ : ∃ u, w1.heap.size = u := ⟨_, rfl⟩
  rw [hW] at T0 TB ⊢
  rw [hu] at T0 ⊢
  have T5 := Lib.hid T0
  have Q5 := Lib.hid (Q1.out.bel TB)
  have K5 := Lib.hid (K1.out.trans TB)
  have LU := Lib.hid (show q < u by rw [← hu]; exact Q1.out.lt)
  clear hW hu T0 TB Q1 K1
  have hqu : q ≠ u := by have := LU.out; omega
  have t0 := T5.out.cell 0 rfl
  have t1 := T5.out.cell 1 rfl
  have q0 := Q5.out.cell 0 rfl
  have q1 := Q5.out.cell 1 rfl
  have fq0 := Q5.out.frozen 0
  have fq1 := Q5.out.frozen 1
  have HLQ := Lib.hid (show w.heap.size ≤ q by rw [HQ.out]; exact Nat.le_refl _)
  go_wp2_with fail
  have QF := ((Q5.out.set 0 (.int .i64 e1)).set 1 (.int .i64 e2))
  exact bodyPost_ret (Pm.res_c rfl _ _ ⟨q, 0, none⟩ _ rfl (load_flt QF)) rfl ⟨rfl, (K5.out.set HLQ.out _).set HLQ.out _⟩
theorem bytesC (l : List Int) (h : (l.all fun z => decide (0 ≤ z ∧ z ≤ 255)) = true) : Bytes l := fun i => by
  rw [List.getD_eq_getElem?_getD]
  rcases hl : l[i]? with _ | z
  · simp
  · have := of_decide_eq_true (List.all_eq_true.1 h z (List.mem_of_getElem? hl))
    simp
    omega
theorem ra1 : RN [1, 0, 1, 1, 5] 0 none 0 4096 ((1 : Nat) : Int) 1 none := rn_ok rfl (by decide) (by decide) (by decide) (by decide) (by decide)
theorem la1 : Lk [1, 0, 1, 1, 5] [(0, 1, 1, 0)] 1 none 0 4 (some (3, 3)) :=
  ⟨4, some (3, 3), ⟨2, none, 3, none, 4, none, some (3, 3), rn_ok (z := 0) rfl (by decide) (by decide) (by decide) (by decide) (by decide), rn_ok (z := 1) rfl (by decide) (by decide) (by decide) (by decide) (by decide), rn_ok (z := 1) rfl (by decide) (by decide) (by decide) (by decide) (by decide), rn_stay .., rfl⟩, rfl, rfl⟩
theorem ra2 : RN [2, 0, 1, 2, 5, 0, 1, 2, 4] 0 none 0 4096 ((2 : Nat) : Int) 1 none := rn_ok rfl (by decide) (by decide) (by decide) (by decide) (by decide)
theorem la2 : Lk [2, 0, 1, 2, 5, 0, 1, 2, 4] [(0, 1, 2, 5), (0, 1, 2, 4)] 1 none 0 9 (some (9, 8)) :=
  ⟨5, none, ⟨2, none, 3, none, 4, none, none, rn_ok (z := 0) rfl (by decide) (by decide) (by decide) (by decide) (by decide), rn_ok (z := 1) rfl (by decide) (by decide) (by decide) (by decide) (by decide), rn_ok (z := 2) rfl (by decide) (by decide) (by decide) (by decide) (by decide), rn_ok (z := 5) rfl (by decide) (by decide) (by decide) (by decide) (by decide), rfl⟩,
    9, some (9, 8), ⟨6, none, 7, none, 8, none, none, rn_ok (z := 0) rfl (by decide) (by decide) (by decide) (by decide) (by decide), rn_ok (z := 1) rfl (by decide) (by decide) (by decide) (by decide) (by decide), rn_ok (z := 2) rfl (by decide) (by decide) (by decide) (by decide) (by decide), rn_ok (z := 4) rfl (by decide) (by decide) (by decide) (by decide) (by decide), rfl⟩, rfl, rfl⟩
theorem ra3 : RN [1, 64] 0 none 0 4096 ((1 : Nat) : Int) 1 none := rn_ok rfl (by decide) (by decide) (by decide) (by decide) (by decide)
theorem la3 : Lk [1, 64] [(0, 0, 0, 0)] 1 none 0 1 (some (3, 1)) :=
  ⟨1, some (3, 1), ⟨1, some (3, 1), 1, some (3, 1), 1, some (3, 1), some (3, 1), rn_no (z := 64) rfl (by decide) (by decide) (by decide) (.inr (by decide)), rn_stay .., rn_stay .., rn_stay .., rfl⟩, rfl, rfl⟩
end Hp
end Go.Proofs.Ytahhnfnonekbmaa
end
