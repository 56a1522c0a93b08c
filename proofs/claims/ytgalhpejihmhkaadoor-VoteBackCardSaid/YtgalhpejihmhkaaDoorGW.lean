/-
  Texts of this claim, put together: VOne, VDif, VSur, VDbl. What each one says, and under which conditions, stands ahead of it.
-/
import Derived.Lib.AppendZerosOnto
import Derived.Test.YtgalhpejihmhkaaDoorGV
import Derived.Test.YtgalhpejihmhkaaDoorGC

section
/-
  What the laws' helpers one, block and told answer. Condition: told takes two new rows.
-/
namespace Go.Proofs.YtgalhpejihmhkaaDoor
open Go.RowKit Go.Shelf
set_option linter.unusedVariables false
namespace Vt
open Kk

abbrev Z0 : List Int := List.replicate 32 0
theorem z0_len : Z0.length = 32 := rfl
theorem z0_by : By Z0 := fun z hz => by rw [List.eq_of_mem_replicate hz]; exact ⟨by decide, by decide⟩
theorem att_cells (v s t tag : Int) (hs : List Int) : ∀ u ∈ attC v s t hs tag, u.oneCell' = true := by
  intro u hu
  simp only [attC, List.mem_append, List.mem_cons, List.mem_map, List.not_mem_nil, or_false] at hu
  rcases hu with (rfl | rfl | rfl) | ⟨z, _, rfl⟩ | rfl <;> rfl
theorem prop_cells (v s tag : Int) (hs : List Int) : ∀ u ∈ propC v s hs tag, u.oneCell' = true := by
  intro u hu
  simp only [propC, List.mem_append, List.mem_cons, List.mem_map, List.not_mem_nil, or_false] at hu
  rcases hu with (rfl | rfl) | ⟨z, _, rfl⟩ | rfl <;> rfl
/-- New memory for an attestation, for a proposal. -/
abbrev Z36 : Obj := .cells #[.int .i64 0, .int .i64 0, .int .i64 0, .int .u8 0, .int .u8 0, .int .u8 0, .int .u8 0, .int .u8 0, .int .u8 0, .int .u8 0, .int .u8 0, .int .u8 0, .int .u8 0, .int .u8 0, .int .u8 0, .int .u8 0, .int .u8 0, .int .u8 0, .int .u8 0, .int .u8 0, .int .u8 0, .int .u8 0, .int .u8 0, .int .u8 0, .int .u8 0, .int .u8 0, .int .u8 0, .int .u8 0, .int .u8 0, .int .u8 0, .int .u8 0, .int .u8 0, .int .u8 0, .int .u8 0, .int .u8 0, .int .u64 0] 26
abbrev Z35 : Obj := .cells #[.int .i64 0, .int .i64 0, .int .u8 0, .int .u8 0, .int .u8 0, .int .u8 0, .int .u8 0, .int .u8 0, .int .u8 0, .int .u8 0, .int .u8 0, .int .u8 0, .int .u8 0, .int .u8 0, .int .u8 0, .int .u8 0, .int .u8 0, .int .u8 0, .int .u8 0, .int .u8 0, .int .u8 0, .int .u8 0, .int .u8 0, .int .u8 0, .int .u8 0, .int .u8 0, .int .u8 0, .int .u8 0, .int .u8 0, .int .u8 0, .int .u8 0, .int .u8 0, .int .u8 0, .int .u8 0, .int .u64 0] 28

set_option maxRecDepth 100000 in
set_option maxHeartbeats 1000000 in
theorem one (w : World) : Calls Tryd.prog 14 #[] w fun e w' => e = .returned (.agg (attC 1 2 3 Z0 5).toArray) ∧ Bel w w' := by
  obtain ⟨Y, hY⟩ : ∃ Y, Y = attC 1 2 3 Z0 5 := ⟨_, rfl⟩
  have HYl := Lib.hid (show Y.length = 36 by rw [hY]; rfl)
  have HYs := Lib.hid (show Y.toArray.size = 36 by rw [List.size_toArray]; exact HYl.out)
  have HYo := Lib.hid (all_oneCell_toArray (cs := Y) (by rw [hY]; exact att_cells _ _ _ _ _))
  have HYi := Lib.hid (show (Tryd.prog.info? 26).map (·.size) = some Y.toArray.size by rw [HYs.out]; exact info_att)
  have YI := Lib.hid (show (Tryd.prog.info? 26).map (·.size) = some Y.length by rw [HYl.out]; exact info_att)
  obtain ⟨W, hW⟩ : ∃ W, w.alloc Z36 = W := ⟨_, rfl⟩
  obtain ⟨h, hh⟩ : ∃ h, h = w.heap.size := ⟨_, rfl⟩
  have TH := Lib.hid (show W.there h 0 Y.toArray.size by rw [HYs.out, ← hW, hh]; exact there_newK (by decide))
  have B0 := Lib.hid (show Bel w W by rw [← hW]; exact (Bel.refl w).alloc _)
  have HY := Lib.hid hY
  have HW := Lib.hid hW
  have HH := Lib.hid hh
  rw [← hY]
  clear hY hW hh
  go_enter Tryd.func14, Tryd.ntmps14
  go_upto_region 1 with fail
  rw [← HH.out, HW.out]
  go_wp2_with (refine wpList_store_mid rfl 26 (.tmp 0) (.tmp 1) rfl h 0 Y.toArray rfl (by rw [HY.out]; rfl) TH.out HYi.out HYo.out ?_)
  have RE : (W.setCells h 0 Y).rangeAt h 0 Y := World.rangeAt_setCells_same _ _ _ _ (by have := TH.out; rw [HYs.out] at this; rw [HYl.out]; exact this)
  refine bodyPost_ret (results_c1 Tryd.results14 _ _ ⟨h, 0, none⟩ (.agg Y.toArray) rfl (run_loadVar_mid (P := Tryd.prog) _ h 0 26 Y _ RE Tryd.underlying26 rfl YI.out)) rfl ⟨rfl, ?_⟩
  exact Kep.bel B0.out (kep_setCellsK h Y 0 _) (fun i hi => by have := HH.out; omega)

set_option maxRecDepth 100000 in
set_option maxHeartbeats 1000000 in
theorem block (w : World) : Calls Tryd.prog 15 #[] w fun e w' => e = .returned (.agg (propC 1 300 Z0 128).toArray) ∧ Bel w w' := by
  obtain ⟨Y, hY⟩ : ∃ Y, Y = propC 1 300 Z0 128 := ⟨_, rfl⟩
  have HYl := Lib.hid (show Y.length = 35 by rw [hY]; rfl)
  have HYs := Lib.hid (show Y.toArray.size = 35 by rw [List.size_toArray]; exact HYl.out)
  have HYo := Lib.hid (all_oneCell_toArray (cs := Y) (by rw [hY]; exact prop_cells _ _ _ _))
  have HYi := Lib.hid (show (Tryd.prog.info? 28).map (·.size) = some Y.toArray.size by rw [HYs.out]; exact info_prop)
  have YI := Lib.hid (show (Tryd.prog.info? 28).map (·.size) = some Y.length by rw [HYl.out]; exact info_prop)
  obtain ⟨W, hW⟩ : ∃ W, w.alloc Z35 = W := ⟨_, rfl⟩
  obtain ⟨h, hh⟩ : ∃ h, h = w.heap.size := ⟨_, rfl⟩
  have TH := Lib.hid (show W.there h 0 Y.toArray.size by rw [HYs.out, ← hW, hh]; exact there_newK (by decide))
  have B0 := Lib.hid (show Bel w W by rw [← hW]; exact (Bel.refl w).alloc _)
  have HY := Lib.hid hY
  have HW := Lib.hid hW
  have HH := Lib.hid hh
  rw [← hY]
  clear hY hW hh
  go_enter Tryd.func15, Tryd.ntmps15
  go_upto_region 1 with fail
  rw [← HH.out, HW.out]
  go_wp2_with (refine wpList_store_mid rfl 28 (.tmp 0) (.tmp 1) rfl h 0 Y.toArray rfl (by rw [HY.out]; rfl) TH.out HYi.out HYo.out ?_)
  have RE : (W.setCells h 0 Y).rangeAt h 0 Y := World.rangeAt_setCells_same _ _ _ _ (by have := TH.out; rw [HYs.out] at this; rw [HYl.out]; exact this)
  refine bodyPost_ret (results_c1 Tryd.results15 _ _ ⟨h, 0, none⟩ (.agg Y.toArray) rfl (run_loadVar_mid (P := Tryd.prog) _ h 0 28 Y _ RE Tryd.underlying28 rfl YI.out)) rfl ⟨rfl, ?_⟩
  exact Kep.bel B0.out (kep_setCellsK h Y 0 _) (fun i hi => by have := HH.out; omega)

theorem zeroCells_u8 (k : Nat) : (Builtin.zeroCells (Value.int .u8 0).cells k).toList = (List.replicate k (0 : Int)).map (Value.int .u8) := by
  apply List.ext_getElem
  · simp [Builtin.zeroCells, Value.cells]
  · intro i h1 h2
    simp [Builtin.zeroCells, Value.cells]
    rw [Nat.mod_one]
    rfl
theorem grow32 (g n : Nat) (xs : List Int) (w : World) (h : Sl w (some ⟨g, 0, none⟩) n n xs) (hn : n ≤ 100) :
    ∃ v' w', (Builtin.append_ #[29, 3] 29 #[.slice (some ⟨g, 0, none⟩) n n, .int .i64 32]).run Tryd.prog w = .ok v' w' ∧ w'.ownsRow w.heap.size 5 1 v' (n + 32) ((xs ++ Z0).map (Value.int .u8)) ∧ Bel w w' := by
  obtain ⟨i0, h1, hz0, hz1, hz2⟩ := info_parts Tryd.info_u8
  have hl : xs.length = n := h.ints.1
  have hf := run_firstCells_some (P := Tryd.prog) w.drew i0.size n ⟨g, 0, none⟩ n n (xs.map (Value.int .u8)) (by rw [List.length_map, hl, hz1, Nat.mul_one]) (fun j v hj => by
    have := Ints.news h.ints j v hj
    simpa using this)
  have hr := Lib.run_append_grow_zeros (P := Tryd.prog) w 29 3 29 5 i0 (.int .u8 0) .i64 .i64 Tryd.underlying29 Tryd.underlying3 h1 hz0 (some ⟨g, 0, none⟩) n n (xs.map (Value.int .u8)) hf 32 (by decide) (by omega) (by omega) (by omega) (by rw [hz2]; decide) (by
    rw [hz2]
    have : Builtin.nextslicecap (n + 32) n ≤ 1000 := by
      unfold Builtin.nextslicecap
      split
      · omega
      · split <;> omega
    omega)
  refine ⟨_, _, hr, ?_, ?_⟩
  · have hge := grownCap_ge w (n + 32) n 5
    refine ⟨by simp; omega, .inr ⟨w.heap.size, grownCap w (n + 32) n 5, _, rfl, Nat.le_refl _, heap_alloc_new w.drew _, hge, grownCap_le_maxLen w _ _ _ (by unfold maxLen; omega), ?_, ?_⟩⟩
    · simp only [Array.size_append, size_zeroCells, Value.cells, List.size_toArray, List.length_map]
      simp
      omega
    · rw [Array.toList_append, Array.toList_append, zeroCells_u8, zeroCells_u8, List.append_assoc, ← List.append_assoc, List.take_append_of_le_length (by simp; omega)]
      rw [List.take_of_length_le (by simp; omega)]
      simp
  · exact (Bel.refl w).drew.alloc _
set_option maxRecDepth 100000 in
set_option maxHeartbeats 1000000 in
theorem told (g1 g2 n m : Nat) (xs ys : List Int) (w : World) (h1 : Sl w (some ⟨g1, 0, none⟩) n n xs) (h2 : Sl w (some ⟨g2, 0, none⟩) m m ys) (hn : n ≤ 100) (hm : m ≤ 100) :
    Calls Tryd.prog 39 #[.slice (some ⟨g1, 0, none⟩) n n, .slice (some ⟨g2, 0, none⟩) m m] w fun e w' => ∃ A c, e = .returned (.slice A (n + 32 + m) c) ∧ Sl w' A (n + 32 + m) c (xs ++ Z0 ++ ys) ∧ Bel w w' := by
  obtain ⟨v', w', hr, ho, hb⟩ := grow32 g1 n xs w h1 hn
  have HR := Lib.hid hr
  have HO := Lib.hid ho
  have HB := Lib.hid hb
  have H2 := Lib.hid (h2.bel hb)
  clear hr ho hb h1 h2
  go_enter Tryd.func39, Tryd.ntmps39
  go_wp2_with (first
    | (at_builtin; refine Lib.wpList_append_run w rfl _ _ _ _ rfl _ _ rfl rfl _ _ HR.out ?_)
    | (at_builtin; refine wpList_append_sl rfl _ _ rfl w.heap.size _ (n + 32) _ rfl HO.out (some ⟨g2, 0, none⟩) m m ys rfl H2.out (by omega) (Below.size HB.out) ?_; intro v2 w2 hown hgrow))
  go_ret
  obtain ⟨A, c, rfl, hs⟩ := sl_of_own (zs := xs ++ Z0 ++ ys) (by simpa using hown)
  exact ⟨A, c, rfl, hs, Bel.grown HB.out hgrow (fun i e => (HO.out.lt i e).1)⟩
end Vt
end Go.Proofs.YtgalhpejihmhkaaDoor
end

section
/-
  What vote.differ, Doubles, DoublesBlock and Surrounds answer. Conditions: roots have 32 bytes; the table of turns lies in its variable.
-/
namespace Go.Proofs.YtgalhpejihmhkaaDoor
open Go.RowKit Go.Shelf
set_option linter.unusedVariables false
namespace Vt
open Kk

theorem load_guarded {ops : Array Oper} {rest : List Oper} {op : Oper} {a : Act} {w : World} {Q : Exit → Act → World → Prop} (hw : Region.wanted op (yielded ops a.tmps) = true) (ty : TypeId) (x : Operand) (ho : op.op = .load ty x)
    (b o : Nat) (hx : a.eval x = .pointer (some ⟨b, o, none⟩)) (cs : List Value) (d : TypeDesc) (hc : w.rangeAt b o cs)
    (hu : Tryd.prog.underlying ty = some d) (hd : d.isRow = true) (hi : (Tryd.prog.info? ty).map (·.size) = some cs.length)
    (h : wpList Tryd.prog ops Q rest (a.put op.dst (.agg cs.toArray)) w) : wpList Tryd.prog ops Q (op :: rest) a w :=
  wpList_step fun K hK => by
    rw [if_pos hw]
    exact wp_load_mid ty x ho b o hx cs d hc hu hd hi (hK _ _ h)
theorem put32 (w : World) (Y : List Value) (hl : Y.length = 32) : ((w.alloc Z32h).there w.heap.size 0 Y.toArray.size) ∧
    Bel w ((w.alloc Z32h).setCells w.heap.size 0 Y) ∧ ((w.alloc Z32h).setCells w.heap.size 0 Y).rangeAt w.heap.size 0 Y ∧ w.heap.size < ((w.alloc Z32h).setCells w.heap.size 0 Y).heap.size := by
  have t : (w.alloc Z32h).there w.heap.size 0 32 := there_newK (by decide)
  have e : Y.toArray.size = 32 := by rw [List.size_toArray]; exact hl
  refine ⟨by rw [e]; exact t, Kep.bel ((Bel.refl w).alloc _) (kep_setCellsK _ _ _ _) (fun i hi => by rw [hi]; exact Nat.le_refl _), World.rangeAt_setCells_same _ _ _ _ (by rw [hl]; exact t), by rw [size_setCells]; simp⟩
theorem range_up {w w' : World} {b o : Nat} {C : List Value} (h : w.rangeAt b o C) (hb : Bel w w') (hl : b < w.heap.size) : w'.rangeAt b o C := fun j u hu => (Below.cell (p := ⟨b, o + j, none⟩) hb hl).trans (h j u hu)
/-- Have two parts digests, and unlike ones? -/
def dif (A B : List (Int × List Int)) : Bool := (errOf A == 0) && ((errOf B == 0) && !(dgV A == dgV B))

set_option maxRecDepth 100000 in
set_option maxHeartbeats 4000000 in
theorem differA (v1 s1 t1 g1 : Int) (h1 : List Int) (v2 s2 t2 g2 : Int) (h2 : List Int) (w : World) (l1 : h1.length = 32) (y1 : By h1) (l2 : h2.length = 32) (y2 : By h2) (hT : Tn w) :
    Calls Tryd.prog 40 #[.agg (attC v1 s1 t1 h1 g1).toArray, .agg (attC v2 s2 t2 h2 g2).toArray, .func (.func 8) #[] #[]] w fun e w' => e = .returned (.bool (dif (attI v1 s1 t1 h1) (attI v2 s2 t2 h2))) ∧ Bel w w' := by
  have D1 := Lib.hid (fun W (h : Tn W) => digestA v1 s1 t1 g1 h1 W l1 y1 h)
  have D2 := Lib.hid (fun W (h : Tn W) => digestA v2 s2 t2 g2 h2 W l2 y2 h)
  obtain ⟨A, hA⟩ : ∃ A, A = attI v1 s1 t1 h1 := ⟨_, rfl⟩
  obtain ⟨B, hB⟩ : ∃ A, A = attI v2 s2 t2 h2 := ⟨_, rfl⟩
  obtain ⟨C1, hC1⟩ : ∃ D, D = attC v1 s1 t1 h1 g1 := ⟨_, rfl⟩
  obtain ⟨C2, hC2⟩ : ∃ D, D = attC v2 s2 t2 h2 g2 := ⟨_, rfl⟩
  have L1 := Lib.hid (show C1.length = 36 by rw [hC1]; exact len_attC l1 v1 s1 t1 g1)
  have L2 := Lib.hid (show C2.length = 36 by rw [hC2]; exact len_attC l2 v2 s2 t2 g2)
  rw [← hA, ← hC1] at D1
  rw [← hB, ← hC2] at D2
  rw [← hA, ← hB, ← hC1, ← hC2]
  clear hA hB hC1 hC2 l1 l2 y1 y2
  obtain ⟨E1, hE1⟩ : ∃ E, E = errOf A := ⟨_, rfl⟩
  obtain ⟨E2, hE2⟩ : ∃ E, E = errOf B := ⟨_, rfl⟩
  obtain ⟨Y1, hY1, n1, o1⟩ := hs_facts A
  obtain ⟨Y2, hY2, n2, o2⟩ := hs_facts B
  have NQ := Lib.hid (show ∀ W, (binOp .neq 23 (.agg Y1.toArray) (.agg Y2.toArray)).run Tryd.prog W = .ok (.bool (!(dgV A == dgV B))) W by
    intro W
    rw [← hY1, ← hY2]
    exact neq_hs _ _ (dgV_len A) (dgV_len B) W)
  have HD := Lib.hid (show dif A B = ((E1 == 0) && ((E2 == 0) && !(dgV A == dgV B))) by rw [hE1, hE2]; rfl)
  rw [hY1, ← hE1] at D1
  rw [hY2, ← hE2] at D2
  clear hE1 hE2 hY1 hY2
  obtain ⟨q, hq⟩ : ∃ q, q = !(dgV A == dgV B) := ⟨_, rfl⟩
  rw [← hq] at NQ HD
  have s1 : Y1.toArray.size = 32 := by rw [List.size_toArray]; exact n1
  have s2 : Y2.toArray.size = 32 := by rw [List.size_toArray]; exact n2
  have O1 := Lib.hid (all_oneCell_toArray (cs := Y1) o1)
  have O2 := Lib.hid (all_oneCell_toArray (cs := Y2) o2)
  have I1 := Lib.hid (show (Tryd.prog.info? 23).map (·.size) = some Y1.toArray.size by rw [s1]; exact info_hash)
  have I2 := Lib.hid (show (Tryd.prog.info? 23).map (·.size) = some Y2.toArray.size by rw [s2]; exact info_hash)
  have J1 := Lib.hid (show (Tryd.prog.info? 23).map (·.size) = some Y1.length by rw [n1]; exact info_hash)
  have J2 := Lib.hid (show (Tryd.prog.info? 23).map (·.size) = some Y2.length by rw [n2]; exact info_hash)
  have N1 := Lib.hid n1
  have N2 := Lib.hid n2
  clear hq s1 s2 o1 o2 n1 n2
  obtain ⟨b1, hb1⟩ : ∃ b, b = w.heap.size := ⟨_, rfl⟩
  obtain ⟨b2, hb2⟩ : ∃ b, b = w.heap.size + 1 := ⟨_, rfl⟩
  obtain ⟨W1, hW1⟩ : ∃ W, w.alloc (.cells C1.toArray 26) = W := ⟨_, rfl⟩
  obtain ⟨W, hW⟩ : ∃ W, W1.alloc (.cells C2.toArray 26) = W := ⟨_, rfl⟩
  have z1 : W1.heap.size = w.heap.size + 1 := by rw [← hW1]; simp
  have z2 : W.heap.size = w.heap.size + 2 := by rw [← hW]; simp; exact z1
  have k1 : Bel w W1 := by rw [← hW1]; exact (Bel.refl w).alloc _
  have k2 : Bel W1 W := by rw [← hW]; exact (Bel.refl W1).alloc _
  have R1 := Lib.hid (show W.rangeAt b1 0 C1 by
    have hbk : Blk W1 b1 C1.toArray 26 := by rw [← hW1, hb1]; exact Blk.new w _ _
    exact range_blk (hbk.bel k2))
  have R2 := Lib.hid (show W.rangeAt b2 0 C2 by
    have hbk : Blk W b2 C2.toArray 26 := by rw [← hW, hb2, ← z1]; exact Blk.new W1 _ _
    exact range_blk hbk)
  have LT2 := Lib.hid (show b2 < W.heap.size by omega)
  have B0 := Lib.hid (k1.trans k2)
  have HT := Lib.hid (hT.bel (k1.trans k2))
  have HW1 := Lib.hid hW1
  have HW := Lib.hid hW
  have X1 := Lib.hid hb1
  have X2 := Lib.hid hb2
  clear hb1 hb2 hW1 hW z1 z2 k1 k2 hT
  go_enter Tryd.func40, Tryd.ntmps40
  go_upto_region 1 with fail
  rw [← X2.out, ← X1.out, HW1.out, HW.out]
  go_wp2_with (refine wpList_load_mid rfl 26 (.tmp 3) rfl b1 0 rfl C1 _ R1.out Tryd.underlying26 rfl (by rw [L1.out]; exact info_att) ?_)
  refine (D1.out W HT.out).mono ?_
  rintro e w2 ⟨rfl, m2⟩
  have M2 := Lib.hid (show Bel W w2 from m2)
  clear m2
  obtain ⟨t1, t2, t3, t4⟩ := put32 w2 Y1 N1.out
  have TH := Lib.hid t1
  have M3 := Lib.hid (M2.out.trans t2)
  have RH := Lib.hid t3
  have LH := Lib.hid t4
  clear t1 t2 t3 t4
  go_upto_region 2 with (refine wpList_store_mid rfl 23 (.tmp 7) (.tmp 14) rfl w2.heap.size 0 Y1.toArray rfl rfl TH.out I1.out O1.out ?_)
  obtain ⟨w3, hw3⟩ : ∃ w3, (w2.alloc Z32h).setCells w2.heap.size 0 Y1 = w3 := ⟨_, rfl⟩
  obtain ⟨q1, hq1⟩ : ∃ q, q = w2.heap.size := ⟨_, rfl⟩
  rw [hw3] at M3 RH LH ⊢
  rw [← hq1] at RH LH ⊢
  clear hw3 hq1 TH
  by_cases e1 : E1 = 0
  case neg =>
    have f1 : (E1 != 0) = true := by rw [bne_iff_ne]; exact e1
    have HZ := Lib.hid (show dif A B = false by rw [HD.out, show (E1 == 0) = false by rw [beq_eq_false_iff_ne]; exact e1, Bool.false_and])
    clear e1 NQ HD
    go_wp2
    go_ret
    exact ⟨by rw [HZ.out]; rfl, B0.out.trans M3.out⟩
  subst e1
  have R2b := Lib.hid (range_up R2.out M3.out LT2.out)
  go_wp2_with (refine wpList_load_mid rfl 26 (.tmp 4) rfl b2 0 rfl C2 _ R2b.out Tryd.underlying26 rfl (by rw [L2.out]; exact info_att) ?_)
  refine (D2.out w3 (HT.out.bel M3.out)).mono ?_
  rintro e w4 ⟨rfl, m4⟩
  have M4 := Lib.hid (show Bel w3 w4 from m4)
  clear m4
  obtain ⟨t1, t2, t3, t4⟩ := put32 w4 Y2 N2.out
  have TH := Lib.hid t1
  have M5 := Lib.hid (M4.out.trans t2)
  have RI := Lib.hid t3
  clear t1 t2 t3 t4
  go_upto_region 5 with (refine wpList_store_mid rfl 23 (.tmp 9) (.tmp 22) rfl w4.heap.size 0 Y2.toArray rfl rfl TH.out I2.out O2.out ?_)
  obtain ⟨w5, hw5⟩ : ∃ w3, (w4.alloc Z32h).setCells w4.heap.size 0 Y2 = w3 := ⟨_, rfl⟩
  obtain ⟨q2, hq2⟩ : ∃ q, q = w4.heap.size := ⟨_, rfl⟩
  rw [hw5] at M5 RI ⊢
  rw [← hq2] at RI ⊢
  clear hw5 hq2 TH
  have RH5 := Lib.hid (range_up RH.out M5.out LH.out)
  by_cases e2 : E2 = 0
  case neg =>
    have f1 : (E2 == 0) = false := by rw [beq_eq_false_iff_ne]; exact e2
    have HZ := Lib.hid (show dif A B = false by rw [HD.out, f1, Bool.false_and, Bool.and_false])
    clear e2 NQ HD
    go_wp2
    go_ret
    exact ⟨by rw [HZ.out]; rfl, B0.out.trans (M3.out.trans M5.out)⟩
  subst e2
  have HZ := Lib.hid (show dif A B = q by rw [HD.out]; simp)
  have nq := NQ.out
  clear HD NQ
  go_wp2_with (first | (refine load_guarded (by rfl) 23 (.tmp 7) rfl q1 0 rfl Y1 _ RH5.out Tryd.underlying23 rfl J1.out ?_) | (refine load_guarded (by rfl) 23 (.tmp 9) rfl q2 0 rfl Y2 _ RI.out Tryd.underlying23 rfl J2.out ?_))
  go_ret
  exact ⟨by rw [HZ.out]; rfl, B0.out.trans (M3.out.trans M5.out)⟩

end Vt
end Go.Proofs.YtgalhpejihmhkaaDoor
end

section
/-
  What vote.Surrounds answers. Condition: roots have 32 bytes.
-/
namespace Go.Proofs.YtgalhpejihmhkaaDoor
open Go.RowKit Go.Shelf
set_option linter.unusedVariables false
namespace Vt
open Kk

/-- Does one vote surround the other? -/
def sur (v1 s1 t1 v2 s2 t2 : Int) : Bool := (chkE v1 s1 t1 == 0) && ((chkE v2 s2 t2 == 0) && ((v1 == v2) && (decide (s1 < s2) && decide (t2 < t1))))
set_option maxRecDepth 100000 in
set_option maxHeartbeats 4000000 in
theorem surrounds (v1 s1 t1 g1 : Int) (h1 : List Int) (v2 s2 t2 g2 : Int) (h2 : List Int) (w : World) (l1 : h1.length = 32) (l2 : h2.length = 32) :
    Calls Tryd.prog 21 #[.agg (attC v1 s1 t1 h1 g1).toArray, .agg (attC v2 s2 t2 h2 g2).toArray] w fun e w' => e = .returned (.bool (sur v1 s1 t1 v2 s2 t2)) ∧ Bel w w' := by
  have K1 := Lib.hid (fun W => check v1 s1 t1 g1 h1 W l1)
  have K2 := Lib.hid (fun W => check v2 s2 t2 g2 h2 W l2)
  have HS := Lib.hid (show sur v1 s1 t1 v2 s2 t2 = ((chkE v1 s1 t1 == 0) && ((chkE v2 s2 t2 == 0) && ((v1 == v2) && (decide (s1 < s2) && decide (t2 < t1))))) from rfl)
  obtain ⟨C1, hC1⟩ : ∃ D, D = attC v1 s1 t1 h1 g1 := ⟨_, rfl⟩
  obtain ⟨C2, hC2⟩ : ∃ D, D = attC v2 s2 t2 h2 g2 := ⟨_, rfl⟩
  obtain ⟨E1, hE1⟩ : ∃ E, E = chkE v1 s1 t1 := ⟨_, rfl⟩
  obtain ⟨E2, hE2⟩ : ∃ E, E = chkE v2 s2 t2 := ⟨_, rfl⟩
  obtain ⟨R, hR⟩ : ∃ R, R = sur v1 s1 t1 v2 s2 t2 := ⟨_, rfl⟩
  have L1 := Lib.hid (show C1.length = 36 by rw [hC1]; exact len_attC l1 v1 s1 t1 g1)
  have L2 := Lib.hid (show C2.length = 36 by rw [hC2]; exact len_attC l2 v2 s2 t2 g2)
  have a1 : C1[0]? = some (.int .i64 v1) := by rw [hC1]; rfl
  have a2 : C2[0]? = some (.int .i64 v2) := by rw [hC2]; rfl
  have c1 : C1[1]? = some (.int .i64 s1) := by rw [hC1]; rfl
  have c2 : C2[1]? = some (.int .i64 s2) := by rw [hC2]; rfl
  have d1 : C1[2]? = some (.int .i64 t1) := by rw [hC1]; rfl
  have d2 : C2[2]? = some (.int .i64 t2) := by rw [hC2]; rfl
  rw [← hC1, ← hE1] at K1
  rw [← hC2, ← hE2] at K2
  rw [← hE1, ← hE2, ← hR] at HS
  rw [← hC1, ← hC2, ← hR]
  clear hC1 hC2 hE1 hE2 hR l1 l2
  obtain ⟨b1, hb1⟩ : ∃ b, b = w.heap.size := ⟨_, rfl⟩
  obtain ⟨b2, hb2⟩ : ∃ b, b = w.heap.size + 1 := ⟨_, rfl⟩
  obtain ⟨W1, hW1⟩ : ∃ W, w.alloc (.cells C1.toArray 26) = W := ⟨_, rfl⟩
  obtain ⟨W, hW⟩ : ∃ W, W1.alloc (.cells C2.toArray 26) = W := ⟨_, rfl⟩
  have z1 : W1.heap.size = w.heap.size + 1 := by rw [← hW1]; simp
  have z2 : W.heap.size = w.heap.size + 2 := by rw [← hW]; simp; exact z1
  have k1 : Bel w W1 := by rw [← hW1]; exact (Bel.refl w).alloc _
  have k2 : Bel W1 W := by rw [← hW]; exact (Bel.refl W1).alloc _
  have hbk1 : Blk W b1 C1.toArray 26 := by
    have hbk : Blk W1 b1 C1.toArray 26 := by rw [← hW1, hb1]; exact Blk.new w _ _
    exact hbk.bel k2
  have hbk2 : Blk W b2 C2.toArray 26 := by rw [← hW, hb2, ← z1]; exact Blk.new W1 _ _
  have CL := Lib.hid (show ∀ X, Bel W X → X.rangeAt b2 0 C2 ∧ X.cell? ⟨b1, 0, none⟩ = some (.int .i64 v1) ∧ X.cell? ⟨b2, 0, none⟩ = some (.int .i64 v2) ∧ X.cell? ⟨b1, 1, none⟩ = some (.int .i64 s1) ∧ X.cell? ⟨b2, 1, none⟩ = some (.int .i64 s2) ∧ X.cell? ⟨b1, 2, none⟩ = some (.int .i64 t1) ∧ X.cell? ⟨b2, 2, none⟩ = some (.int .i64 t2) from fun X hX =>
    ⟨range_blk (hbk2.bel hX), (hbk1.bel hX).cell 0 (by rw [List.getElem?_toArray]; exact a1), (hbk2.bel hX).cell 0 (by rw [List.getElem?_toArray]; exact a2), (hbk1.bel hX).cell 1 (by rw [List.getElem?_toArray]; exact c1), (hbk2.bel hX).cell 1 (by rw [List.getElem?_toArray]; exact c2), (hbk1.bel hX).cell 2 (by rw [List.getElem?_toArray]; exact d1), (hbk2.bel hX).cell 2 (by rw [List.getElem?_toArray]; exact d2)⟩)
  have R1 := Lib.hid (show W.rangeAt b1 0 C1 from range_blk hbk1)
  have B0 := Lib.hid (k1.trans k2)
  have HW1 := Lib.hid hW1
  have HW := Lib.hid hW
  have X1 := Lib.hid hb1
  have X2 := Lib.hid hb2
  clear hb1 hb2 hW1 hW z1 z2 k1 k2 hbk1 hbk2 a1 a2 c1 c2 d1 d2
  go_enter Tryd.func21, Tryd.ntmps21
  go_upto_region 1 with fail
  rw [← X2.out, ← X1.out, HW1.out, HW.out]
  go_wp2_with (refine wpList_load_mid rfl 26 (.tmp 2) rfl b1 0 rfl C1 _ R1.out Tryd.underlying26 rfl (by rw [L1.out]; exact info_att) ?_)
  refine (K1.out W).mono ?_
  rintro e w2 ⟨rfl, m2⟩
  have M2 := Lib.hid (show Bel W w2 from m2)
  clear m2 K1 R1
  by_cases e1 : E1 = 0
  case neg =>
    have f1 : (E1 == 0) = false := by rw [beq_eq_false_iff_ne]; exact e1
    have HZ := Lib.hid (show R = false by rw [HS.out, f1, Bool.false_and])
    clear e1 HS
    go_wp2
    go_ret
    exact ⟨by rw [HZ.out]; rfl, B0.out.trans M2.out⟩
  subst e1
  obtain ⟨hr, x1, x2, x3, x4, x5, x6⟩ := CL.out w2 M2.out
  have HR := Lib.hid hr
  clear hr x1 x2 x3 x4 x5 x6
  go_wp2_with (refine load_guarded (by rfl) 26 (.tmp 3) rfl b2 0 rfl C2 _ HR.out Tryd.underlying26 rfl (by rw [L2.out]; exact info_att) ?_)
  refine (K2.out w2).mono ?_
  rintro e w3 ⟨rfl, m3⟩
  have M3 := Lib.hid (M2.out.trans (show Bel w2 w3 from m3))
  clear m3 K2 HR
  by_cases e2 : E2 = 0
  case neg =>
    have f1 : (E2 == 0) = false := by rw [beq_eq_false_iff_ne]; exact e2
    have HZ := Lib.hid (show R = false by rw [HS.out, f1, Bool.false_and, Bool.and_false])
    clear e2 HS
    go_wp2
    go_ret
    exact ⟨by rw [HZ.out]; rfl, B0.out.trans M3.out⟩
  subst e2
  obtain ⟨hr, x1, x2, x3, x4, x5, x6⟩ := CL.out w3 M3.out
  clear hr
  by_cases e3 : v1 = v2
  case neg =>
    have f1 : (v1 == v2) = false := by rw [beq_eq_false_iff_ne]; exact e3
    have HZ := Lib.hid (show R = false by rw [HS.out, f1, Bool.false_and, Bool.and_false, Bool.and_false])
    clear e3 HS
    go_wp2
    go_ret
    exact ⟨by rw [HZ.out]; rfl, B0.out.trans M3.out⟩
  subst e3
  by_cases e4 : s1 < s2
  case neg =>
    have HZ := Lib.hid (show R = false by rw [HS.out, decide_eq_false e4]; simp)
    clear HS
    go_wp2
    go_ret
    exact ⟨by rw [HZ.out]; rfl, B0.out.trans M3.out⟩
  by_cases e5 : t2 < t1
  case neg =>
    have HZ := Lib.hid (show R = false by rw [HS.out, decide_eq_false e5]; simp)
    clear HS
    go_wp2
    go_ret
    exact ⟨by rw [HZ.out]; simp; omega, B0.out.trans M3.out⟩
  have HZ := Lib.hid (show R = true by rw [HS.out, decide_eq_true e4, decide_eq_true e5]; simp)
  clear HS
  go_wp2
  go_ret
  exact ⟨by rw [HZ.out]; rfl, B0.out.trans M3.out⟩
end Vt
end Go.Proofs.YtgalhpejihmhkaaDoor
end

section
/-
  What vote.Doubles, DoublesBlock and Surrounds answer. Conditions: roots have 32 bytes; the table of turns lies in its variable.
-/
namespace Go.Proofs.YtgalhpejihmhkaaDoor
open Go.RowKit Go.Shelf
set_option linter.unusedVariables false
namespace Vt
open Kk


set_option maxRecDepth 100000 in
set_option maxHeartbeats 4000000 in
theorem doubles (v1 s1 t1 g1 : Int) (h1 : List Int) (v2 s2 t2 g2 : Int) (h2 : List Int) (w : World) (l1 : h1.length = 32) (y1 : By h1) (l2 : h2.length = 32) (y2 : By h2) (hT : Tn w) :
    Calls Tryd.prog 20 #[.agg (attC v1 s1 t1 h1 g1).toArray, .agg (attC v2 s2 t2 h2 g2).toArray] w fun e w' => e = .returned (.bool ((v1 == v2) && ((t1 == t2) && dif (attI v1 s1 t1 h1) (attI v2 s2 t2 h2)))) ∧ Bel w w' := by
  have DF := Lib.hid (fun W (h : Tn W) => differA v1 s1 t1 g1 h1 v2 s2 t2 g2 h2 W l1 y1 l2 y2 h)
  obtain ⟨C1, hC1⟩ : ∃ D, D = attC v1 s1 t1 h1 g1 := ⟨_, rfl⟩
  obtain ⟨C2, hC2⟩ : ∃ D, D = attC v2 s2 t2 h2 g2 := ⟨_, rfl⟩
  have L1 := Lib.hid (show C1.length = 36 by rw [hC1]; exact len_attC l1 v1 s1 t1 g1)
  have L2 := Lib.hid (show C2.length = 36 by rw [hC2]; exact len_attC l2 v2 s2 t2 g2)
  have a1 : C1[0]? = some (.int .i64 v1) := by rw [hC1]; rfl
  have a2 : C2[0]? = some (.int .i64 v2) := by rw [hC2]; rfl
  have c1 : C1[2]? = some (.int .i64 t1) := by rw [hC1]; rfl
  have c2 : C2[2]? = some (.int .i64 t2) := by rw [hC2]; rfl
  rw [← hC1, ← hC2] at DF
  rw [← hC1, ← hC2]
  obtain ⟨d, hd⟩ : ∃ d, d = dif (attI v1 s1 t1 h1) (attI v2 s2 t2 h2) := ⟨_, rfl⟩
  rw [← hd] at DF ⊢
  clear hC1 hC2 l1 l2 y1 y2 hd
  obtain ⟨b1, hb1⟩ : ∃ b, b = w.heap.size := ⟨_, rfl⟩
  obtain ⟨b2, hb2⟩ : ∃ b, b = w.heap.size + 1 := ⟨_, rfl⟩
  obtain ⟨W1, hW1⟩ : ∃ W, w.alloc (.cells C1.toArray 26) = W := ⟨_, rfl⟩
  obtain ⟨W, hW⟩ : ∃ W, W1.alloc (.cells C2.toArray 26) = W := ⟨_, rfl⟩
  have z1 : W1.heap.size = w.heap.size + 1 := by rw [← hW1]; simp
  have z2 : W.heap.size = w.heap.size + 2 := by rw [← hW]; simp; exact z1
  have k1 : Bel w W1 := by rw [← hW1]; exact (Bel.refl w).alloc _
  have k2 : Bel W1 W := by rw [← hW]; exact (Bel.refl W1).alloc _
  have hbk1 : Blk W b1 C1.toArray 26 := by
    have hbk : Blk W1 b1 C1.toArray 26 := by rw [← hW1, hb1]; exact Blk.new w _ _
    exact hbk.bel k2
  have hbk2 : Blk W b2 C2.toArray 26 := by rw [← hW, hb2, ← z1]; exact Blk.new W1 _ _
  have x1 : W.cell? ⟨b1, 0, none⟩ = some (.int .i64 v1) := hbk1.cell 0 (by rw [List.getElem?_toArray]; exact a1)
  have x2 : W.cell? ⟨b2, 0, none⟩ = some (.int .i64 v2) := hbk2.cell 0 (by rw [List.getElem?_toArray]; exact a2)
  have x3 : W.cell? ⟨b1, 2, none⟩ = some (.int .i64 t1) := hbk1.cell 2 (by rw [List.getElem?_toArray]; exact c1)
  have x4 : W.cell? ⟨b2, 2, none⟩ = some (.int .i64 t2) := hbk2.cell 2 (by rw [List.getElem?_toArray]; exact c2)
  have R1 := Lib.hid (show W.rangeAt b1 0 C1 from range_blk hbk1)
  have R2 := Lib.hid (show W.rangeAt b2 0 C2 from range_blk hbk2)
  have B0 := Lib.hid (k1.trans k2)
  have HT := Lib.hid (hT.bel (k1.trans k2))
  have HW1 := Lib.hid hW1
  have HW := Lib.hid hW
  have X1 := Lib.hid hb1
  have X2 := Lib.hid hb2
  clear hb1 hb2 hW1 hW z1 z2 k1 k2 hT hbk1 hbk2 a1 a2 c1 c2
  go_enter Tryd.func20, Tryd.ntmps20
  go_upto_region 1 with fail
  rw [← X2.out, ← X1.out, HW1.out, HW.out]
  by_cases e1 : v1 = v2
  case neg =>
    have f1 : (v1 == v2) = false := by rw [beq_eq_false_iff_ne]; exact e1
    have F1 := Lib.hid f1
    clear e1
    go_wp2
    go_ret
    exact ⟨by simp [F1.out], B0.out⟩
  subst e1
  by_cases e2 : t1 = t2
  case neg =>
    have f1 : (t1 == t2) = false := by rw [beq_eq_false_iff_ne]; exact e2
    have F1 := Lib.hid f1
    clear e2
    go_wp2
    go_ret
    exact ⟨by simp [F1.out], B0.out⟩
  subst e2
  go_wp2_with (first | (refine load_guarded (by rfl) 26 (.tmp 2) rfl b1 0 rfl C1 _ R1.out Tryd.underlying26 rfl (by rw [L1.out]; exact info_att) ?_) | (refine load_guarded (by rfl) 26 (.tmp 3) rfl b2 0 rfl C2 _ R2.out Tryd.underlying26 rfl (by rw [L2.out]; exact info_att) ?_))
  refine (DF.out W HT.out).mono ?_
  rintro e w2 ⟨rfl, m2⟩
  have M2 := Lib.hid (show Bel W w2 from m2)
  clear m2 DF
  go_wp2
  go_ret
  exact ⟨by simp, B0.out.trans M2.out⟩

end Vt
end Go.Proofs.YtgalhpejihmhkaaDoor
end
