/-
  The walk of the law VotePairs: it returns true. Conditions: roots have 32 bytes; the table of turns lies in its variable.
-/
import Derived.Test.YtjbbecplkkkiiaaDoorGW
import Derived.Test.YtjbbecplkkkiiaaDoorGX
import Derived.Test.YtjbbecplkkkiiaaDoorGY
namespace Go.Proofs.YtjbbecplkkkiiaaDoor
open Go.RowKit Go.Shelf
set_option linter.unusedVariables false
namespace Vt
open Kk

set_option maxRecDepth 100000 in
set_option maxHeartbeats 8000000 in
theorem pairsLaw (v1 s1 t1 g1 : Int) (h1 : List Int) (v2 s2 t2 g2 : Int) (h2 : List Int) (v3 s3 g3 : Int) (h3 : List Int) (v4 s4 g4 : Int) (h4 : List Int) (w : World) (l1 : h1.length = 32) (y1 : By h1) (l2 : h2.length = 32) (y2 : By h2) (l3 : h3.length = 32) (y3 : By h3) (l4 : h4.length = 32) (y4 : By h4) (hT : Tn w) :
    Calls Tryd.prog 4 #[.agg (attC v1 s1 t1 h1 g1).toArray, .agg (attC v2 s2 t2 h2 g2).toArray, .agg (propC v3 s3 h3 g3).toArray, .agg (propC v4 s4 h4 g4).toArray] w fun e w' => e = .returned (.bool true) ∧ Bel w w' := by
  have DO1 := Lib.hid (fun W h => doubles v1 s1 t1 g1 h1 v2 s2 t2 g2 h2 W l1 y1 l2 y2 h)
  have DO2 := Lib.hid (fun W => refDoubles v1 s1 t1 g1 h1 v2 s2 t2 g2 h2 W l1 y1 l2 y2)
  have SU1 := Lib.hid (fun W => surrounds v1 s1 t1 g1 h1 v2 s2 t2 g2 h2 W l1 l2)
  have SU2 := Lib.hid (fun W => refSurrounds v1 s1 t1 g1 h1 v2 s2 t2 g2 h2 W l1 l2)
  have BL1 := Lib.hid (fun W h => doublesB v3 s3 g3 h3 v4 s4 g4 h4 W l3 y3 l4 y4 h)
  have BL2 := Lib.hid (fun W => refDoublesB v3 s3 g3 h3 v4 s4 g4 h4 W l3 y3 l4 y4)
  have AW := Lib.hid (fun W => awake W)
  obtain ⟨C1, hC1⟩ : ∃ D, D = attC v1 s1 t1 h1 g1 := ⟨_, rfl⟩
  have L1 := Lib.hid (show C1.length = 36 by rw [hC1]; exact len_attC l1 v1 s1 t1 g1)
  obtain ⟨C2, hC2⟩ : ∃ D, D = attC v2 s2 t2 h2 g2 := ⟨_, rfl⟩
  have L2 := Lib.hid (show C2.length = 36 by rw [hC2]; exact len_attC l2 v2 s2 t2 g2)
  obtain ⟨C3, hC3⟩ : ∃ D, D = propC v3 s3 h3 g3 := ⟨_, rfl⟩
  have L3 := Lib.hid (show C3.length = 35 by rw [hC3]; exact len_propC l3 v3 s3 g3)
  obtain ⟨C4, hC4⟩ : ∃ D, D = propC v4 s4 h4 g4 := ⟨_, rfl⟩
  have L4 := Lib.hid (show C4.length = 35 by rw [hC4]; exact len_propC l4 v4 s4 g4)
  rw [← hC1, ← hC2] at DO1 DO2 SU1 SU2
  rw [← hC3, ← hC4] at BL1 BL2
  rw [← hC1, ← hC2, ← hC3, ← hC4]
  obtain ⟨d1, hd1⟩ : ∃ d, d = ((v1 == v2) && ((t1 == t2) && dif (attI v1 s1 t1 h1) (attI v2 s2 t2 h2))) := ⟨_, rfl⟩
  obtain ⟨d2, hd2⟩ : ∃ d, d = sur v1 s1 t1 v2 s2 t2 := ⟨_, rfl⟩
  obtain ⟨d3, hd3⟩ : ∃ d, d = ((v3 == v4) && ((s3 == s4) && dif (propI v3 s3 h3) (propI v4 s4 h4))) := ⟨_, rfl⟩
  rw [← hd1] at DO1 DO2
  rw [← hd2] at SU1 SU2
  rw [← hd3] at BL1 BL2
  clear hC1 hC2 hC3 hC4 hd1 hd2 hd3 l1 l2 l3 l4 y1 y2 y3 y4
  obtain ⟨b1, hb1⟩ : ∃ b, b = w.heap.size + 0 := ⟨_, rfl⟩
  obtain ⟨b2, hb2⟩ : ∃ b, b = w.heap.size + 1 := ⟨_, rfl⟩
  obtain ⟨b3, hb3⟩ : ∃ b, b = w.heap.size + 2 := ⟨_, rfl⟩
  obtain ⟨b4, hb4⟩ : ∃ b, b = w.heap.size + 3 := ⟨_, rfl⟩
  obtain ⟨W1, hW1⟩ : ∃ W, w.alloc (.cells C1.toArray 26) = W := ⟨_, rfl⟩
  have z1 : W1.heap.size = w.heap.size + 1 := by rw [← hW1]; simp
  have k1 : Bel w W1 := by rw [← hW1]; exact (Bel.refl _).alloc _
  have m1 : Blk W1 b1 C1.toArray 26 := by rw [← hW1, show b1 = w.heap.size by omega]; exact Blk.new _ _ _
  obtain ⟨W2, hW2⟩ : ∃ W, W1.alloc (.cells C2.toArray 26) = W := ⟨_, rfl⟩
  have z2 : W2.heap.size = w.heap.size + 2 := by rw [← hW2]; simp; omega
  have k2 : Bel W1 W2 := by rw [← hW2]; exact (Bel.refl _).alloc _
  have m2 : Blk W2 b2 C2.toArray 26 := by rw [← hW2, show b2 = W1.heap.size by omega]; exact Blk.new _ _ _
  obtain ⟨W3, hW3⟩ : ∃ W, W2.alloc (.cells C3.toArray 28) = W := ⟨_, rfl⟩
  have z3 : W3.heap.size = w.heap.size + 3 := by rw [← hW3]; simp; omega
  have k3 : Bel W2 W3 := by rw [← hW3]; exact (Bel.refl _).alloc _
  have m3 : Blk W3 b3 C3.toArray 28 := by rw [← hW3, show b3 = W2.heap.size by omega]; exact Blk.new _ _ _
  obtain ⟨W, hW4⟩ : ∃ W, W3.alloc (.cells C4.toArray 28) = W := ⟨_, rfl⟩
  have z4 : W.heap.size = w.heap.size + 4 := by rw [← hW4]; simp; omega
  have k4 : Bel W3 W := by rw [← hW4]; exact (Bel.refl _).alloc _
  have m4 : Blk W b4 C4.toArray 28 := by rw [← hW4, show b4 = W3.heap.size by omega]; exact Blk.new _ _ _
  have B0 := ((k1.trans k2).trans k3).trans k4
  have S0 : W.rangeAt b1 0 C1 ∧ W.rangeAt b2 0 C2 ∧ W.rangeAt b3 0 C3 ∧ W.rangeAt b4 0 C4 ∧ (b1 < W.heap.size ∧ b2 < W.heap.size ∧ b3 < W.heap.size ∧ b4 < W.heap.size) ∧ Bel w W := ⟨range_blk (((m1.bel k2).bel k3).bel k4), range_blk ((m2.bel k3).bel k4), range_blk (m3.bel k4), range_blk m4, ⟨by omega, by omega, by omega, by omega⟩, B0⟩
  have KEEP := Lib.hid (show ∀ W W' : World, (W.rangeAt b1 0 C1 ∧ W.rangeAt b2 0 C2 ∧ W.rangeAt b3 0 C3 ∧ W.rangeAt b4 0 C4 ∧ (b1 < W.heap.size ∧ b2 < W.heap.size ∧ b3 < W.heap.size ∧ b4 < W.heap.size) ∧ Bel w W) → Bel W W' → (W'.rangeAt b1 0 C1 ∧ W'.rangeAt b2 0 C2 ∧ W'.rangeAt b3 0 C3 ∧ W'.rangeAt b4 0 C4 ∧ (b1 < W'.heap.size ∧ b2 < W'.heap.size ∧ b3 < W'.heap.size ∧ b4 < W'.heap.size) ∧ Bel w W') from
    fun W W' h hb => ⟨range_up h.1 hb h.2.2.2.2.1.1, range_up h.2.1 hb h.2.2.2.2.1.2.1, range_up h.2.2.1 hb h.2.2.2.2.1.2.2.1, range_up h.2.2.2.1 hb h.2.2.2.2.1.2.2.2, ⟨Nat.lt_of_lt_of_le h.2.2.2.2.1.1 (Below.size hb), Nat.lt_of_lt_of_le h.2.2.2.2.1.2.1 (Below.size hb), Nat.lt_of_lt_of_le h.2.2.2.2.1.2.2.1 (Below.size hb), Nat.lt_of_lt_of_le h.2.2.2.2.1.2.2.2 (Below.size hb)⟩, h.2.2.2.2.2.trans hb⟩)
  have TT := Lib.hid (show ∀ W : World, (W.rangeAt b1 0 C1 ∧ W.rangeAt b2 0 C2 ∧ W.rangeAt b3 0 C3 ∧ W.rangeAt b4 0 C4 ∧ (b1 < W.heap.size ∧ b2 < W.heap.size ∧ b3 < W.heap.size ∧ b4 < W.heap.size) ∧ Bel w W) → Tn W from fun W h => hT.bel h.2.2.2.2.2)
  have S0d := KEEP.out _ _ S0 (Bel.refl W).drew
  have uA := Tryd.underlying26
  have uP := Tryd.underlying28
  have iA1 : (Tryd.prog.info? 26).map (·.size) = some C1.length := by rw [L1.out]; exact info_att
  have iA2 : (Tryd.prog.info? 26).map (·.size) = some C2.length := by rw [L2.out]; exact info_att
  have iP3 : (Tryd.prog.info? 28).map (·.size) = some C3.length := by rw [L3.out]; exact info_prop
  have iP4 : (Tryd.prog.info? 28).map (·.size) = some C4.length := by rw [L4.out]; exact info_prop
  have X1 := Lib.hid (show w.heap.size = b1 by omega)
  have X2 := Lib.hid (show w.heap.size + 1 = b2 by omega)
  have X3 := Lib.hid (show w.heap.size + 2 = b3 by omega)
  have X4 := Lib.hid (show w.heap.size + 3 = b4 by omega)
  have H1 := Lib.hid hW1
  have H2 := Lib.hid hW2
  have H3 := Lib.hid hW3
  have H4 := Lib.hid hW4
  clear hb1 hb2 hb3 hb4 hW1 hW2 hW3 hW4 z1 z2 z3 z4 k1 k2 k3 k4 m1 m2 m3 m4 B0 S0 hT
  go_enter Tryd.func4, Tryd.ntmps4
  go_upto_region 1 with fail
  rw [X4.out, X3.out, X2.out, X1.out, H1.out, H2.out, H3.out, H4.out]
  refine wp_region_held_drew (S := fun W => W.rangeAt b1 0 C1 ∧ W.rangeAt b2 0 C2 ∧ W.rangeAt b3 0 C3 ∧ W.rangeAt b4 0 C4 ∧ (b1 < W.heap.size ∧ b2 < W.heap.size ∧ b3 < W.heap.size ∧ b4 < W.heap.size) ∧ Bel w W) (by kernel_rfl) S0d (fun hS0 => ?_)
  obtain ⟨w6, hw6⟩ : ∃ w6, W.drew = w6 := ⟨_, rfl⟩
  rw [hw6] at hS0 ⊢
  clear hw6 S0d
  refine wpAnyH_take (i := 0) (oi := { dst := some 9, op := .load 26 (.tmp 4), type := 26, pos := "law.go:43", after := #[], guard := none }) (v := .agg C1.toArray) rfl (by kernel_rfl) (by kernel_rfl) (by kernel_rfl) (fun _ _ _ h => h) (yieldsIf_load_mid (by rfl) _ _ rfl _ _ rfl _ _ (fun w h => h.1) uA rfl iA1) hS0 ?_
  try simp only [Act.put, List.setIfInBounds_toArray, List.set_cons_zero, List.set_cons_succ]
  refine wpAnyH_take (i := 1) (oi := { dst := some 10, op := .load 26 (.tmp 5), type := 26, pos := "law.go:43", after := #[], guard := none }) (v := .agg C2.toArray) rfl (by kernel_rfl) (by kernel_rfl) (by kernel_rfl) (fun _ _ _ h => h) (yieldsIf_load_mid (by rfl) _ _ rfl _ _ rfl _ _ (fun w h => h.2.1) uA rfl iA2) hS0 ?_
  try simp only [Act.put, List.setIfInBounds_toArray, List.set_cons_zero, List.set_cons_succ]
  refine wpAnyH_take (i := 3) (oi := { dst := some 12, op := .load 26 (.tmp 4), type := 26, pos := "law.go:43", after := #[], guard := none }) (v := .agg C1.toArray) rfl (by kernel_rfl) (by kernel_rfl) (by kernel_rfl) (fun _ _ _ h => h) (yieldsIf_load_mid (by rfl) _ _ rfl _ _ rfl _ _ (fun w h => h.1) uA rfl iA1) hS0 ?_
  try simp only [Act.put, List.setIfInBounds_toArray, List.set_cons_zero, List.set_cons_succ]
  refine wpAnyH_take (i := 4) (oi := { dst := some 13, op := .load 26 (.tmp 5), type := 26, pos := "law.go:43", after := #[], guard := none }) (v := .agg C2.toArray) rfl (by kernel_rfl) (by kernel_rfl) (by kernel_rfl) (fun _ _ _ h => h) (yieldsIf_load_mid (by rfl) _ _ rfl _ _ rfl _ _ (fun w h => h.2.1) uA rfl iA2) hS0 ?_
  try simp only [Act.put, List.setIfInBounds_toArray, List.set_cons_zero, List.set_cons_succ]
  refine wpAnyH_ready (rs := [2]) (by kernel_rfl) (by simp) ?_
  refine AllReadyH.cons (o := { dst := some 11, op := .call { callee := .value (.func 23), args := #[.tmp 9, .tmp 10], argTypes := #[26, 26] }, type := 4, pos := "law.go:43", after := #[{ on := 0, ground := .data }, { on := 1, ground := .data }], guard := none }) rfl (fun K hK => ?_) AllReadyH.nil
  go_simp
  refine (DO1.out _ (TT.out _ hS0)).mono ?_
  rintro e v1 ⟨rfl, k1⟩
  go_wp2_with fail
  refine hK.out _ _ (KEEP.out _ _ hS0 k1) (fun hS1 => ?_)
  clear hK K
  try simp only [Act.put, List.setIfInBounds_toArray, List.set_cons_zero, List.set_cons_succ]
  refine wpAnyH_ready (rs := [5]) (by kernel_rfl) (by simp) ?_
  refine AllReadyH.cons (o := { dst := some 14, op := .call { callee := .value (.func 24), args := #[.tmp 12, .tmp 13], argTypes := #[26, 26] }, type := 4, pos := "law.go:43", after := #[{ on := 3, ground := .data }, { on := 4, ground := .data }, { on := 2, ground := .chain }], guard := none }) rfl (fun K hK => ?_) AllReadyH.nil
  go_simp
  refine (DO2.out _).mono ?_
  rintro e v2 ⟨rfl, k2⟩
  go_wp2_with fail
  refine hK.out _ _ (KEEP.out _ _ hS1 k2) (fun hS2 => ?_)
  clear hK K
  try simp only [Act.put, List.setIfInBounds_toArray, List.set_cons_zero, List.set_cons_succ]
  refine wpAnyH_take (i := 6) (oi := { dst := some 15, op := .binOp .eql 4 (.tmp 11) (.tmp 14) 4, type := 4, pos := "law.go:43", after := #[{ on := 2, ground := .data }, { on := 5, ground := .data }], guard := none }) (v := .bool true) rfl (by kernel_rfl) (by kernel_rfl) (by kernel_rfl) (fun _ _ _ h => h) (Or.inl ⟨by rfl, by intro w hSw; clear hSw; go_simp⟩) hS2 ?_
  try simp only [Act.put, List.setIfInBounds_toArray, List.set_cons_zero, List.set_cons_succ]
  refine wpAnyH_take (i := 7) (oi := { dst := some 16, op := .move (.tmp 15), type := 4, pos := "law.go:43", after := #[{ on := 6, ground := .data }, { on := 5, ground := .chain }], guard := none }) (v := .bool true) rfl (by kernel_rfl) (by kernel_rfl) (by kernel_rfl) (fun _ _ _ h => h) (Or.inl ⟨by rfl, by intro w hSw; clear hSw; go_simp⟩) hS2 ?_
  try simp only [Act.put, List.setIfInBounds_toArray, List.set_cons_zero, List.set_cons_succ]
  refine wpAnyH_take (i := 8) (oi := { dst := some 17, op := .load 26 (.tmp 4), type := 26, pos := "law.go:43", after := #[{ on := 7, ground := .guard }], guard := some (7, true) }) (v := .agg C1.toArray) rfl (by kernel_rfl) (by kernel_rfl) (by kernel_rfl) (fun _ _ _ h => h) (yieldsIf_load_mid (by rfl) _ _ rfl _ _ rfl _ _ (fun w h => h.1) uA rfl iA1) hS2 ?_
  try simp only [Act.put, List.setIfInBounds_toArray, List.set_cons_zero, List.set_cons_succ]
  refine wpAnyH_take (i := 9) (oi := { dst := some 18, op := .load 26 (.tmp 5), type := 26, pos := "law.go:43", after := #[{ on := 7, ground := .guard }], guard := some (7, true) }) (v := .agg C2.toArray) rfl (by kernel_rfl) (by kernel_rfl) (by kernel_rfl) (fun _ _ _ h => h) (yieldsIf_load_mid (by rfl) _ _ rfl _ _ rfl _ _ (fun w h => h.2.1) uA rfl iA2) hS2 ?_
  try simp only [Act.put, List.setIfInBounds_toArray, List.set_cons_zero, List.set_cons_succ]
  refine wpAnyH_take (i := 11) (oi := { dst := some 20, op := .load 26 (.tmp 4), type := 26, pos := "law.go:43", after := #[{ on := 7, ground := .guard }], guard := some (7, true) }) (v := .agg C1.toArray) rfl (by kernel_rfl) (by kernel_rfl) (by kernel_rfl) (fun _ _ _ h => h) (yieldsIf_load_mid (by rfl) _ _ rfl _ _ rfl _ _ (fun w h => h.1) uA rfl iA1) hS2 ?_
  try simp only [Act.put, List.setIfInBounds_toArray, List.set_cons_zero, List.set_cons_succ]
  refine wpAnyH_take (i := 12) (oi := { dst := some 21, op := .load 26 (.tmp 5), type := 26, pos := "law.go:43", after := #[{ on := 7, ground := .guard }], guard := some (7, true) }) (v := .agg C2.toArray) rfl (by kernel_rfl) (by kernel_rfl) (by kernel_rfl) (fun _ _ _ h => h) (yieldsIf_load_mid (by rfl) _ _ rfl _ _ rfl _ _ (fun w h => h.2.1) uA rfl iA2) hS2 ?_
  try simp only [Act.put, List.setIfInBounds_toArray, List.set_cons_zero, List.set_cons_succ]
  refine wpAnyH_ready (rs := [10]) (by kernel_rfl) (by simp) ?_
  refine AllReadyH.cons (o := { dst := some 19, op := .call { callee := .value (.func 25), args := #[.tmp 17, .tmp 18], argTypes := #[26, 26] }, type := 4, pos := "law.go:43", after := #[{ on := 8, ground := .data }, { on := 9, ground := .data }, { on := 7, ground := .chain }, { on := 7, ground := .guard }], guard := some (7, true) }) rfl (fun K hK => ?_) AllReadyH.nil
  go_simp
  refine (SU1.out _).mono ?_
  rintro e v3 ⟨rfl, k3⟩
  go_wp2_with fail
  refine hK.out _ _ (KEEP.out _ _ hS2 k3) (fun hS3 => ?_)
  clear hK K
  try simp only [Act.put, List.setIfInBounds_toArray, List.set_cons_zero, List.set_cons_succ]
  refine wpAnyH_ready (rs := [13]) (by kernel_rfl) (by simp) ?_
  refine AllReadyH.cons (o := { dst := some 22, op := .call { callee := .value (.func 26), args := #[.tmp 20, .tmp 21], argTypes := #[26, 26] }, type := 4, pos := "law.go:43", after := #[{ on := 11, ground := .data }, { on := 12, ground := .data }, { on := 10, ground := .chain }, { on := 7, ground := .guard }], guard := some (7, true) }) rfl (fun K hK => ?_) AllReadyH.nil
  go_simp
  refine (SU2.out _).mono ?_
  rintro e v4 ⟨rfl, k4⟩
  go_wp2_with fail
  refine hK.out _ _ (KEEP.out _ _ hS3 k4) (fun hS4 => ?_)
  clear hK K
  try simp only [Act.put, List.setIfInBounds_toArray, List.set_cons_zero, List.set_cons_succ]
  refine wpAnyH_take (i := 14) (oi := { dst := some 23, op := .binOp .eql 4 (.tmp 19) (.tmp 22) 4, type := 4, pos := "law.go:43", after := #[{ on := 10, ground := .data }, { on := 13, ground := .data }, { on := 7, ground := .guard }], guard := some (7, true) }) (v := .bool true) rfl (by kernel_rfl) (by kernel_rfl) (by kernel_rfl) (fun _ _ _ h => h) (Or.inl ⟨by rfl, by intro w hSw; clear hSw; go_simp⟩) hS4 ?_
  try simp only [Act.put, List.setIfInBounds_toArray, List.set_cons_zero, List.set_cons_succ]
  refine wpAnyH_take (i := 15) (oi := { dst := some 24, op := .pick (.tmp 16) (.tmp 23) (.const (Value.bool false)), type := 4, pos := "law.go:43", after := #[{ on := 7, ground := .data }, { on := 14, ground := .data }], guard := none }) (v := .bool true) rfl (by kernel_rfl) (by kernel_rfl) (by kernel_rfl) (fun _ _ _ h => h) (Or.inl ⟨by rfl, by intro w hSw; clear hSw; go_simp⟩) hS4 ?_
  try simp only [Act.put, List.setIfInBounds_toArray, List.set_cons_zero, List.set_cons_succ]
  refine wpAnyH_take (i := 16) (oi := { dst := some 25, op := .move (.tmp 24), type := 4, pos := "law.go:43", after := #[{ on := 15, ground := .data }, { on := 13, ground := .chain }], guard := none }) (v := .bool true) rfl (by kernel_rfl) (by kernel_rfl) (by kernel_rfl) (fun _ _ _ h => h) (Or.inl ⟨by rfl, by intro w hSw; clear hSw; go_simp⟩) hS4 ?_
  try simp only [Act.put, List.setIfInBounds_toArray, List.set_cons_zero, List.set_cons_succ]
  refine wpAnyH_take (i := 17) (oi := { dst := some 26, op := .load 28 (.tmp 6), type := 28, pos := "law.go:43", after := #[{ on := 16, ground := .guard }], guard := some (16, true) }) (v := .agg C3.toArray) rfl (by kernel_rfl) (by kernel_rfl) (by kernel_rfl) (fun _ _ _ h => h) (yieldsIf_load_mid (by rfl) _ _ rfl _ _ rfl _ _ (fun w h => h.2.2.1) uP rfl iP3) hS4 ?_
  try simp only [Act.put, List.setIfInBounds_toArray, List.set_cons_zero, List.set_cons_succ]
  refine wpAnyH_take (i := 18) (oi := { dst := some 27, op := .load 28 (.tmp 7), type := 28, pos := "law.go:43", after := #[{ on := 16, ground := .guard }], guard := some (16, true) }) (v := .agg C4.toArray) rfl (by kernel_rfl) (by kernel_rfl) (by kernel_rfl) (fun _ _ _ h => h) (yieldsIf_load_mid (by rfl) _ _ rfl _ _ rfl _ _ (fun w h => h.2.2.2.1) uP rfl iP4) hS4 ?_
  try simp only [Act.put, List.setIfInBounds_toArray, List.set_cons_zero, List.set_cons_succ]
  refine wpAnyH_take (i := 20) (oi := { dst := some 29, op := .load 28 (.tmp 6), type := 28, pos := "law.go:43", after := #[{ on := 16, ground := .guard }], guard := some (16, true) }) (v := .agg C3.toArray) rfl (by kernel_rfl) (by kernel_rfl) (by kernel_rfl) (fun _ _ _ h => h) (yieldsIf_load_mid (by rfl) _ _ rfl _ _ rfl _ _ (fun w h => h.2.2.1) uP rfl iP3) hS4 ?_
  try simp only [Act.put, List.setIfInBounds_toArray, List.set_cons_zero, List.set_cons_succ]
  refine wpAnyH_take (i := 21) (oi := { dst := some 30, op := .load 28 (.tmp 7), type := 28, pos := "law.go:43", after := #[{ on := 16, ground := .guard }], guard := some (16, true) }) (v := .agg C4.toArray) rfl (by kernel_rfl) (by kernel_rfl) (by kernel_rfl) (fun _ _ _ h => h) (yieldsIf_load_mid (by rfl) _ _ rfl _ _ rfl _ _ (fun w h => h.2.2.2.1) uP rfl iP4) hS4 ?_
  try simp only [Act.put, List.setIfInBounds_toArray, List.set_cons_zero, List.set_cons_succ]
  refine wpAnyH_ready (rs := [19]) (by kernel_rfl) (by simp) ?_
  refine AllReadyH.cons (o := { dst := some 28, op := .call { callee := .value (.func 27), args := #[.tmp 26, .tmp 27], argTypes := #[28, 28] }, type := 4, pos := "law.go:43", after := #[{ on := 17, ground := .data }, { on := 18, ground := .data }, { on := 16, ground := .chain }, { on := 16, ground := .guard }], guard := some (16, true) }) rfl (fun K hK => ?_) AllReadyH.nil
  go_simp
  refine (BL1.out _ (TT.out _ hS4)).mono ?_
  rintro e v5 ⟨rfl, k5⟩
  go_wp2_with fail
  refine hK.out _ _ (KEEP.out _ _ hS4 k5) (fun hS5 => ?_)
  clear hK K
  try simp only [Act.put, List.setIfInBounds_toArray, List.set_cons_zero, List.set_cons_succ]
  refine wpAnyH_ready (rs := [22]) (by kernel_rfl) (by simp) ?_
  refine AllReadyH.cons (o := { dst := some 31, op := .call { callee := .value (.func 28), args := #[.tmp 29, .tmp 30], argTypes := #[28, 28] }, type := 4, pos := "law.go:43", after := #[{ on := 20, ground := .data }, { on := 21, ground := .data }, { on := 19, ground := .chain }, { on := 16, ground := .guard }], guard := some (16, true) }) rfl (fun K hK => ?_) AllReadyH.nil
  go_simp
  refine (BL2.out _).mono ?_
  rintro e v6 ⟨rfl, k6⟩
  go_wp2_with fail
  refine hK.out _ _ (KEEP.out _ _ hS5 k6) (fun hS6 => ?_)
  clear hK K
  try simp only [Act.put, List.setIfInBounds_toArray, List.set_cons_zero, List.set_cons_succ]
  refine wpAnyH_take (i := 23) (oi := { dst := some 32, op := .binOp .eql 4 (.tmp 28) (.tmp 31) 4, type := 4, pos := "law.go:43", after := #[{ on := 19, ground := .data }, { on := 22, ground := .data }, { on := 16, ground := .guard }], guard := some (16, true) }) (v := .bool true) rfl (by kernel_rfl) (by kernel_rfl) (by kernel_rfl) (fun _ _ _ h => h) (Or.inl ⟨by rfl, by intro w hSw; clear hSw; go_simp⟩) hS6 ?_
  try simp only [Act.put, List.setIfInBounds_toArray, List.set_cons_zero, List.set_cons_succ]
  refine wpAnyH_take (i := 24) (oi := { dst := some 33, op := .pick (.tmp 25) (.tmp 32) (.const (Value.bool false)), type := 4, pos := "law.go:43", after := #[{ on := 16, ground := .data }, { on := 23, ground := .data }], guard := none }) (v := .bool true) rfl (by kernel_rfl) (by kernel_rfl) (by kernel_rfl) (fun _ _ _ h => h) (Or.inl ⟨by rfl, by intro w hSw; clear hSw; go_simp⟩) hS6 ?_
  try simp only [Act.put, List.setIfInBounds_toArray, List.set_cons_zero, List.set_cons_succ]
  refine wpAnyH_take (i := 25) (oi := { dst := some 34, op := .move (.tmp 33), type := 4, pos := "law.go:43", after := #[{ on := 24, ground := .data }, { on := 22, ground := .chain }], guard := none }) (v := .bool true) rfl (by kernel_rfl) (by kernel_rfl) (by kernel_rfl) (fun _ _ _ h => h) (Or.inl ⟨by rfl, by intro w hSw; clear hSw; go_simp⟩) hS6 ?_
  try simp only [Act.put, List.setIfInBounds_toArray, List.set_cons_zero, List.set_cons_succ]
  refine wpAnyH_ready (rs := [26]) (by kernel_rfl) (by simp) ?_
  refine AllReadyH.cons (o := { dst := some 35, op := .call { callee := .value (.func 22), args := #[], argTypes := #[] }, type := 4, pos := "law.go:43", after := #[{ on := 25, ground := .chain }, { on := 25, ground := .guard }], guard := some (25, true) }) rfl (fun K hK => ?_) AllReadyH.nil
  go_simp
  refine (AW.out _).mono ?_
  rintro e v7 ⟨rfl, k7⟩
  go_wp2_with fail
  refine hK.out _ _ (KEEP.out _ _ hS6 k7) (fun hS7 => ?_)
  clear hK K
  try simp only [Act.put, List.setIfInBounds_toArray, List.set_cons_zero, List.set_cons_succ]
  refine wpAnyH_take (i := 27) (oi := { dst := some 36, op := .pick (.tmp 34) (.tmp 35) (.const (Value.bool false)), type := 4, pos := "law.go:43", after := #[{ on := 25, ground := .data }, { on := 26, ground := .data }], guard := none }) (v := .bool true) rfl (by kernel_rfl) (by kernel_rfl) (by kernel_rfl) (fun _ _ _ h => h) (Or.inl ⟨by rfl, by intro w hSw; clear hSw; go_simp⟩) hS7 ?_
  try simp only [Act.put, List.setIfInBounds_toArray, List.set_cons_zero, List.set_cons_succ]
  refine wpAnyH_take (i := 28) (oi := { dst := some 8, op := .assign (.tmp 36), type := 4, pos := "law.go:43", after := #[{ on := 27, ground := .data }, { on := 26, ground := .chain }, { on := 0, ground := .phase }, { on := 1, ground := .phase }, { on := 2, ground := .phase }, { on := 3, ground := .phase }, { on := 4, ground := .phase }, { on := 5, ground := .phase }, { on := 6, ground := .phase }, { on := 7, ground := .phase }, { on := 8, ground := .phase }, { on := 9, ground := .phase }, { on := 10, ground := .phase }, { on := 11, ground := .phase }, { on := 12, ground := .phase }, { on := 13, ground := .phase }, { on := 14, ground := .phase }, { on := 15, ground := .phase }, { on := 16, ground := .phase }, { on := 17, ground := .phase }, { on := 18, ground := .phase }, { on := 19, ground := .phase }, { on := 20, ground := .phase }, { on := 21, ground := .phase }, { on := 22, ground := .phase }, { on := 23, ground := .phase }, { on := 24, ground := .phase }, { on := 25, ground := .phase }, { on := 26, ground := .phase }, { on := 27, ground := .phase }], guard := none }) (v := .bool true) rfl (by kernel_rfl) (by kernel_rfl) (by kernel_rfl) (fun _ _ _ h => h) (Or.inl ⟨by rfl, by intro w hSw; clear hSw; go_simp⟩) hS7 ?_
  try simp only [Act.put, List.setIfInBounds_toArray, List.set_cons_zero, List.set_cons_succ]
  refine wpAnyH_done (by kernel_rfl) ?_ _
  go_wp2
  go_ret
  exact ⟨rfl, hS7.2.2.2.2.2⟩
end Vt
end Go.Proofs.YtjbbecplkkkiiaaDoor
