/-
  What the laws' atMost, sharper and whole answer: comparisons of exact fractions. Conditions: the numbers are words.
-/
import Derived.Test.YtmfajljgcndgfaaSh8
import Derived.Test.YtmfajljgcndgfaaGreat5
namespace Go.Proofs.Ytmfajljgcndgfaa
open Go.RowKit Go.Shelf
set_option linter.unusedVariables false
namespace Sh
open Gt

/-- Two pools in the blocks p and q. -/
def Two (w V : World) (p q : Nat) (T S A B : Int) : Prop :=
  Bel w V ∧ V.cell? ⟨p, 0, none⟩ = some (.int .u64 T) ∧ V.cell? ⟨p, 1, none⟩ = some (.int .u64 S) ∧ V.cell? ⟨q, 0, none⟩ = some (.int .u64 A) ∧ V.cell? ⟨q, 1, none⟩ = some (.int .u64 B)
theorem Two.up {w V W : World} {p q : Nat} {T S A B : Int} (h : Two w V p q T S A B) (hb : Bel V W) : Two w W p q T S A B :=
  ⟨h.1.trans hb, cell_bel h.2.1 hb, cell_bel h.2.2.1 hb, cell_bel h.2.2.2.1 hb, cell_bel h.2.2.2.2 hb⟩
theorem Two.start (w : World) (T S A B : Int) : Two w ((w.alloc (.cells #[.int .u64 T, .int .u64 S] 24)).alloc (.cells #[.int .u64 A, .int .u64 B] 24)) w.heap.size (w.heap.size + 1) T S A B :=
  ⟨((Bel.refl _).alloc _).alloc _, cell_bel (w := w.alloc (.cells #[.int .u64 T, .int .u64 S] 24)) (by simp) ((Bel.refl _).alloc _), cell_bel (w := w.alloc (.cells #[.int .u64 T, .int .u64 S] 24)) (by simp) ((Bel.refl _).alloc _), by simp, by simp⟩
set_option maxRecDepth 10000 in
set_option maxHeartbeats 2000000 in
theorem atMost (x T S y A B m : Int) (w : World) (x0 : 0 ≤ x) (x1 : x ≤ 18446744073709551615) (t0 : 0 ≤ T) (t1 : T ≤ 18446744073709551615) (s0 : 0 ≤ S) (s1 : S ≤ 18446744073709551615) (y0 : 0 ≤ y) (y1 : y ≤ 18446744073709551615) (a0 : 0 ≤ A) (a1 : A ≤ 18446744073709551615) (b0 : 0 ≤ B) (b1 : B ≤ 18446744073709551615) (m0 : 0 ≤ m) (m1 : m ≤ 18446744073709551615) :
    Calls Try.prog 21 #[.int .u64 x, pV T S, .int .u64 y, pV A B, .int .u64 m] w fun r w' => r = .returned (.bool (!decide (y * A * S + S * B * m < x * T * B))) ∧ Bel w w' := by
  have HG_x := Lib.hid (fun W => great x W x0 x1)
  have HG_t := Lib.hid (fun W => great T W t0 t1)
  have HG_s := Lib.hid (fun W => great S W s0 s1)
  have HG_y := Lib.hid (fun W => great y W y0 y1)
  have HG_a := Lib.hid (fun W => great A W a0 a1)
  have HG_b := Lib.hid (fun W => great B W b0 b1)
  have HG_m := Lib.hid (fun W => great m W m0 m1)
  have I0 := Two.start w T S A B
  go_enter Try.func21, Try.ntmps21
  go_upto_region 1 with fail
  obtain ⟨W, hW⟩ : ∃ W, (w.alloc (.cells #[.int .u64 T, .int .u64 S] 24)).alloc (.cells #[.int .u64 A, .int .u64 B] 24) = W := ⟨_, rfl⟩
  obtain ⟨p, hp⟩ : ∃ p, w.heap.size = p := ⟨_, rfl⟩
  obtain ⟨q, hq⟩ : ∃ q, p + 1 = q := ⟨_, rfl⟩
  rw [hW, hp, hq] at I0
  rw [hW, hp, hq]
  clear hW hp hq
  refine wp_region_held_drew (S := fun V => Two w V p q T S A B) (by kernel_rfl) (I0.up (Bel.refl _).drew) (fun hS0 => ?_)
  obtain ⟨Wd, hWd⟩ : ∃ Wd, W.drew = Wd := ⟨_, rfl⟩
  have DWd := Lib.hid (show Bel W Wd by rw [← hWd]; exact (Bel.refl _).drew)
  rw [hWd] at hS0 ⊢
  clear hWd
  refine wpAnyH_take (i := 0) (oi := { dst := some 14, op := .move (.tmp 0), type := 22, pos := "outright.go:57", after := #[], guard := none }) (v := .int .u64 x) rfl (by kernel_rfl) (by kernel_rfl) (by kernel_rfl) (fun _ _ _ h => h) (Or.inl ⟨by rfl, by intro w hSw; clear hSw; go_simp⟩) hS0 ?_
  try simp only [Act.put, List.setIfInBounds_toArray, List.set_cons_zero, List.set_cons_succ]
  refine wpAnyH_take (i := 2) (oi := { dst := some 16, op := .fieldAddr 24 (.tmp 6) 0, type := 0, pos := "outright.go:57", after := #[], guard := none }) (v := .pointer (some ⟨p, 0, none⟩)) rfl (by kernel_rfl) (by kernel_rfl) (by kernel_rfl) (fun _ _ _ h => h) (Or.inl ⟨by rfl, by intro w hSw; clear hSw; go_simp⟩) hS0 ?_
  try simp only [Act.put, List.setIfInBounds_toArray, List.set_cons_zero, List.set_cons_succ]
  refine wpAnyH_take (i := 3) (oi := { dst := some 17, op := .load 22 (.tmp 16), type := 22, pos := "outright.go:57", after := #[{ on := 2, ground := .data }], guard := none }) (v := .int .u64 T) rfl (by kernel_rfl) (by kernel_rfl) (by kernel_rfl) (fun _ _ _ h => h) (Or.inl ⟨by rfl, by intro w h; have hcell := (h.2.1); clear h; go_simp⟩) hS0 ?_
  try simp only [Act.put, List.setIfInBounds_toArray, List.set_cons_zero, List.set_cons_succ]
  refine wpAnyH_take (i := 6) (oi := { dst := some 20, op := .fieldAddr 24 (.tmp 8) 1, type := 0, pos := "outright.go:57", after := #[], guard := none }) (v := .pointer (some ⟨q, 1, none⟩)) rfl (by kernel_rfl) (by kernel_rfl) (by kernel_rfl) (fun _ _ _ h => h) (Or.inl ⟨by rfl, by intro w hSw; clear hSw; go_simp⟩) hS0 ?_
  try simp only [Act.put, List.setIfInBounds_toArray, List.set_cons_zero, List.set_cons_succ]
  refine wpAnyH_take (i := 7) (oi := { dst := some 21, op := .load 22 (.tmp 20), type := 22, pos := "outright.go:57", after := #[{ on := 6, ground := .data }], guard := none }) (v := .int .u64 B) rfl (by kernel_rfl) (by kernel_rfl) (by kernel_rfl) (fun _ _ _ h => h) (Or.inl ⟨by rfl, by intro w h; have hcell := (h.2.2.2.2); clear h; go_simp⟩) hS0 ?_
  try simp only [Act.put, List.setIfInBounds_toArray, List.set_cons_zero, List.set_cons_succ]
  refine wpAnyH_ready (rs := [1]) (by kernel_rfl) (by simp) ?_
  refine AllReadyH.cons (o := { dst := some 15, op := .call { callee := .value (.func 27), args := #[.tmp 14], argTypes := #[22] }, type := 46, pos := "outright.go:57", after := #[{ on := 0, ground := .data }], guard := none }) rfl (fun K hK => ?_) AllReadyH.nil
  go_simp
  refine ((HG_x).out _).mono ?_
  rintro e v1 ⟨g0, rfl, hg0, kb0⟩
  go_wp2_with fail
  refine hK.out _ _ (hS0.up kb0) (fun hS1 => ?_)
  clear hK K
  try simp only [Act.put, List.setIfInBounds_toArray, List.set_cons_zero, List.set_cons_succ]
  refine wpAnyH_ready (rs := [4]) (by kernel_rfl) (by simp) ?_
  refine AllReadyH.cons (o := { dst := some 18, op := .call { callee := .value (.func 27), args := #[.tmp 17], argTypes := #[22] }, type := 46, pos := "outright.go:57", after := #[{ on := 3, ground := .data }, { on := 1, ground := .chain }], guard := none }) rfl (fun K hK => ?_) AllReadyH.nil
  go_simp
  refine ((HG_t).out _).mono ?_
  rintro e v2 ⟨g1, rfl, hg1, kb1⟩
  go_wp2_with fail
  refine hK.out _ _ (hS1.up kb1) (fun hS2 => ?_)
  clear hK K
  try simp only [Act.put, List.setIfInBounds_toArray, List.set_cons_zero, List.set_cons_succ]
  refine wpAnyH_ready (rs := [5]) (by kernel_rfl) (by simp) ?_
  refine AllReadyH.cons (o := { dst := some 19, op := .call { callee := .value (.func 26), args := #[.tmp 15, .tmp 18], argTypes := #[46, 46] }, type := 46, pos := "outright.go:57", after := #[{ on := 1, ground := .data }, { on := 4, ground := .data }, { on := 4, ground := .chain }], guard := none }) rfl (fun K hK => ?_) AllReadyH.nil
  go_simp
  refine (times _ _ _ _ _ _ _ (hg0.bel kb1) hg1 (by decide) (by decide)).mono ?_
  rintro e v3 ⟨g2, rfl, hg2, kb2⟩
  go_wp2_with fail
  refine hK.out _ _ (hS2.up kb2) (fun hS3 => ?_)
  clear hK K
  try simp only [Act.put, List.setIfInBounds_toArray, List.set_cons_zero, List.set_cons_succ]
  refine wpAnyH_ready (rs := [8]) (by kernel_rfl) (by simp) ?_
  refine AllReadyH.cons (o := { dst := some 22, op := .call { callee := .value (.func 27), args := #[.tmp 21], argTypes := #[22] }, type := 46, pos := "outright.go:57", after := #[{ on := 7, ground := .data }, { on := 5, ground := .chain }], guard := none }) rfl (fun K hK => ?_) AllReadyH.nil
  go_simp
  refine ((HG_b).out _).mono ?_
  rintro e v4 ⟨g3, rfl, hg3, kb3⟩
  go_wp2_with fail
  refine hK.out _ _ (hS3.up kb3) (fun hS4 => ?_)
  clear hK K
  try simp only [Act.put, List.setIfInBounds_toArray, List.set_cons_zero, List.set_cons_succ]
  refine wpAnyH_ready (rs := [9]) (by kernel_rfl) (by simp) ?_
  refine AllReadyH.cons (o := { dst := some 23, op := .call { callee := .value (.func 26), args := #[.tmp 19, .tmp 22], argTypes := #[46, 46] }, type := 46, pos := "outright.go:57", after := #[{ on := 5, ground := .data }, { on := 8, ground := .data }, { on := 8, ground := .chain }], guard := none }) rfl (fun K hK => ?_) AllReadyH.nil
  go_simp
  refine (times _ _ _ _ _ _ _ (hg2.bel kb3) hg3 (by decide) (by decide)).mono ?_
  rintro e v5 ⟨g4, rfl, hg4, kb4⟩
  go_wp2_with fail
  refine hK.out _ _ (hS4.up kb4) (fun hS5 => ?_)
  clear hK K
  try simp only [Act.put, List.setIfInBounds_toArray, List.set_cons_zero, List.set_cons_succ]
  refine wpAnyH_take (i := 10) (oi := { dst := some 11, op := .assign (.tmp 23), type := 46, pos := "outright.go:57", after := #[{ on := 9, ground := .data }, { on := 9, ground := .chain }, { on := 0, ground := .phase }, { on := 1, ground := .phase }, { on := 2, ground := .phase }, { on := 3, ground := .phase }, { on := 4, ground := .phase }, { on := 5, ground := .phase }, { on := 6, ground := .phase }, { on := 7, ground := .phase }, { on := 8, ground := .phase }, { on := 9, ground := .phase }], guard := none }) (v := g4) rfl (by kernel_rfl) (by kernel_rfl) (by kernel_rfl) (fun _ _ _ h => h) (Or.inl ⟨by rfl, by intro w hSw; clear hSw; go_simp⟩) hS5 ?_
  try simp only [Act.put, List.setIfInBounds_toArray, List.set_cons_zero, List.set_cons_succ]
  refine wpAnyH_done (by kernel_rfl) ?_ _
  have R1 := Lib.hid hg4
  have I1 := Lib.hid hS5
  clear hS0 hS1 hS2 hS3 hS4 hS5
  have KB1 := Lib.hid (DWd.out.trans (kb0.trans (kb1.trans (kb2.trans (kb3.trans kb4)))))
  obtain ⟨W1, hW1⟩ : ∃ W, v5 = W := ⟨_, rfl⟩
  rw [hW1] at R1 I1 KB1 ⊢
  clear hW1 
  go_upto_region 2 with fail
  refine wp_region_held_drew (S := fun V => Two w V p q T S A B) (by kernel_rfl) (I1.out.up (Bel.refl _).drew) (fun hS0 => ?_)
  obtain ⟨W1d, hW1d⟩ : ∃ W1d, W1.drew = W1d := ⟨_, rfl⟩
  have DW1d := Lib.hid (show Bel W1 W1d by rw [← hW1d]; exact (Bel.refl _).drew)
  rw [hW1d] at hS0 ⊢
  clear hW1d
  refine wpAnyH_take (i := 0) (oi := { dst := some 24, op := .move (.tmp 2), type := 22, pos := "outright.go:58", after := #[], guard := none }) (v := .int .u64 y) rfl (by kernel_rfl) (by kernel_rfl) (by kernel_rfl) (fun _ _ _ h => h) (Or.inl ⟨by rfl, by intro w hSw; clear hSw; go_simp⟩) hS0 ?_
  try simp only [Act.put, List.setIfInBounds_toArray, List.set_cons_zero, List.set_cons_succ]
  refine wpAnyH_take (i := 2) (oi := { dst := some 26, op := .fieldAddr 24 (.tmp 8) 0, type := 0, pos := "outright.go:58", after := #[], guard := none }) (v := .pointer (some ⟨q, 0, none⟩)) rfl (by kernel_rfl) (by kernel_rfl) (by kernel_rfl) (fun _ _ _ h => h) (Or.inl ⟨by rfl, by intro w hSw; clear hSw; go_simp⟩) hS0 ?_
  try simp only [Act.put, List.setIfInBounds_toArray, List.set_cons_zero, List.set_cons_succ]
  refine wpAnyH_take (i := 3) (oi := { dst := some 27, op := .load 22 (.tmp 26), type := 22, pos := "outright.go:58", after := #[{ on := 2, ground := .data }], guard := none }) (v := .int .u64 A) rfl (by kernel_rfl) (by kernel_rfl) (by kernel_rfl) (fun _ _ _ h => h) (Or.inl ⟨by rfl, by intro w h; have hcell := (h.2.2.2.1); clear h; go_simp⟩) hS0 ?_
  try simp only [Act.put, List.setIfInBounds_toArray, List.set_cons_zero, List.set_cons_succ]
  refine wpAnyH_take (i := 6) (oi := { dst := some 30, op := .fieldAddr 24 (.tmp 6) 1, type := 0, pos := "outright.go:58", after := #[], guard := none }) (v := .pointer (some ⟨p, 1, none⟩)) rfl (by kernel_rfl) (by kernel_rfl) (by kernel_rfl) (fun _ _ _ h => h) (Or.inl ⟨by rfl, by intro w hSw; clear hSw; go_simp⟩) hS0 ?_
  try simp only [Act.put, List.setIfInBounds_toArray, List.set_cons_zero, List.set_cons_succ]
  refine wpAnyH_take (i := 7) (oi := { dst := some 31, op := .load 22 (.tmp 30), type := 22, pos := "outright.go:58", after := #[{ on := 6, ground := .data }], guard := none }) (v := .int .u64 S) rfl (by kernel_rfl) (by kernel_rfl) (by kernel_rfl) (fun _ _ _ h => h) (Or.inl ⟨by rfl, by intro w h; have hcell := (h.2.2.1); clear h; go_simp⟩) hS0 ?_
  try simp only [Act.put, List.setIfInBounds_toArray, List.set_cons_zero, List.set_cons_succ]
  refine wpAnyH_ready (rs := [1]) (by kernel_rfl) (by simp) ?_
  refine AllReadyH.cons (o := { dst := some 25, op := .call { callee := .value (.func 27), args := #[.tmp 24], argTypes := #[22] }, type := 46, pos := "outright.go:58", after := #[{ on := 0, ground := .data }], guard := none }) rfl (fun K hK => ?_) AllReadyH.nil
  go_simp
  refine ((HG_y).out _).mono ?_
  rintro e v1 ⟨g0, rfl, hg0, kb0⟩
  go_wp2_with fail
  refine hK.out _ _ (hS0.up kb0) (fun hS1 => ?_)
  clear hK K
  try simp only [Act.put, List.setIfInBounds_toArray, List.set_cons_zero, List.set_cons_succ]
  refine wpAnyH_ready (rs := [4]) (by kernel_rfl) (by simp) ?_
  refine AllReadyH.cons (o := { dst := some 28, op := .call { callee := .value (.func 27), args := #[.tmp 27], argTypes := #[22] }, type := 46, pos := "outright.go:58", after := #[{ on := 3, ground := .data }, { on := 1, ground := .chain }], guard := none }) rfl (fun K hK => ?_) AllReadyH.nil
  go_simp
  refine ((HG_a).out _).mono ?_
  rintro e v2 ⟨g1, rfl, hg1, kb1⟩
  go_wp2_with fail
  refine hK.out _ _ (hS1.up kb1) (fun hS2 => ?_)
  clear hK K
  try simp only [Act.put, List.setIfInBounds_toArray, List.set_cons_zero, List.set_cons_succ]
  refine wpAnyH_ready (rs := [5]) (by kernel_rfl) (by simp) ?_
  refine AllReadyH.cons (o := { dst := some 29, op := .call { callee := .value (.func 26), args := #[.tmp 25, .tmp 28], argTypes := #[46, 46] }, type := 46, pos := "outright.go:58", after := #[{ on := 1, ground := .data }, { on := 4, ground := .data }, { on := 4, ground := .chain }], guard := none }) rfl (fun K hK => ?_) AllReadyH.nil
  go_simp
  refine (times _ _ _ _ _ _ _ (hg0.bel kb1) hg1 (by decide) (by decide)).mono ?_
  rintro e v3 ⟨g2, rfl, hg2, kb2⟩
  go_wp2_with fail
  refine hK.out _ _ (hS2.up kb2) (fun hS3 => ?_)
  clear hK K
  try simp only [Act.put, List.setIfInBounds_toArray, List.set_cons_zero, List.set_cons_succ]
  refine wpAnyH_ready (rs := [8]) (by kernel_rfl) (by simp) ?_
  refine AllReadyH.cons (o := { dst := some 32, op := .call { callee := .value (.func 27), args := #[.tmp 31], argTypes := #[22] }, type := 46, pos := "outright.go:58", after := #[{ on := 7, ground := .data }, { on := 5, ground := .chain }], guard := none }) rfl (fun K hK => ?_) AllReadyH.nil
  go_simp
  refine ((HG_s).out _).mono ?_
  rintro e v4 ⟨g3, rfl, hg3, kb3⟩
  go_wp2_with fail
  refine hK.out _ _ (hS3.up kb3) (fun hS4 => ?_)
  clear hK K
  try simp only [Act.put, List.setIfInBounds_toArray, List.set_cons_zero, List.set_cons_succ]
  refine wpAnyH_ready (rs := [9]) (by kernel_rfl) (by simp) ?_
  refine AllReadyH.cons (o := { dst := some 33, op := .call { callee := .value (.func 26), args := #[.tmp 29, .tmp 32], argTypes := #[46, 46] }, type := 46, pos := "outright.go:58", after := #[{ on := 5, ground := .data }, { on := 8, ground := .data }, { on := 8, ground := .chain }], guard := none }) rfl (fun K hK => ?_) AllReadyH.nil
  go_simp
  refine (times _ _ _ _ _ _ _ (hg2.bel kb3) hg3 (by decide) (by decide)).mono ?_
  rintro e v5 ⟨g4, rfl, hg4, kb4⟩
  go_wp2_with fail
  refine hK.out _ _ (hS4.up kb4) (fun hS5 => ?_)
  clear hK K
  try simp only [Act.put, List.setIfInBounds_toArray, List.set_cons_zero, List.set_cons_succ]
  refine wpAnyH_take (i := 10) (oi := { dst := some 12, op := .assign (.tmp 33), type := 46, pos := "outright.go:58", after := #[{ on := 9, ground := .data }, { on := 9, ground := .chain }, { on := 0, ground := .phase }, { on := 1, ground := .phase }, { on := 2, ground := .phase }, { on := 3, ground := .phase }, { on := 4, ground := .phase }, { on := 5, ground := .phase }, { on := 6, ground := .phase }, { on := 7, ground := .phase }, { on := 8, ground := .phase }, { on := 9, ground := .phase }], guard := none }) (v := g4) rfl (by kernel_rfl) (by kernel_rfl) (by kernel_rfl) (fun _ _ _ h => h) (Or.inl ⟨by rfl, by intro w hSw; clear hSw; go_simp⟩) hS5 ?_
  try simp only [Act.put, List.setIfInBounds_toArray, List.set_cons_zero, List.set_cons_succ]
  refine wpAnyH_done (by kernel_rfl) ?_ _
  have R2 := Lib.hid hg4
  have I2 := Lib.hid hS5
  clear hS0 hS1 hS2 hS3 hS4 hS5
  have KB2 := Lib.hid (DW1d.out.trans (kb0.trans (kb1.trans (kb2.trans (kb3.trans kb4)))))
  obtain ⟨W2, hW2⟩ : ∃ W, v5 = W := ⟨_, rfl⟩
  rw [hW2] at R2 I2 KB2 ⊢
  clear hW2 
  go_upto_region 3 with fail
  refine wp_region_held_drew (S := fun V => Two w V p q T S A B) (by kernel_rfl) (I2.out.up (Bel.refl _).drew) (fun hS0 => ?_)
  obtain ⟨W2d, hW2d⟩ : ∃ W2d, W2.drew = W2d := ⟨_, rfl⟩
  have DW2d := Lib.hid (show Bel W2 W2d by rw [← hW2d]; exact (Bel.refl _).drew)
  rw [hW2d] at hS0 ⊢
  clear hW2d
  refine wpAnyH_take (i := 0) (oi := { dst := some 34, op := .fieldAddr 24 (.tmp 6) 1, type := 0, pos := "outright.go:59", after := #[], guard := none }) (v := .pointer (some ⟨p, 1, none⟩)) rfl (by kernel_rfl) (by kernel_rfl) (by kernel_rfl) (fun _ _ _ h => h) (Or.inl ⟨by rfl, by intro w hSw; clear hSw; go_simp⟩) hS0 ?_
  try simp only [Act.put, List.setIfInBounds_toArray, List.set_cons_zero, List.set_cons_succ]
  refine wpAnyH_take (i := 1) (oi := { dst := some 35, op := .load 22 (.tmp 34), type := 22, pos := "outright.go:59", after := #[{ on := 0, ground := .data }], guard := none }) (v := .int .u64 S) rfl (by kernel_rfl) (by kernel_rfl) (by kernel_rfl) (fun _ _ _ h => h) (Or.inl ⟨by rfl, by intro w h; have hcell := (h.2.2.1); clear h; go_simp⟩) hS0 ?_
  try simp only [Act.put, List.setIfInBounds_toArray, List.set_cons_zero, List.set_cons_succ]
  refine wpAnyH_take (i := 3) (oi := { dst := some 37, op := .fieldAddr 24 (.tmp 8) 1, type := 0, pos := "outright.go:59", after := #[], guard := none }) (v := .pointer (some ⟨q, 1, none⟩)) rfl (by kernel_rfl) (by kernel_rfl) (by kernel_rfl) (fun _ _ _ h => h) (Or.inl ⟨by rfl, by intro w hSw; clear hSw; go_simp⟩) hS0 ?_
  try simp only [Act.put, List.setIfInBounds_toArray, List.set_cons_zero, List.set_cons_succ]
  refine wpAnyH_take (i := 4) (oi := { dst := some 38, op := .load 22 (.tmp 37), type := 22, pos := "outright.go:59", after := #[{ on := 3, ground := .data }], guard := none }) (v := .int .u64 B) rfl (by kernel_rfl) (by kernel_rfl) (by kernel_rfl) (fun _ _ _ h => h) (Or.inl ⟨by rfl, by intro w h; have hcell := (h.2.2.2.2); clear h; go_simp⟩) hS0 ?_
  try simp only [Act.put, List.setIfInBounds_toArray, List.set_cons_zero, List.set_cons_succ]
  refine wpAnyH_take (i := 7) (oi := { dst := some 41, op := .move (.tmp 4), type := 22, pos := "outright.go:59", after := #[], guard := none }) (v := .int .u64 m) rfl (by kernel_rfl) (by kernel_rfl) (by kernel_rfl) (fun _ _ _ h => h) (Or.inl ⟨by rfl, by intro w hSw; clear hSw; go_simp⟩) hS0 ?_
  try simp only [Act.put, List.setIfInBounds_toArray, List.set_cons_zero, List.set_cons_succ]
  refine wpAnyH_ready (rs := [2]) (by kernel_rfl) (by simp) ?_
  refine AllReadyH.cons (o := { dst := some 36, op := .call { callee := .value (.func 27), args := #[.tmp 35], argTypes := #[22] }, type := 46, pos := "outright.go:59", after := #[{ on := 1, ground := .data }], guard := none }) rfl (fun K hK => ?_) AllReadyH.nil
  go_simp
  refine ((HG_s).out _).mono ?_
  rintro e v1 ⟨g0, rfl, hg0, kb0⟩
  go_wp2_with fail
  refine hK.out _ _ (hS0.up kb0) (fun hS1 => ?_)
  clear hK K
  try simp only [Act.put, List.setIfInBounds_toArray, List.set_cons_zero, List.set_cons_succ]
  refine wpAnyH_ready (rs := [5]) (by kernel_rfl) (by simp) ?_
  refine AllReadyH.cons (o := { dst := some 39, op := .call { callee := .value (.func 27), args := #[.tmp 38], argTypes := #[22] }, type := 46, pos := "outright.go:59", after := #[{ on := 4, ground := .data }, { on := 2, ground := .chain }], guard := none }) rfl (fun K hK => ?_) AllReadyH.nil
  go_simp
  refine ((HG_b).out _).mono ?_
  rintro e v2 ⟨g1, rfl, hg1, kb1⟩
  go_wp2_with fail
  refine hK.out _ _ (hS1.up kb1) (fun hS2 => ?_)
  clear hK K
  try simp only [Act.put, List.setIfInBounds_toArray, List.set_cons_zero, List.set_cons_succ]
  refine wpAnyH_ready (rs := [6]) (by kernel_rfl) (by simp) ?_
  refine AllReadyH.cons (o := { dst := some 40, op := .call { callee := .value (.func 26), args := #[.tmp 36, .tmp 39], argTypes := #[46, 46] }, type := 46, pos := "outright.go:59", after := #[{ on := 2, ground := .data }, { on := 5, ground := .data }, { on := 5, ground := .chain }], guard := none }) rfl (fun K hK => ?_) AllReadyH.nil
  go_simp
  refine (times _ _ _ _ _ _ _ (hg0.bel kb1) hg1 (by decide) (by decide)).mono ?_
  rintro e v3 ⟨g2, rfl, hg2, kb2⟩
  go_wp2_with fail
  refine hK.out _ _ (hS2.up kb2) (fun hS3 => ?_)
  clear hK K
  try simp only [Act.put, List.setIfInBounds_toArray, List.set_cons_zero, List.set_cons_succ]
  refine wpAnyH_ready (rs := [8]) (by kernel_rfl) (by simp) ?_
  refine AllReadyH.cons (o := { dst := some 42, op := .call { callee := .value (.func 27), args := #[.tmp 41], argTypes := #[22] }, type := 46, pos := "outright.go:59", after := #[{ on := 7, ground := .data }, { on := 6, ground := .chain }], guard := none }) rfl (fun K hK => ?_) AllReadyH.nil
  go_simp
  refine ((HG_m).out _).mono ?_
  rintro e v4 ⟨g3, rfl, hg3, kb3⟩
  go_wp2_with fail
  refine hK.out _ _ (hS3.up kb3) (fun hS4 => ?_)
  clear hK K
  try simp only [Act.put, List.setIfInBounds_toArray, List.set_cons_zero, List.set_cons_succ]
  refine wpAnyH_ready (rs := [9]) (by kernel_rfl) (by simp) ?_
  refine AllReadyH.cons (o := { dst := some 43, op := .call { callee := .value (.func 26), args := #[.tmp 40, .tmp 42], argTypes := #[46, 46] }, type := 46, pos := "outright.go:59", after := #[{ on := 6, ground := .data }, { on := 8, ground := .data }, { on := 8, ground := .chain }], guard := none }) rfl (fun K hK => ?_) AllReadyH.nil
  go_simp
  refine (times _ _ _ _ _ _ _ (hg2.bel kb3) hg3 (by decide) (by decide)).mono ?_
  rintro e v5 ⟨g4, rfl, hg4, kb4⟩
  go_wp2_with fail
  refine hK.out _ _ (hS4.up kb4) (fun hS5 => ?_)
  clear hK K
  try simp only [Act.put, List.setIfInBounds_toArray, List.set_cons_zero, List.set_cons_succ]
  refine wpAnyH_take (i := 10) (oi := { dst := some 13, op := .assign (.tmp 43), type := 46, pos := "outright.go:59", after := #[{ on := 9, ground := .data }, { on := 9, ground := .chain }, { on := 0, ground := .phase }, { on := 1, ground := .phase }, { on := 2, ground := .phase }, { on := 3, ground := .phase }, { on := 4, ground := .phase }, { on := 5, ground := .phase }, { on := 6, ground := .phase }, { on := 7, ground := .phase }, { on := 8, ground := .phase }, { on := 9, ground := .phase }], guard := none }) (v := g4) rfl (by kernel_rfl) (by kernel_rfl) (by kernel_rfl) (fun _ _ _ h => h) (Or.inl ⟨by rfl, by intro w hSw; clear hSw; go_simp⟩) hS5 ?_
  try simp only [Act.put, List.setIfInBounds_toArray, List.set_cons_zero, List.set_cons_succ]
  refine wpAnyH_done (by kernel_rfl) ?_ _
  have R3 := Lib.hid hg4
  have I3 := Lib.hid hS5
  clear hS0 hS1 hS2 hS3 hS4 hS5
  have KB3 := Lib.hid (DW2d.out.trans (kb0.trans (kb1.trans (kb2.trans (kb3.trans kb4)))))
  obtain ⟨W3, hW3⟩ : ∃ W, v5 = W := ⟨_, rfl⟩
  rw [hW3] at R3 I3 KB3 ⊢
  clear hW3 
  go_upto_region 4 with fail
  go_wp2_with fail
  refine (sum _ _ _ _ _ _ _ (R2.out.bel KB3.out) R3.out (by decide) (by decide)).mono ?_
  rintro e w8 ⟨g, rfl, hg, kb8⟩
  have HG := Lib.hid hg
  have KB8 := Lib.hid kb8
  clear hg kb8
  go_wp2_with fail
  refine (less _ _ _ _ _ _ _ HG.out (R1.out.bel (KB2.out.trans (KB3.out.trans KB8.out))) (by decide) (by decide)).mono ?_
  rintro e w9 ⟨rfl, kb9⟩
  have K9 := Lib.hid ((I3.out.1.trans KB8.out).trans kb9)
  go_wp2_with fail
  go_ret
  exact ⟨rfl, K9.out⟩
set_option maxRecDepth 10000 in
set_option maxHeartbeats 2000000 in
theorem sharper (x T S A B : Int) (w : World) (x0 : 0 ≤ x) (x1 : x ≤ 18446744073709551615) (t0 : 0 ≤ T) (t1 : T ≤ 18446744073709551615) (s0 : 0 ≤ S) (s1 : S ≤ 18446744073709551615) (a0 : 0 ≤ A) (a1 : A ≤ 18446744073709551615) (b0 : 0 ≤ B) (b1 : B ≤ 18446744073709551615) :
    Calls Try.prog 22 #[.int .u64 x, pV T S, pV A B] w fun r w' => r = .returned (.bool (!decide (x * T * B < x * A * S + B * S))) ∧ Bel w w' := by
  have HG_x := Lib.hid (fun W => great x W x0 x1)
  have HG_t := Lib.hid (fun W => great T W t0 t1)
  have HG_s := Lib.hid (fun W => great S W s0 s1)
  have HG_a := Lib.hid (fun W => great A W a0 a1)
  have HG_b := Lib.hid (fun W => great B W b0 b1)
  have I0 := Two.start w T S A B
  go_enter Try.func22, Try.ntmps22
  go_upto_region 1 with fail
  obtain ⟨W, hW⟩ : ∃ W, (w.alloc (.cells #[.int .u64 T, .int .u64 S] 24)).alloc (.cells #[.int .u64 A, .int .u64 B] 24) = W := ⟨_, rfl⟩
  obtain ⟨p, hp⟩ : ∃ p, w.heap.size = p := ⟨_, rfl⟩
  obtain ⟨q, hq⟩ : ∃ q, p + 1 = q := ⟨_, rfl⟩
  rw [hW, hp, hq] at I0
  rw [hW, hp, hq]
  clear hW hp hq
  refine wp_region_held_drew (S := fun V => Two w V p q T S A B) (by kernel_rfl) (I0.up (Bel.refl _).drew) (fun hS0 => ?_)
  obtain ⟨Wd, hWd⟩ : ∃ Wd, W.drew = Wd := ⟨_, rfl⟩
  have DWd := Lib.hid (show Bel W Wd by rw [← hWd]; exact (Bel.refl _).drew)
  rw [hWd] at hS0 ⊢
  clear hWd
  refine wpAnyH_take (i := 0) (oi := { dst := some 10, op := .move (.tmp 0), type := 22, pos := "outright.go:95", after := #[], guard := none }) (v := .int .u64 x) rfl (by kernel_rfl) (by kernel_rfl) (by kernel_rfl) (fun _ _ _ h => h) (Or.inl ⟨by rfl, by intro w hSw; clear hSw; go_simp⟩) hS0 ?_
  try simp only [Act.put, List.setIfInBounds_toArray, List.set_cons_zero, List.set_cons_succ]
  refine wpAnyH_take (i := 2) (oi := { dst := some 12, op := .fieldAddr 24 (.tmp 4) 0, type := 0, pos := "outright.go:95", after := #[], guard := none }) (v := .pointer (some ⟨p, 0, none⟩)) rfl (by kernel_rfl) (by kernel_rfl) (by kernel_rfl) (fun _ _ _ h => h) (Or.inl ⟨by rfl, by intro w hSw; clear hSw; go_simp⟩) hS0 ?_
  try simp only [Act.put, List.setIfInBounds_toArray, List.set_cons_zero, List.set_cons_succ]
  refine wpAnyH_take (i := 3) (oi := { dst := some 13, op := .load 22 (.tmp 12), type := 22, pos := "outright.go:95", after := #[{ on := 2, ground := .data }], guard := none }) (v := .int .u64 T) rfl (by kernel_rfl) (by kernel_rfl) (by kernel_rfl) (fun _ _ _ h => h) (Or.inl ⟨by rfl, by intro w h; have hcell := (h.2.1); clear h; go_simp⟩) hS0 ?_
  try simp only [Act.put, List.setIfInBounds_toArray, List.set_cons_zero, List.set_cons_succ]
  refine wpAnyH_take (i := 6) (oi := { dst := some 16, op := .fieldAddr 24 (.tmp 5) 1, type := 0, pos := "outright.go:95", after := #[], guard := none }) (v := .pointer (some ⟨q, 1, none⟩)) rfl (by kernel_rfl) (by kernel_rfl) (by kernel_rfl) (fun _ _ _ h => h) (Or.inl ⟨by rfl, by intro w hSw; clear hSw; go_simp⟩) hS0 ?_
  try simp only [Act.put, List.setIfInBounds_toArray, List.set_cons_zero, List.set_cons_succ]
  refine wpAnyH_take (i := 7) (oi := { dst := some 17, op := .load 22 (.tmp 16), type := 22, pos := "outright.go:95", after := #[{ on := 6, ground := .data }], guard := none }) (v := .int .u64 B) rfl (by kernel_rfl) (by kernel_rfl) (by kernel_rfl) (fun _ _ _ h => h) (Or.inl ⟨by rfl, by intro w h; have hcell := (h.2.2.2.2); clear h; go_simp⟩) hS0 ?_
  try simp only [Act.put, List.setIfInBounds_toArray, List.set_cons_zero, List.set_cons_succ]
  refine wpAnyH_ready (rs := [1]) (by kernel_rfl) (by simp) ?_
  refine AllReadyH.cons (o := { dst := some 11, op := .call { callee := .value (.func 27), args := #[.tmp 10], argTypes := #[22] }, type := 46, pos := "outright.go:95", after := #[{ on := 0, ground := .data }], guard := none }) rfl (fun K hK => ?_) AllReadyH.nil
  go_simp
  refine ((HG_x).out _).mono ?_
  rintro e v1 ⟨g0, rfl, hg0, kb0⟩
  go_wp2_with fail
  refine hK.out _ _ (hS0.up kb0) (fun hS1 => ?_)
  clear hK K
  try simp only [Act.put, List.setIfInBounds_toArray, List.set_cons_zero, List.set_cons_succ]
  refine wpAnyH_ready (rs := [4]) (by kernel_rfl) (by simp) ?_
  refine AllReadyH.cons (o := { dst := some 14, op := .call { callee := .value (.func 27), args := #[.tmp 13], argTypes := #[22] }, type := 46, pos := "outright.go:95", after := #[{ on := 3, ground := .data }, { on := 1, ground := .chain }], guard := none }) rfl (fun K hK => ?_) AllReadyH.nil
  go_simp
  refine ((HG_t).out _).mono ?_
  rintro e v2 ⟨g1, rfl, hg1, kb1⟩
  go_wp2_with fail
  refine hK.out _ _ (hS1.up kb1) (fun hS2 => ?_)
  clear hK K
  try simp only [Act.put, List.setIfInBounds_toArray, List.set_cons_zero, List.set_cons_succ]
  refine wpAnyH_ready (rs := [5]) (by kernel_rfl) (by simp) ?_
  refine AllReadyH.cons (o := { dst := some 15, op := .call { callee := .value (.func 26), args := #[.tmp 11, .tmp 14], argTypes := #[46, 46] }, type := 46, pos := "outright.go:95", after := #[{ on := 1, ground := .data }, { on := 4, ground := .data }, { on := 4, ground := .chain }], guard := none }) rfl (fun K hK => ?_) AllReadyH.nil
  go_simp
  refine (times _ _ _ _ _ _ _ (hg0.bel kb1) hg1 (by decide) (by decide)).mono ?_
  rintro e v3 ⟨g2, rfl, hg2, kb2⟩
  go_wp2_with fail
  refine hK.out _ _ (hS2.up kb2) (fun hS3 => ?_)
  clear hK K
  try simp only [Act.put, List.setIfInBounds_toArray, List.set_cons_zero, List.set_cons_succ]
  refine wpAnyH_ready (rs := [8]) (by kernel_rfl) (by simp) ?_
  refine AllReadyH.cons (o := { dst := some 18, op := .call { callee := .value (.func 27), args := #[.tmp 17], argTypes := #[22] }, type := 46, pos := "outright.go:95", after := #[{ on := 7, ground := .data }, { on := 5, ground := .chain }], guard := none }) rfl (fun K hK => ?_) AllReadyH.nil
  go_simp
  refine ((HG_b).out _).mono ?_
  rintro e v4 ⟨g3, rfl, hg3, kb3⟩
  go_wp2_with fail
  refine hK.out _ _ (hS3.up kb3) (fun hS4 => ?_)
  clear hK K
  try simp only [Act.put, List.setIfInBounds_toArray, List.set_cons_zero, List.set_cons_succ]
  refine wpAnyH_ready (rs := [9]) (by kernel_rfl) (by simp) ?_
  refine AllReadyH.cons (o := { dst := some 19, op := .call { callee := .value (.func 26), args := #[.tmp 15, .tmp 18], argTypes := #[46, 46] }, type := 46, pos := "outright.go:95", after := #[{ on := 5, ground := .data }, { on := 8, ground := .data }, { on := 8, ground := .chain }], guard := none }) rfl (fun K hK => ?_) AllReadyH.nil
  go_simp
  refine (times _ _ _ _ _ _ _ (hg2.bel kb3) hg3 (by decide) (by decide)).mono ?_
  rintro e v5 ⟨g4, rfl, hg4, kb4⟩
  go_wp2_with fail
  refine hK.out _ _ (hS4.up kb4) (fun hS5 => ?_)
  clear hK K
  try simp only [Act.put, List.setIfInBounds_toArray, List.set_cons_zero, List.set_cons_succ]
  refine wpAnyH_take (i := 10) (oi := { dst := some 7, op := .assign (.tmp 19), type := 46, pos := "outright.go:95", after := #[{ on := 9, ground := .data }, { on := 9, ground := .chain }, { on := 0, ground := .phase }, { on := 1, ground := .phase }, { on := 2, ground := .phase }, { on := 3, ground := .phase }, { on := 4, ground := .phase }, { on := 5, ground := .phase }, { on := 6, ground := .phase }, { on := 7, ground := .phase }, { on := 8, ground := .phase }, { on := 9, ground := .phase }], guard := none }) (v := g4) rfl (by kernel_rfl) (by kernel_rfl) (by kernel_rfl) (fun _ _ _ h => h) (Or.inl ⟨by rfl, by intro w hSw; clear hSw; go_simp⟩) hS5 ?_
  try simp only [Act.put, List.setIfInBounds_toArray, List.set_cons_zero, List.set_cons_succ]
  refine wpAnyH_done (by kernel_rfl) ?_ _
  have R1 := Lib.hid hg4
  have I1 := Lib.hid hS5
  clear hS0 hS1 hS2 hS3 hS4 hS5
  have KB1 := Lib.hid (DWd.out.trans (kb0.trans (kb1.trans (kb2.trans (kb3.trans kb4)))))
  obtain ⟨W1, hW1⟩ : ∃ W, v5 = W := ⟨_, rfl⟩
  rw [hW1] at R1 I1 KB1 ⊢
  clear hW1 
  go_upto_region 2 with fail
  refine wp_region_held_drew (S := fun V => Two w V p q T S A B) (by kernel_rfl) (I1.out.up (Bel.refl _).drew) (fun hS0 => ?_)
  obtain ⟨W1d, hW1d⟩ : ∃ W1d, W1.drew = W1d := ⟨_, rfl⟩
  have DW1d := Lib.hid (show Bel W1 W1d by rw [← hW1d]; exact (Bel.refl _).drew)
  rw [hW1d] at hS0 ⊢
  clear hW1d
  refine wpAnyH_take (i := 0) (oi := { dst := some 20, op := .move (.tmp 0), type := 22, pos := "outright.go:96", after := #[], guard := none }) (v := .int .u64 x) rfl (by kernel_rfl) (by kernel_rfl) (by kernel_rfl) (fun _ _ _ h => h) (Or.inl ⟨by rfl, by intro w hSw; clear hSw; go_simp⟩) hS0 ?_
  try simp only [Act.put, List.setIfInBounds_toArray, List.set_cons_zero, List.set_cons_succ]
  refine wpAnyH_take (i := 2) (oi := { dst := some 22, op := .fieldAddr 24 (.tmp 5) 0, type := 0, pos := "outright.go:96", after := #[], guard := none }) (v := .pointer (some ⟨q, 0, none⟩)) rfl (by kernel_rfl) (by kernel_rfl) (by kernel_rfl) (fun _ _ _ h => h) (Or.inl ⟨by rfl, by intro w hSw; clear hSw; go_simp⟩) hS0 ?_
  try simp only [Act.put, List.setIfInBounds_toArray, List.set_cons_zero, List.set_cons_succ]
  refine wpAnyH_take (i := 3) (oi := { dst := some 23, op := .load 22 (.tmp 22), type := 22, pos := "outright.go:96", after := #[{ on := 2, ground := .data }], guard := none }) (v := .int .u64 A) rfl (by kernel_rfl) (by kernel_rfl) (by kernel_rfl) (fun _ _ _ h => h) (Or.inl ⟨by rfl, by intro w h; have hcell := (h.2.2.2.1); clear h; go_simp⟩) hS0 ?_
  try simp only [Act.put, List.setIfInBounds_toArray, List.set_cons_zero, List.set_cons_succ]
  refine wpAnyH_take (i := 6) (oi := { dst := some 26, op := .fieldAddr 24 (.tmp 4) 1, type := 0, pos := "outright.go:96", after := #[], guard := none }) (v := .pointer (some ⟨p, 1, none⟩)) rfl (by kernel_rfl) (by kernel_rfl) (by kernel_rfl) (fun _ _ _ h => h) (Or.inl ⟨by rfl, by intro w hSw; clear hSw; go_simp⟩) hS0 ?_
  try simp only [Act.put, List.setIfInBounds_toArray, List.set_cons_zero, List.set_cons_succ]
  refine wpAnyH_take (i := 7) (oi := { dst := some 27, op := .load 22 (.tmp 26), type := 22, pos := "outright.go:96", after := #[{ on := 6, ground := .data }], guard := none }) (v := .int .u64 S) rfl (by kernel_rfl) (by kernel_rfl) (by kernel_rfl) (fun _ _ _ h => h) (Or.inl ⟨by rfl, by intro w h; have hcell := (h.2.2.1); clear h; go_simp⟩) hS0 ?_
  try simp only [Act.put, List.setIfInBounds_toArray, List.set_cons_zero, List.set_cons_succ]
  refine wpAnyH_ready (rs := [1]) (by kernel_rfl) (by simp) ?_
  refine AllReadyH.cons (o := { dst := some 21, op := .call { callee := .value (.func 27), args := #[.tmp 20], argTypes := #[22] }, type := 46, pos := "outright.go:96", after := #[{ on := 0, ground := .data }], guard := none }) rfl (fun K hK => ?_) AllReadyH.nil
  go_simp
  refine ((HG_x).out _).mono ?_
  rintro e v1 ⟨g0, rfl, hg0, kb0⟩
  go_wp2_with fail
  refine hK.out _ _ (hS0.up kb0) (fun hS1 => ?_)
  clear hK K
  try simp only [Act.put, List.setIfInBounds_toArray, List.set_cons_zero, List.set_cons_succ]
  refine wpAnyH_ready (rs := [4]) (by kernel_rfl) (by simp) ?_
  refine AllReadyH.cons (o := { dst := some 24, op := .call { callee := .value (.func 27), args := #[.tmp 23], argTypes := #[22] }, type := 46, pos := "outright.go:96", after := #[{ on := 3, ground := .data }, { on := 1, ground := .chain }], guard := none }) rfl (fun K hK => ?_) AllReadyH.nil
  go_simp
  refine ((HG_a).out _).mono ?_
  rintro e v2 ⟨g1, rfl, hg1, kb1⟩
  go_wp2_with fail
  refine hK.out _ _ (hS1.up kb1) (fun hS2 => ?_)
  clear hK K
  try simp only [Act.put, List.setIfInBounds_toArray, List.set_cons_zero, List.set_cons_succ]
  refine wpAnyH_ready (rs := [5]) (by kernel_rfl) (by simp) ?_
  refine AllReadyH.cons (o := { dst := some 25, op := .call { callee := .value (.func 26), args := #[.tmp 21, .tmp 24], argTypes := #[46, 46] }, type := 46, pos := "outright.go:96", after := #[{ on := 1, ground := .data }, { on := 4, ground := .data }, { on := 4, ground := .chain }], guard := none }) rfl (fun K hK => ?_) AllReadyH.nil
  go_simp
  refine (times _ _ _ _ _ _ _ (hg0.bel kb1) hg1 (by decide) (by decide)).mono ?_
  rintro e v3 ⟨g2, rfl, hg2, kb2⟩
  go_wp2_with fail
  refine hK.out _ _ (hS2.up kb2) (fun hS3 => ?_)
  clear hK K
  try simp only [Act.put, List.setIfInBounds_toArray, List.set_cons_zero, List.set_cons_succ]
  refine wpAnyH_ready (rs := [8]) (by kernel_rfl) (by simp) ?_
  refine AllReadyH.cons (o := { dst := some 28, op := .call { callee := .value (.func 27), args := #[.tmp 27], argTypes := #[22] }, type := 46, pos := "outright.go:96", after := #[{ on := 7, ground := .data }, { on := 5, ground := .chain }], guard := none }) rfl (fun K hK => ?_) AllReadyH.nil
  go_simp
  refine ((HG_s).out _).mono ?_
  rintro e v4 ⟨g3, rfl, hg3, kb3⟩
  go_wp2_with fail
  refine hK.out _ _ (hS3.up kb3) (fun hS4 => ?_)
  clear hK K
  try simp only [Act.put, List.setIfInBounds_toArray, List.set_cons_zero, List.set_cons_succ]
  refine wpAnyH_ready (rs := [9]) (by kernel_rfl) (by simp) ?_
  refine AllReadyH.cons (o := { dst := some 29, op := .call { callee := .value (.func 26), args := #[.tmp 25, .tmp 28], argTypes := #[46, 46] }, type := 46, pos := "outright.go:96", after := #[{ on := 5, ground := .data }, { on := 8, ground := .data }, { on := 8, ground := .chain }], guard := none }) rfl (fun K hK => ?_) AllReadyH.nil
  go_simp
  refine (times _ _ _ _ _ _ _ (hg2.bel kb3) hg3 (by decide) (by decide)).mono ?_
  rintro e v5 ⟨g4, rfl, hg4, kb4⟩
  go_wp2_with fail
  refine hK.out _ _ (hS4.up kb4) (fun hS5 => ?_)
  clear hK K
  try simp only [Act.put, List.setIfInBounds_toArray, List.set_cons_zero, List.set_cons_succ]
  refine wpAnyH_take (i := 10) (oi := { dst := some 8, op := .assign (.tmp 29), type := 46, pos := "outright.go:96", after := #[{ on := 9, ground := .data }, { on := 9, ground := .chain }, { on := 0, ground := .phase }, { on := 1, ground := .phase }, { on := 2, ground := .phase }, { on := 3, ground := .phase }, { on := 4, ground := .phase }, { on := 5, ground := .phase }, { on := 6, ground := .phase }, { on := 7, ground := .phase }, { on := 8, ground := .phase }, { on := 9, ground := .phase }], guard := none }) (v := g4) rfl (by kernel_rfl) (by kernel_rfl) (by kernel_rfl) (fun _ _ _ h => h) (Or.inl ⟨by rfl, by intro w hSw; clear hSw; go_simp⟩) hS5 ?_
  try simp only [Act.put, List.setIfInBounds_toArray, List.set_cons_zero, List.set_cons_succ]
  refine wpAnyH_done (by kernel_rfl) ?_ _
  have R2 := Lib.hid hg4
  have I2 := Lib.hid hS5
  clear hS0 hS1 hS2 hS3 hS4 hS5
  have KB2 := Lib.hid (DW1d.out.trans (kb0.trans (kb1.trans (kb2.trans (kb3.trans kb4)))))
  obtain ⟨W2, hW2⟩ : ∃ W, v5 = W := ⟨_, rfl⟩
  rw [hW2] at R2 I2 KB2 ⊢
  clear hW2 
  go_upto_region 3 with fail
  refine wp_region_held_drew (S := fun V => Two w V p q T S A B) (by kernel_rfl) (I2.out.up (Bel.refl _).drew) (fun hS0 => ?_)
  obtain ⟨W2d, hW2d⟩ : ∃ W2d, W2.drew = W2d := ⟨_, rfl⟩
  have DW2d := Lib.hid (show Bel W2 W2d by rw [← hW2d]; exact (Bel.refl _).drew)
  rw [hW2d] at hS0 ⊢
  clear hW2d
  refine wpAnyH_take (i := 0) (oi := { dst := some 30, op := .fieldAddr 24 (.tmp 5) 1, type := 0, pos := "outright.go:97", after := #[], guard := none }) (v := .pointer (some ⟨q, 1, none⟩)) rfl (by kernel_rfl) (by kernel_rfl) (by kernel_rfl) (fun _ _ _ h => h) (Or.inl ⟨by rfl, by intro w hSw; clear hSw; go_simp⟩) hS0 ?_
  try simp only [Act.put, List.setIfInBounds_toArray, List.set_cons_zero, List.set_cons_succ]
  refine wpAnyH_take (i := 1) (oi := { dst := some 31, op := .load 22 (.tmp 30), type := 22, pos := "outright.go:97", after := #[{ on := 0, ground := .data }], guard := none }) (v := .int .u64 B) rfl (by kernel_rfl) (by kernel_rfl) (by kernel_rfl) (fun _ _ _ h => h) (Or.inl ⟨by rfl, by intro w h; have hcell := (h.2.2.2.2); clear h; go_simp⟩) hS0 ?_
  try simp only [Act.put, List.setIfInBounds_toArray, List.set_cons_zero, List.set_cons_succ]
  refine wpAnyH_take (i := 3) (oi := { dst := some 33, op := .fieldAddr 24 (.tmp 4) 1, type := 0, pos := "outright.go:97", after := #[], guard := none }) (v := .pointer (some ⟨p, 1, none⟩)) rfl (by kernel_rfl) (by kernel_rfl) (by kernel_rfl) (fun _ _ _ h => h) (Or.inl ⟨by rfl, by intro w hSw; clear hSw; go_simp⟩) hS0 ?_
  try simp only [Act.put, List.setIfInBounds_toArray, List.set_cons_zero, List.set_cons_succ]
  refine wpAnyH_take (i := 4) (oi := { dst := some 34, op := .load 22 (.tmp 33), type := 22, pos := "outright.go:97", after := #[{ on := 3, ground := .data }], guard := none }) (v := .int .u64 S) rfl (by kernel_rfl) (by kernel_rfl) (by kernel_rfl) (fun _ _ _ h => h) (Or.inl ⟨by rfl, by intro w h; have hcell := (h.2.2.1); clear h; go_simp⟩) hS0 ?_
  try simp only [Act.put, List.setIfInBounds_toArray, List.set_cons_zero, List.set_cons_succ]
  refine wpAnyH_ready (rs := [2]) (by kernel_rfl) (by simp) ?_
  refine AllReadyH.cons (o := { dst := some 32, op := .call { callee := .value (.func 27), args := #[.tmp 31], argTypes := #[22] }, type := 46, pos := "outright.go:97", after := #[{ on := 1, ground := .data }], guard := none }) rfl (fun K hK => ?_) AllReadyH.nil
  go_simp
  refine ((HG_b).out _).mono ?_
  rintro e v1 ⟨g0, rfl, hg0, kb0⟩
  go_wp2_with fail
  refine hK.out _ _ (hS0.up kb0) (fun hS1 => ?_)
  clear hK K
  try simp only [Act.put, List.setIfInBounds_toArray, List.set_cons_zero, List.set_cons_succ]
  refine wpAnyH_ready (rs := [5]) (by kernel_rfl) (by simp) ?_
  refine AllReadyH.cons (o := { dst := some 35, op := .call { callee := .value (.func 27), args := #[.tmp 34], argTypes := #[22] }, type := 46, pos := "outright.go:97", after := #[{ on := 4, ground := .data }, { on := 2, ground := .chain }], guard := none }) rfl (fun K hK => ?_) AllReadyH.nil
  go_simp
  refine ((HG_s).out _).mono ?_
  rintro e v2 ⟨g1, rfl, hg1, kb1⟩
  go_wp2_with fail
  refine hK.out _ _ (hS1.up kb1) (fun hS2 => ?_)
  clear hK K
  try simp only [Act.put, List.setIfInBounds_toArray, List.set_cons_zero, List.set_cons_succ]
  refine wpAnyH_ready (rs := [6]) (by kernel_rfl) (by simp) ?_
  refine AllReadyH.cons (o := { dst := some 36, op := .call { callee := .value (.func 26), args := #[.tmp 32, .tmp 35], argTypes := #[46, 46] }, type := 46, pos := "outright.go:97", after := #[{ on := 2, ground := .data }, { on := 5, ground := .data }, { on := 5, ground := .chain }], guard := none }) rfl (fun K hK => ?_) AllReadyH.nil
  go_simp
  refine (times _ _ _ _ _ _ _ (hg0.bel kb1) hg1 (by decide) (by decide)).mono ?_
  rintro e v3 ⟨g2, rfl, hg2, kb2⟩
  go_wp2_with fail
  refine hK.out _ _ (hS2.up kb2) (fun hS3 => ?_)
  clear hK K
  try simp only [Act.put, List.setIfInBounds_toArray, List.set_cons_zero, List.set_cons_succ]
  refine wpAnyH_take (i := 7) (oi := { dst := some 9, op := .assign (.tmp 36), type := 46, pos := "outright.go:97", after := #[{ on := 6, ground := .data }, { on := 6, ground := .chain }, { on := 0, ground := .phase }, { on := 1, ground := .phase }, { on := 2, ground := .phase }, { on := 3, ground := .phase }, { on := 4, ground := .phase }, { on := 5, ground := .phase }, { on := 6, ground := .phase }], guard := none }) (v := g2) rfl (by kernel_rfl) (by kernel_rfl) (by kernel_rfl) (fun _ _ _ h => h) (Or.inl ⟨by rfl, by intro w hSw; clear hSw; go_simp⟩) hS3 ?_
  try simp only [Act.put, List.setIfInBounds_toArray, List.set_cons_zero, List.set_cons_succ]
  refine wpAnyH_done (by kernel_rfl) ?_ _
  have R3 := Lib.hid hg2
  have I3 := Lib.hid hS3
  clear hS0 hS1 hS2 hS3
  have KB3 := Lib.hid (DW2d.out.trans (kb0.trans (kb1.trans kb2)))
  obtain ⟨W3, hW3⟩ : ∃ W, v3 = W := ⟨_, rfl⟩
  rw [hW3] at R3 I3 KB3 ⊢
  clear hW3 
  go_upto_region 4 with fail
  go_wp2_with fail
  refine (sum _ _ _ _ _ _ _ (R2.out.bel KB3.out) R3.out (by decide) (by decide)).mono ?_
  rintro e w8 ⟨g, rfl, hg, kb8⟩
  have HG := Lib.hid hg
  have KB8 := Lib.hid kb8
  clear hg kb8
  go_wp2_with fail
  refine (less _ _ _ _ _ _ _ (R1.out.bel (KB2.out.trans (KB3.out.trans KB8.out))) HG.out (by decide) (by decide)).mono ?_
  rintro e w9 ⟨rfl, kb9⟩
  have K9 := Lib.hid ((I3.out.1.trans KB8.out).trans kb9)
  go_wp2_with fail
  go_ret
  exact ⟨rfl, K9.out⟩
theorem Two.one (w : World) (T S : Int) : Two w (w.alloc (.cells #[.int .u64 T, .int .u64 S] 24)) w.heap.size w.heap.size T S T S :=
  ⟨(Bel.refl _).alloc _, by simp, by simp, by simp, by simp⟩
set_option maxRecDepth 10000 in
set_option maxHeartbeats 2000000 in
theorem whole (x T S a : Int) (w : World) (x0 : 0 ≤ x) (x1 : x ≤ 18446744073709551615) (t0 : 0 ≤ T) (t1 : T ≤ 18446744073709551615) (s0 : 0 ≤ S) (s1 : S ≤ 18446744073709551615) (a0 : 1 ≤ a) (a1 : a ≤ 18446744073709551615) :
    Calls Try.prog 23 #[.int .u64 x, pV T S, .int .u64 a] w fun r w' => r = .returned (.bool (!decide ((a - 1) * S < x * T))) ∧ Bel w w' := by
  have HG_x := Lib.hid (fun W => great x W x0 x1)
  have HG_t := Lib.hid (fun W => great T W t0 t1)
  have HG_s := Lib.hid (fun W => great S W s0 s1)
  have HG_a := Lib.hid (fun W => great (a - 1) W (by omega) (by omega))
  have e1 : IntKind.u64.wrap (a - 1) = a - 1 := by rw [IntKind.wrap_u64]; omega
  obtain ⟨A, hA⟩ : ∃ A, A = T := ⟨_, rfl⟩
  obtain ⟨B, hB⟩ : ∃ B, B = S := ⟨_, rfl⟩
  have I0 : Two w (w.alloc (.cells #[.int .u64 T, .int .u64 S] 24)) w.heap.size w.heap.size T S A B := by rw [hA, hB]; exact Two.one w T S
  clear hA hB
  go_enter Try.func23, Try.ntmps23
  go_upto_region 1 with fail
  obtain ⟨W, hW⟩ : ∃ W, w.alloc (.cells #[.int .u64 T, .int .u64 S] 24) = W := ⟨_, rfl⟩
  obtain ⟨p, hp⟩ : ∃ p, w.heap.size = p := ⟨_, rfl⟩
  obtain ⟨q, hq⟩ : ∃ q, p = q := ⟨_, rfl⟩
  rw [hW, hp] at I0
  have I0 : Two w W p q T S A B := by rw [← hq]; exact I0
  rw [hW, hp]
  clear hW hp hq
  refine wp_region_held_drew (S := fun V => Two w V p q T S A B) (by kernel_rfl) (I0.up (Bel.refl _).drew) (fun hS0 => ?_)
  obtain ⟨Wd, hWd⟩ : ∃ Wd, W.drew = Wd := ⟨_, rfl⟩
  have DWd := Lib.hid (show Bel W Wd by rw [← hWd]; exact (Bel.refl _).drew)
  rw [hWd] at hS0 ⊢
  clear hWd
  refine wpAnyH_take (i := 0) (oi := { dst := some 9, op := .move (.tmp 0), type := 22, pos := "outright.go:103", after := #[], guard := none }) (v := .int .u64 x) rfl (by kernel_rfl) (by kernel_rfl) (by kernel_rfl) (fun _ _ _ h => h) (Or.inl ⟨by rfl, by intro w hSw; clear hSw; go_simp⟩) hS0 ?_
  try simp only [Act.put, List.setIfInBounds_toArray, List.set_cons_zero, List.set_cons_succ]
  refine wpAnyH_take (i := 2) (oi := { dst := some 11, op := .fieldAddr 24 (.tmp 4) 0, type := 0, pos := "outright.go:103", after := #[], guard := none }) (v := .pointer (some ⟨p, 0, none⟩)) rfl (by kernel_rfl) (by kernel_rfl) (by kernel_rfl) (fun _ _ _ h => h) (Or.inl ⟨by rfl, by intro w hSw; clear hSw; go_simp⟩) hS0 ?_
  try simp only [Act.put, List.setIfInBounds_toArray, List.set_cons_zero, List.set_cons_succ]
  refine wpAnyH_take (i := 3) (oi := { dst := some 12, op := .load 22 (.tmp 11), type := 22, pos := "outright.go:103", after := #[{ on := 2, ground := .data }], guard := none }) (v := .int .u64 T) rfl (by kernel_rfl) (by kernel_rfl) (by kernel_rfl) (fun _ _ _ h => h) (Or.inl ⟨by rfl, by intro w h; have hcell := (h.2.1); clear h; go_simp⟩) hS0 ?_
  try simp only [Act.put, List.setIfInBounds_toArray, List.set_cons_zero, List.set_cons_succ]
  refine wpAnyH_ready (rs := [1]) (by kernel_rfl) (by simp) ?_
  refine AllReadyH.cons (o := { dst := some 10, op := .call { callee := .value (.func 27), args := #[.tmp 9], argTypes := #[22] }, type := 46, pos := "outright.go:103", after := #[{ on := 0, ground := .data }], guard := none }) rfl (fun K hK => ?_) AllReadyH.nil
  go_simp
  refine ((HG_x).out _).mono ?_
  rintro e v1 ⟨g0, rfl, hg0, kb0⟩
  go_wp2_with fail
  refine hK.out _ _ (hS0.up kb0) (fun hS1 => ?_)
  clear hK K
  try simp only [Act.put, List.setIfInBounds_toArray, List.set_cons_zero, List.set_cons_succ]
  refine wpAnyH_ready (rs := [4]) (by kernel_rfl) (by simp) ?_
  refine AllReadyH.cons (o := { dst := some 13, op := .call { callee := .value (.func 27), args := #[.tmp 12], argTypes := #[22] }, type := 46, pos := "outright.go:103", after := #[{ on := 3, ground := .data }, { on := 1, ground := .chain }], guard := none }) rfl (fun K hK => ?_) AllReadyH.nil
  go_simp
  refine ((HG_t).out _).mono ?_
  rintro e v2 ⟨g1, rfl, hg1, kb1⟩
  go_wp2_with fail
  refine hK.out _ _ (hS1.up kb1) (fun hS2 => ?_)
  clear hK K
  try simp only [Act.put, List.setIfInBounds_toArray, List.set_cons_zero, List.set_cons_succ]
  refine wpAnyH_ready (rs := [5]) (by kernel_rfl) (by simp) ?_
  refine AllReadyH.cons (o := { dst := some 14, op := .call { callee := .value (.func 26), args := #[.tmp 10, .tmp 13], argTypes := #[46, 46] }, type := 46, pos := "outright.go:103", after := #[{ on := 1, ground := .data }, { on := 4, ground := .data }, { on := 4, ground := .chain }], guard := none }) rfl (fun K hK => ?_) AllReadyH.nil
  go_simp
  refine (times _ _ _ _ _ _ _ (hg0.bel kb1) hg1 (by decide) (by decide)).mono ?_
  rintro e v3 ⟨g2, rfl, hg2, kb2⟩
  go_wp2_with fail
  refine hK.out _ _ (hS2.up kb2) (fun hS3 => ?_)
  clear hK K
  try simp only [Act.put, List.setIfInBounds_toArray, List.set_cons_zero, List.set_cons_succ]
  refine wpAnyH_take (i := 6) (oi := { dst := some 7, op := .assign (.tmp 14), type := 46, pos := "outright.go:103", after := #[{ on := 5, ground := .data }, { on := 5, ground := .chain }, { on := 0, ground := .phase }, { on := 1, ground := .phase }, { on := 2, ground := .phase }, { on := 3, ground := .phase }, { on := 4, ground := .phase }, { on := 5, ground := .phase }], guard := none }) (v := g2) rfl (by kernel_rfl) (by kernel_rfl) (by kernel_rfl) (fun _ _ _ h => h) (Or.inl ⟨by rfl, by intro w hSw; clear hSw; go_simp⟩) hS3 ?_
  try simp only [Act.put, List.setIfInBounds_toArray, List.set_cons_zero, List.set_cons_succ]
  refine wpAnyH_done (by kernel_rfl) ?_ _
  have R1 := Lib.hid hg2
  have I1 := Lib.hid hS3
  clear hS0 hS1 hS2 hS3
  have KB1 := Lib.hid (DWd.out.trans (kb0.trans (kb1.trans kb2)))
  obtain ⟨W1, hW1⟩ : ∃ W, v3 = W := ⟨_, rfl⟩
  rw [hW1] at R1 I1 KB1 ⊢
  clear hW1
  go_upto_region 2 with fail
  refine wp_region_held_drew (S := fun V => Two w V p q T S A B) (by kernel_rfl) (I1.out.up (Bel.refl _).drew) (fun hS0 => ?_)
  obtain ⟨W1d, hW1d⟩ : ∃ W1d, W1.drew = W1d := ⟨_, rfl⟩
  have DW1d := Lib.hid (show Bel W1 W1d by rw [← hW1d]; exact (Bel.refl _).drew)
  rw [hW1d] at hS0 ⊢
  clear hW1d
  refine wpAnyH_take (i := 0) (oi := { dst := some 15, op := .move (.tmp 2), type := 22, pos := "outright.go:104", after := #[], guard := none }) (v := .int .u64 a) rfl (by kernel_rfl) (by kernel_rfl) (by kernel_rfl) (fun _ _ _ h => h) (Or.inl ⟨by rfl, by intro w hSw; clear hSw; go_simp⟩) hS0 ?_
  try simp only [Act.put, List.setIfInBounds_toArray, List.set_cons_zero, List.set_cons_succ]
  refine wpAnyH_take (i := 1) (oi := { dst := some 16, op := .binOp .sub 22 (.tmp 15) (.const (Value.int IntKind.u64 1)) 22, type := 22, pos := "outright.go:104", after := #[{ on := 0, ground := .data }], guard := none }) (v := .int .u64 (a - 1)) rfl (by kernel_rfl) (by kernel_rfl) (by kernel_rfl) (fun _ _ _ h => h) (Or.inl ⟨by rfl, by intro w hSw; clear hSw; go_simp⟩) hS0 ?_
  try simp only [Act.put, List.setIfInBounds_toArray, List.set_cons_zero, List.set_cons_succ]
  refine wpAnyH_take (i := 3) (oi := { dst := some 18, op := .fieldAddr 24 (.tmp 4) 1, type := 0, pos := "outright.go:104", after := #[], guard := none }) (v := .pointer (some ⟨p, 1, none⟩)) rfl (by kernel_rfl) (by kernel_rfl) (by kernel_rfl) (fun _ _ _ h => h) (Or.inl ⟨by rfl, by intro w hSw; clear hSw; go_simp⟩) hS0 ?_
  try simp only [Act.put, List.setIfInBounds_toArray, List.set_cons_zero, List.set_cons_succ]
  refine wpAnyH_take (i := 4) (oi := { dst := some 19, op := .load 22 (.tmp 18), type := 22, pos := "outright.go:104", after := #[{ on := 3, ground := .data }], guard := none }) (v := .int .u64 S) rfl (by kernel_rfl) (by kernel_rfl) (by kernel_rfl) (fun _ _ _ h => h) (Or.inl ⟨by rfl, by intro w h; have hcell := (h.2.2.1); clear h; go_simp⟩) hS0 ?_
  try simp only [Act.put, List.setIfInBounds_toArray, List.set_cons_zero, List.set_cons_succ]
  refine wpAnyH_ready (rs := [2]) (by kernel_rfl) (by simp) ?_
  refine AllReadyH.cons (o := { dst := some 17, op := .call { callee := .value (.func 27), args := #[.tmp 16], argTypes := #[22] }, type := 46, pos := "outright.go:104", after := #[{ on := 1, ground := .data }], guard := none }) rfl (fun K hK => ?_) AllReadyH.nil
  go_simp
  refine ((HG_a).out _).mono ?_
  rintro e v1 ⟨g0, rfl, hg0, kb0⟩
  go_wp2_with fail
  refine hK.out _ _ (hS0.up kb0) (fun hS1 => ?_)
  clear hK K
  try simp only [Act.put, List.setIfInBounds_toArray, List.set_cons_zero, List.set_cons_succ]
  refine wpAnyH_ready (rs := [5]) (by kernel_rfl) (by simp) ?_
  refine AllReadyH.cons (o := { dst := some 20, op := .call { callee := .value (.func 27), args := #[.tmp 19], argTypes := #[22] }, type := 46, pos := "outright.go:104", after := #[{ on := 4, ground := .data }, { on := 2, ground := .chain }], guard := none }) rfl (fun K hK => ?_) AllReadyH.nil
  go_simp
  refine ((HG_s).out _).mono ?_
  rintro e v2 ⟨g1, rfl, hg1, kb1⟩
  go_wp2_with fail
  refine hK.out _ _ (hS1.up kb1) (fun hS2 => ?_)
  clear hK K
  try simp only [Act.put, List.setIfInBounds_toArray, List.set_cons_zero, List.set_cons_succ]
  refine wpAnyH_ready (rs := [6]) (by kernel_rfl) (by simp) ?_
  refine AllReadyH.cons (o := { dst := some 21, op := .call { callee := .value (.func 26), args := #[.tmp 17, .tmp 20], argTypes := #[46, 46] }, type := 46, pos := "outright.go:104", after := #[{ on := 2, ground := .data }, { on := 5, ground := .data }, { on := 5, ground := .chain }], guard := none }) rfl (fun K hK => ?_) AllReadyH.nil
  go_simp
  refine (times _ _ _ _ _ _ _ (hg0.bel kb1) hg1 (by decide) (by decide)).mono ?_
  rintro e v3 ⟨g2, rfl, hg2, kb2⟩
  go_wp2_with fail
  refine hK.out _ _ (hS2.up kb2) (fun hS3 => ?_)
  clear hK K
  try simp only [Act.put, List.setIfInBounds_toArray, List.set_cons_zero, List.set_cons_succ]
  refine wpAnyH_take (i := 7) (oi := { dst := some 8, op := .assign (.tmp 21), type := 46, pos := "outright.go:104", after := #[{ on := 6, ground := .data }, { on := 6, ground := .chain }, { on := 0, ground := .phase }, { on := 1, ground := .phase }, { on := 2, ground := .phase }, { on := 3, ground := .phase }, { on := 4, ground := .phase }, { on := 5, ground := .phase }, { on := 6, ground := .phase }], guard := none }) (v := g2) rfl (by kernel_rfl) (by kernel_rfl) (by kernel_rfl) (fun _ _ _ h => h) (Or.inl ⟨by rfl, by intro w hSw; clear hSw; go_simp⟩) hS3 ?_
  try simp only [Act.put, List.setIfInBounds_toArray, List.set_cons_zero, List.set_cons_succ]
  refine wpAnyH_done (by kernel_rfl) ?_ _
  have R2 := Lib.hid hg2
  have I2 := Lib.hid hS3
  clear hS0 hS1 hS2 hS3
  have KB2 := Lib.hid (DW1d.out.trans (kb0.trans (kb1.trans kb2)))
  obtain ⟨W2, hW2⟩ : ∃ W, v3 = W := ⟨_, rfl⟩
  rw [hW2] at R2 I2 KB2 ⊢
  clear hW2
  go_upto_region 3 with fail
  go_wp2_with fail
  refine (less _ _ _ _ _ _ _ R2.out (R1.out.bel KB2.out) (by decide) (by decide)).mono ?_
  rintro e w9 ⟨rfl, kb9⟩
  have K9 := Lib.hid (I2.out.1.trans kb9)
  go_wp2_with fail
  go_ret
  exact ⟨rfl, K9.out⟩

end Sh
end Go.Proofs.Ytmfajljgcndgfaa
