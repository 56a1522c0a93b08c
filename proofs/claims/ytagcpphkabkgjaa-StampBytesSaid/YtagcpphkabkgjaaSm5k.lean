/-
  StampKnown: the chapter's examples are answered as it says. No condition.
-/
import Derived.Test.YtagcpphkabkgjaaSm5
namespace Go.Proofs.Ytagcpphkabkgjaa
open Go.RowKit Go.Shelf
set_option linter.unusedVariables false
namespace Sm
open Cd

theorem k1 : ck 2 9 (-1) 0 = 0 ∧ ck 32 9 (-1) 0 = 3 ∧ ck 2 0 (-1) 0 = 3 := by decide +kernel
theorem k2 : bkB 2 9 1 5 1 4 0 = false ∧ bkB 2 9 1 5 2 20 0 = true ∧ bkB 2 9 1 5 2 20 20 = true ∧ bkB 2 9 1 5 2 21 20 = false ∧ bkB 2 9 1 5 1 7 20 = true ∧ bkB 2 9 1 5 0 9 0 = false := by decide +kernel
theorem k3 : ck 2 9 2 5 = 2 ∧ ck 2 9 (-1) 5 = 11 ∧ ck 2 9 1 0 = 11 ∧ ck 2 9 1 10 = 9 ∧ ck 2 0 (-1) 0 = 3 := by decide +kernel
theorem k4 : cmp 2 9 1 5 2 10 (-1) 0 = -1 ∧ cmp 2 9 1 5 2 9 1 5 = 0 ∧ cmp 1 99 (-1) 0 2 1 (-1) 0 = -1 := by decide +kernel
theorem k5 : ck 2 9 1 5 = 0 ∧ bytesN 2 9 1 5 = [2, 9, 2, 5] ∧ bytesN 2 9 (-1) 0 = [2, 9, 0, 0] := by decide +kernel
theorem n1 (w : World) : Calls Try.prog 34 #[.int .i64 2, .int .i64 9] w fun r w' => r = .returned (.tuple #[stV 2 9 (-1) 0, .int .i64 0]) ∧ Bel w w' := newC 2 9 w
theorem n2 (w : World) : Calls Try.prog 34 #[.int .i64 32, .int .i64 9] w fun r w' => r = .returned (.tuple #[stV 0 0 0 0, .int .i64 3]) ∧ Bel w w' := newC 32 9 w
theorem n3 (w : World) : Calls Try.prog 34 #[.int .i64 2, .int .i64 0] w fun r w' => r = .returned (.tuple #[stV 0 0 0 0, .int .i64 3]) ∧ Bel w w' := newC 2 0 w
set_option maxRecDepth 20000 in
set_option maxHeartbeats 8000000 in
theorem knownS (w : World) : Calls Try.prog 5 #[] w fun r w' => r = .returned (.bool true) ∧ Bel w w' := by
  obtain ⟨b1, b2, b3, b4, b5, b6⟩ := k2
  obtain ⟨e1, e2, e3, e4, e5⟩ := k3
  obtain ⟨m1, m2, m3⟩ := k4
  go_enter Try.func5, Try.ntmps5
  go_upto_region 1 with fail
  go_wp2_with fail
  refine (chapter _).mono ?_
  rintro e w1 ⟨rfl, kb⟩
  go_upto_region 2 with fail
  have P0 := Blk.new w1 #[.int .i64 2, .int .i64 9, .int .i64 1, .int .i64 5] 23
  have B0 := (Bel.refl w1).alloc (.cells #[.int .i64 2, .int .i64 9, .int .i64 1, .int .i64 5] 23)
  obtain ⟨p, hp⟩ : ∃ p, (w1).heap.size = p := ⟨_, rfl⟩
  obtain ⟨Wp, hW⟩ : ∃ W, (w1).alloc (.cells #[.int .i64 2, .int .i64 9, .int .i64 1, .int .i64 5] 23) = W := ⟨_, rfl⟩
  rw [hW, hp] at P0
  rw [hW] at B0
  rw [hW, hp]
  clear hW hp
  have hA : (Bel w Wp ∧ Wp.cell? ⟨p, 0, none⟩ = some (.int .i64 2) ∧ Wp.cell? ⟨p, 1, none⟩ = some (.int .i64 9) ∧ Wp.cell? ⟨p, 2, none⟩ = some (.int .i64 1) ∧ Wp.cell? ⟨p, 3, none⟩ = some (.int .i64 5)) := ⟨kb.trans B0, P0.cell 0 rfl, P0.cell 1 rfl, P0.cell 2 rfl, P0.cell 3 rfl⟩
  clear P0 B0 kb
  have KEEP := Lib.hid (show ∀ V V' : World, (Bel w V ∧ V.cell? ⟨p, 0, none⟩ = some (.int .i64 2) ∧ V.cell? ⟨p, 1, none⟩ = some (.int .i64 9) ∧ V.cell? ⟨p, 2, none⟩ = some (.int .i64 1) ∧ V.cell? ⟨p, 3, none⟩ = some (.int .i64 5)) → Bel V V' → (Bel w V' ∧ V'.cell? ⟨p, 0, none⟩ = some (.int .i64 2) ∧ V'.cell? ⟨p, 1, none⟩ = some (.int .i64 9) ∧ V'.cell? ⟨p, 2, none⟩ = some (.int .i64 1) ∧ V'.cell? ⟨p, 3, none⟩ = some (.int .i64 5)) from
    fun V V' h hb => ⟨h.1.trans hb, Pm.cell_bel h.2.1 hb, Pm.cell_bel h.2.2.1 hb, Pm.cell_bel h.2.2.2.1 hb, Pm.cell_bel h.2.2.2.2 hb⟩)
  go_wp2_with fail
  refine (n1 _).mono ?_
  rintro e wq ⟨rfl, kb⟩
  have hA := KEEP.out _ _ hA kb
  clear kb
  go_upto_region 3 with fail
  have P0 := Blk.new wq #[.int .i64 2, .int .i64 9, .int .i64 (-1), .int .i64 0] 23
  have B0 := (Bel.refl wq).alloc (.cells #[.int .i64 2, .int .i64 9, .int .i64 (-1), .int .i64 0] 23)
  obtain ⟨q, hp⟩ : ∃ p, (wq).heap.size = p := ⟨_, rfl⟩
  obtain ⟨Wq, hW⟩ : ∃ W, (wq).alloc (.cells #[.int .i64 2, .int .i64 9, .int .i64 (-1), .int .i64 0] 23) = W := ⟨_, rfl⟩
  rw [hW, hp] at P0
  rw [hW] at B0
  rw [hW, hp]
  clear hW hp
  have hA := (KEEP.out _ _ hA B0)
  clear KEEP
  have hA : (Bel w Wq ∧ Wq.cell? ⟨p, 0, none⟩ = some (.int .i64 2) ∧ Wq.cell? ⟨p, 1, none⟩ = some (.int .i64 9) ∧ Wq.cell? ⟨p, 2, none⟩ = some (.int .i64 1) ∧ Wq.cell? ⟨p, 3, none⟩ = some (.int .i64 5) ∧ Wq.cell? ⟨q, 0, none⟩ = some (.int .i64 2) ∧ Wq.cell? ⟨q, 1, none⟩ = some (.int .i64 9) ∧ Wq.cell? ⟨q, 2, none⟩ = some (.int .i64 (-1)) ∧ Wq.cell? ⟨q, 3, none⟩ = some (.int .i64 0)) := ⟨hA.1, hA.2.1, hA.2.2.1, hA.2.2.2.1, hA.2.2.2.2, P0.cell 0 rfl, P0.cell 1 rfl, P0.cell 2 rfl, P0.cell 3 rfl⟩
  clear P0 B0
  have KEEP := Lib.hid (show ∀ V V' : World, (Bel w V ∧ V.cell? ⟨p, 0, none⟩ = some (.int .i64 2) ∧ V.cell? ⟨p, 1, none⟩ = some (.int .i64 9) ∧ V.cell? ⟨p, 2, none⟩ = some (.int .i64 1) ∧ V.cell? ⟨p, 3, none⟩ = some (.int .i64 5) ∧ V.cell? ⟨q, 0, none⟩ = some (.int .i64 2) ∧ V.cell? ⟨q, 1, none⟩ = some (.int .i64 9) ∧ V.cell? ⟨q, 2, none⟩ = some (.int .i64 (-1)) ∧ V.cell? ⟨q, 3, none⟩ = some (.int .i64 0)) → Bel V V' → (Bel w V' ∧ V'.cell? ⟨p, 0, none⟩ = some (.int .i64 2) ∧ V'.cell? ⟨p, 1, none⟩ = some (.int .i64 9) ∧ V'.cell? ⟨p, 2, none⟩ = some (.int .i64 1) ∧ V'.cell? ⟨p, 3, none⟩ = some (.int .i64 5) ∧ V'.cell? ⟨q, 0, none⟩ = some (.int .i64 2) ∧ V'.cell? ⟨q, 1, none⟩ = some (.int .i64 9) ∧ V'.cell? ⟨q, 2, none⟩ = some (.int .i64 (-1)) ∧ V'.cell? ⟨q, 3, none⟩ = some (.int .i64 0)) from
    fun V V' h hb => ⟨h.1.trans hb, Pm.cell_bel h.2.1 hb, Pm.cell_bel h.2.2.1 hb, Pm.cell_bel h.2.2.2.1 hb, Pm.cell_bel h.2.2.2.2.1 hb, Pm.cell_bel h.2.2.2.2.2.1 hb, Pm.cell_bel h.2.2.2.2.2.2.1 hb, Pm.cell_bel h.2.2.2.2.2.2.2.1 hb, Pm.cell_bel h.2.2.2.2.2.2.2.2 hb⟩)
  go_wp2_with fail
  refine (n2 _).mono ?_
  rintro e w3 ⟨rfl, kb⟩
  have hA := KEEP.out _ _ (KEEP.out _ _ hA kb) ((Bel.refl w3).alloc (.cells #[.int .i64 0, .int .i64 0, .int .i64 0, .int .i64 0] 23))
  clear kb
  go_wp2_with fail
  obtain ⟨W3, hW⟩ : ∃ W, w3.alloc (.cells #[.int .i64 0, .int .i64 0, .int .i64 0, .int .i64 0] 23) = W := ⟨_, rfl⟩
  rw [hW] at hA ⊢
  clear hW
  refine (n3 _).mono ?_
  rintro e w4 ⟨rfl, kb⟩
  have hA := KEEP.out _ _ (KEEP.out _ _ hA kb) ((Bel.refl w4).alloc (.cells #[.int .i64 0, .int .i64 0, .int .i64 0, .int .i64 0] 23))
  clear kb
  go_upto_region 5 with fail
  obtain ⟨W4, hW⟩ : ∃ W, w4.alloc (.cells #[.int .i64 0, .int .i64 0, .int .i64 0, .int .i64 0] 23) = W := ⟨_, rfl⟩
  rw [hW] at hA ⊢
  clear hW
  have hA := KEEP.out _ _ hA (Bel.refl _).drew
  go_region_held3 (fun V => Bel w V ∧ V.cell? ⟨p, 0, none⟩ = some (.int .i64 2) ∧ V.cell? ⟨p, 1, none⟩ = some (.int .i64 9) ∧ V.cell? ⟨p, 2, none⟩ = some (.int .i64 1) ∧ V.cell? ⟨p, 3, none⟩ = some (.int .i64 5) ∧ V.cell? ⟨q, 0, none⟩ = some (.int .i64 2) ∧ V.cell? ⟨q, 1, none⟩ = some (.int .i64 9) ∧ V.cell? ⟨q, 2, none⟩ = some (.int .i64 (-1)) ∧ V.cell? ⟨q, 3, none⟩ = some (.int .i64 0)) (first | assumption | exact KEEP.out _ _ (by assumption) (by assumption)) (first | (go_at_call 35; refine (bare _ _ _).mono ?_; rintro e w9 ⟨rfl, kb⟩) | (go_at_call 36; refine (hops _ _ _ _ _ _ _ _ _ _ _ _ (by decide +kernel) (by decide +kernel) (by decide +kernel) (by decide +kernel) (by decide +kernel)).mono ?_; rintro e w9 ⟨rfl, kb⟩) | (go_at_call 37; refine (backedC _ _ _ _ _ _ _ _).mono ?_; rintro e w9 ⟨rfl, kb⟩) | (go_at_call 40; refine (compareC _ _ _ _ _ _ _ _ _).mono ?_; rintro e w9 ⟨rfl, kb⟩) | (go_at_call 38; refine (checkC _ _ _ _ _).mono ?_; rintro e w9 ⟨rfl, kb⟩))
  rename_i hA
  have cp0 := hA.2.1
  have cp1 := hA.2.2.1
  have cp2 := hA.2.2.2.1
  have cp3 := hA.2.2.2.2.1
  have cq0 := hA.2.2.2.2.2.1
  have cq1 := hA.2.2.2.2.2.2.1
  have cq2 := hA.2.2.2.2.2.2.2.1
  have cq3 := hA.2.2.2.2.2.2.2.2
  go_upto_region 7 with (first | (go_at_call 35; refine (bare _ _ _).mono ?_; rintro e w9 ⟨rfl, kb⟩; have hA := KEEP.out _ _ hA kb; have cp0 := hA.2.1; have cp1 := hA.2.2.1; have cp2 := hA.2.2.2.1; have cp3 := hA.2.2.2.2.1; have cq0 := hA.2.2.2.2.2.1; have cq1 := hA.2.2.2.2.2.2.1; have cq2 := hA.2.2.2.2.2.2.2.1; have cq3 := hA.2.2.2.2.2.2.2.2) | (go_at_call 36; refine (hops _ _ _ _ _ _ _ _ _ _ _ _ (by decide +kernel) (by decide +kernel) (by decide +kernel) (by decide +kernel) (by decide +kernel)).mono ?_; rintro e w9 ⟨rfl, kb⟩; have hA := KEEP.out _ _ hA kb; have cp0 := hA.2.1; have cp1 := hA.2.2.1; have cp2 := hA.2.2.2.1; have cp3 := hA.2.2.2.2.1; have cq0 := hA.2.2.2.2.2.1; have cq1 := hA.2.2.2.2.2.2.1; have cq2 := hA.2.2.2.2.2.2.2.1; have cq3 := hA.2.2.2.2.2.2.2.2) | (go_at_call 37; refine (backedC _ _ _ _ _ _ _ _).mono ?_; rintro e w9 ⟨rfl, kb⟩; have hA := KEEP.out _ _ hA kb; have cp0 := hA.2.1; have cp1 := hA.2.2.1; have cp2 := hA.2.2.2.1; have cp3 := hA.2.2.2.2.1; have cq0 := hA.2.2.2.2.2.1; have cq1 := hA.2.2.2.2.2.2.1; have cq2 := hA.2.2.2.2.2.2.2.1; have cq3 := hA.2.2.2.2.2.2.2.2) | (go_at_call 40; refine (compareC _ _ _ _ _ _ _ _ _).mono ?_; rintro e w9 ⟨rfl, kb⟩; have hA := KEEP.out _ _ hA kb; have cp0 := hA.2.1; have cp1 := hA.2.2.1; have cp2 := hA.2.2.2.1; have cp3 := hA.2.2.2.2.1; have cq0 := hA.2.2.2.2.2.1; have cq1 := hA.2.2.2.2.2.2.1; have cq2 := hA.2.2.2.2.2.2.2.1; have cq3 := hA.2.2.2.2.2.2.2.2) | (go_at_call 38; refine (checkC _ _ _ _ _).mono ?_; rintro e w9 ⟨rfl, kb⟩; have hA := KEEP.out _ _ hA kb; have cp0 := hA.2.1; have cp1 := hA.2.2.1; have cp2 := hA.2.2.2.1; have cp3 := hA.2.2.2.2.1; have cq0 := hA.2.2.2.2.2.1; have cq1 := hA.2.2.2.2.2.2.1; have cq2 := hA.2.2.2.2.2.2.2.1; have cq3 := hA.2.2.2.2.2.2.2.2))
  clear cp0 cp1 cp2 cp3 cq0 cq1 cq2 cq3
  go_upto_region 8 with fail
  have P0 := Blk.new w9 #[.int .i64 2, .int .i64 9, .int .i64 2, .int .i64 5] 23
  have B0 := (Bel.refl w9).alloc (.cells #[.int .i64 2, .int .i64 9, .int .i64 2, .int .i64 5] 23)
  obtain ⟨s, hp⟩ : ∃ p, (w9).heap.size = p := ⟨_, rfl⟩
  obtain ⟨Ws, hW⟩ : ∃ W, (w9).alloc (.cells #[.int .i64 2, .int .i64 9, .int .i64 2, .int .i64 5] 23) = W := ⟨_, rfl⟩
  rw [hW, hp] at P0
  rw [hW] at B0
  rw [hW, hp]
  clear hW hp
  have hA := KEEP.out _ _ hA B0
  clear KEEP
  have hA : (Bel w Ws ∧ Ws.cell? ⟨p, 0, none⟩ = some (.int .i64 2) ∧ Ws.cell? ⟨p, 1, none⟩ = some (.int .i64 9) ∧ Ws.cell? ⟨p, 2, none⟩ = some (.int .i64 1) ∧ Ws.cell? ⟨p, 3, none⟩ = some (.int .i64 5) ∧ Ws.cell? ⟨q, 0, none⟩ = some (.int .i64 2) ∧ Ws.cell? ⟨q, 1, none⟩ = some (.int .i64 9) ∧ Ws.cell? ⟨q, 2, none⟩ = some (.int .i64 (-1)) ∧ Ws.cell? ⟨q, 3, none⟩ = some (.int .i64 0) ∧ Ws.cell? ⟨s, 0, none⟩ = some (.int .i64 2) ∧ Ws.cell? ⟨s, 1, none⟩ = some (.int .i64 9) ∧ Ws.cell? ⟨s, 2, none⟩ = some (.int .i64 2) ∧ Ws.cell? ⟨s, 3, none⟩ = some (.int .i64 5)) := ⟨hA.1, hA.2.1, hA.2.2.1, hA.2.2.2.1, hA.2.2.2.2.1, hA.2.2.2.2.2.1, hA.2.2.2.2.2.2.1, hA.2.2.2.2.2.2.2.1, hA.2.2.2.2.2.2.2.2, P0.cell 0 rfl, P0.cell 1 rfl, P0.cell 2 rfl, P0.cell 3 rfl⟩
  clear P0 B0
  have KEEP := Lib.hid (show ∀ V V' : World, (Bel w V ∧ V.cell? ⟨p, 0, none⟩ = some (.int .i64 2) ∧ V.cell? ⟨p, 1, none⟩ = some (.int .i64 9) ∧ V.cell? ⟨p, 2, none⟩ = some (.int .i64 1) ∧ V.cell? ⟨p, 3, none⟩ = some (.int .i64 5) ∧ V.cell? ⟨q, 0, none⟩ = some (.int .i64 2) ∧ V.cell? ⟨q, 1, none⟩ = some (.int .i64 9) ∧ V.cell? ⟨q, 2, none⟩ = some (.int .i64 (-1)) ∧ V.cell? ⟨q, 3, none⟩ = some (.int .i64 0) ∧ V.cell? ⟨s, 0, none⟩ = some (.int .i64 2) ∧ V.cell? ⟨s, 1, none⟩ = some (.int .i64 9) ∧ V.cell? ⟨s, 2, none⟩ = some (.int .i64 2) ∧ V.cell? ⟨s, 3, none⟩ = some (.int .i64 5)) → Bel V V' → (Bel w V' ∧ V'.cell? ⟨p, 0, none⟩ = some (.int .i64 2) ∧ V'.cell? ⟨p, 1, none⟩ = some (.int .i64 9) ∧ V'.cell? ⟨p, 2, none⟩ = some (.int .i64 1) ∧ V'.cell? ⟨p, 3, none⟩ = some (.int .i64 5) ∧ V'.cell? ⟨q, 0, none⟩ = some (.int .i64 2) ∧ V'.cell? ⟨q, 1, none⟩ = some (.int .i64 9) ∧ V'.cell? ⟨q, 2, none⟩ = some (.int .i64 (-1)) ∧ V'.cell? ⟨q, 3, none⟩ = some (.int .i64 0) ∧ V'.cell? ⟨s, 0, none⟩ = some (.int .i64 2) ∧ V'.cell? ⟨s, 1, none⟩ = some (.int .i64 9) ∧ V'.cell? ⟨s, 2, none⟩ = some (.int .i64 2) ∧ V'.cell? ⟨s, 3, none⟩ = some (.int .i64 5)) from
    fun V V' h hb => ⟨h.1.trans hb, Pm.cell_bel h.2.1 hb, Pm.cell_bel h.2.2.1 hb, Pm.cell_bel h.2.2.2.1 hb, Pm.cell_bel h.2.2.2.2.1 hb, Pm.cell_bel h.2.2.2.2.2.1 hb, Pm.cell_bel h.2.2.2.2.2.2.1 hb, Pm.cell_bel h.2.2.2.2.2.2.2.1 hb, Pm.cell_bel h.2.2.2.2.2.2.2.2.1 hb, Pm.cell_bel h.2.2.2.2.2.2.2.2.2.1 hb, Pm.cell_bel h.2.2.2.2.2.2.2.2.2.2.1 hb, Pm.cell_bel h.2.2.2.2.2.2.2.2.2.2.2.1 hb, Pm.cell_bel h.2.2.2.2.2.2.2.2.2.2.2.2 hb⟩)
  go_upto_region 9 with fail
  have P0 := Blk.new Ws #[.int .i64 2, .int .i64 9, .int .i64 (-1), .int .i64 5] 23
  have B0 := (Bel.refl Ws).alloc (.cells #[.int .i64 2, .int .i64 9, .int .i64 (-1), .int .i64 5] 23)
  obtain ⟨o, hp⟩ : ∃ p, (Ws).heap.size = p := ⟨_, rfl⟩
  obtain ⟨Wo, hW⟩ : ∃ W, (Ws).alloc (.cells #[.int .i64 2, .int .i64 9, .int .i64 (-1), .int .i64 5] 23) = W := ⟨_, rfl⟩
  rw [hW, hp] at P0
  rw [hW] at B0
  rw [hW, hp]
  clear hW hp
  have hA := KEEP.out _ _ hA B0
  clear KEEP
  have hA : (Bel w Wo ∧ Wo.cell? ⟨p, 0, none⟩ = some (.int .i64 2) ∧ Wo.cell? ⟨p, 1, none⟩ = some (.int .i64 9) ∧ Wo.cell? ⟨p, 2, none⟩ = some (.int .i64 1) ∧ Wo.cell? ⟨p, 3, none⟩ = some (.int .i64 5) ∧ Wo.cell? ⟨q, 0, none⟩ = some (.int .i64 2) ∧ Wo.cell? ⟨q, 1, none⟩ = some (.int .i64 9) ∧ Wo.cell? ⟨q, 2, none⟩ = some (.int .i64 (-1)) ∧ Wo.cell? ⟨q, 3, none⟩ = some (.int .i64 0) ∧ Wo.cell? ⟨s, 0, none⟩ = some (.int .i64 2) ∧ Wo.cell? ⟨s, 1, none⟩ = some (.int .i64 9) ∧ Wo.cell? ⟨s, 2, none⟩ = some (.int .i64 2) ∧ Wo.cell? ⟨s, 3, none⟩ = some (.int .i64 5) ∧ Wo.cell? ⟨o, 0, none⟩ = some (.int .i64 2) ∧ Wo.cell? ⟨o, 1, none⟩ = some (.int .i64 9) ∧ Wo.cell? ⟨o, 2, none⟩ = some (.int .i64 (-1)) ∧ Wo.cell? ⟨o, 3, none⟩ = some (.int .i64 5)) := ⟨hA.1, hA.2.1, hA.2.2.1, hA.2.2.2.1, hA.2.2.2.2.1, hA.2.2.2.2.2.1, hA.2.2.2.2.2.2.1, hA.2.2.2.2.2.2.2.1, hA.2.2.2.2.2.2.2.2.1, hA.2.2.2.2.2.2.2.2.2.1, hA.2.2.2.2.2.2.2.2.2.2.1, hA.2.2.2.2.2.2.2.2.2.2.2.1, hA.2.2.2.2.2.2.2.2.2.2.2.2, P0.cell 0 rfl, P0.cell 1 rfl, P0.cell 2 rfl, P0.cell 3 rfl⟩
  clear P0 B0
  have KEEP := Lib.hid (show ∀ V V' : World, (Bel w V ∧ V.cell? ⟨p, 0, none⟩ = some (.int .i64 2) ∧ V.cell? ⟨p, 1, none⟩ = some (.int .i64 9) ∧ V.cell? ⟨p, 2, none⟩ = some (.int .i64 1) ∧ V.cell? ⟨p, 3, none⟩ = some (.int .i64 5) ∧ V.cell? ⟨q, 0, none⟩ = some (.int .i64 2) ∧ V.cell? ⟨q, 1, none⟩ = some (.int .i64 9) ∧ V.cell? ⟨q, 2, none⟩ = some (.int .i64 (-1)) ∧ V.cell? ⟨q, 3, none⟩ = some (.int .i64 0) ∧ V.cell? ⟨s, 0, none⟩ = some (.int .i64 2) ∧ V.cell? ⟨s, 1, none⟩ = some (.int .i64 9) ∧ V.cell? ⟨s, 2, none⟩ = some (.int .i64 2) ∧ V.cell? ⟨s, 3, none⟩ = some (.int .i64 5) ∧ V.cell? ⟨o, 0, none⟩ = some (.int .i64 2) ∧ V.cell? ⟨o, 1, none⟩ = some (.int .i64 9) ∧ V.cell? ⟨o, 2, none⟩ = some (.int .i64 (-1)) ∧ V.cell? ⟨o, 3, none⟩ = some (.int .i64 5)) → Bel V V' → (Bel w V' ∧ V'.cell? ⟨p, 0, none⟩ = some (.int .i64 2) ∧ V'.cell? ⟨p, 1, none⟩ = some (.int .i64 9) ∧ V'.cell? ⟨p, 2, none⟩ = some (.int .i64 1) ∧ V'.cell? ⟨p, 3, none⟩ = some (.int .i64 5) ∧ V'.cell? ⟨q, 0, none⟩ = some (.int .i64 2) ∧ V'.cell? ⟨q, 1, none⟩ = some (.int .i64 9) ∧ V'.cell? ⟨q, 2, none⟩ = some (.int .i64 (-1)) ∧ V'.cell? ⟨q, 3, none⟩ = some (.int .i64 0) ∧ V'.cell? ⟨s, 0, none⟩ = some (.int .i64 2) ∧ V'.cell? ⟨s, 1, none⟩ = some (.int .i64 9) ∧ V'.cell? ⟨s, 2, none⟩ = some (.int .i64 2) ∧ V'.cell? ⟨s, 3, none⟩ = some (.int .i64 5) ∧ V'.cell? ⟨o, 0, none⟩ = some (.int .i64 2) ∧ V'.cell? ⟨o, 1, none⟩ = some (.int .i64 9) ∧ V'.cell? ⟨o, 2, none⟩ = some (.int .i64 (-1)) ∧ V'.cell? ⟨o, 3, none⟩ = some (.int .i64 5)) from
    fun V V' h hb => ⟨h.1.trans hb, Pm.cell_bel h.2.1 hb, Pm.cell_bel h.2.2.1 hb, Pm.cell_bel h.2.2.2.1 hb, Pm.cell_bel h.2.2.2.2.1 hb, Pm.cell_bel h.2.2.2.2.2.1 hb, Pm.cell_bel h.2.2.2.2.2.2.1 hb, Pm.cell_bel h.2.2.2.2.2.2.2.1 hb, Pm.cell_bel h.2.2.2.2.2.2.2.2.1 hb, Pm.cell_bel h.2.2.2.2.2.2.2.2.2.1 hb, Pm.cell_bel h.2.2.2.2.2.2.2.2.2.2.1 hb, Pm.cell_bel h.2.2.2.2.2.2.2.2.2.2.2.1 hb, Pm.cell_bel h.2.2.2.2.2.2.2.2.2.2.2.2.1 hb, Pm.cell_bel h.2.2.2.2.2.2.2.2.2.2.2.2.2.1 hb, Pm.cell_bel h.2.2.2.2.2.2.2.2.2.2.2.2.2.2.1 hb, Pm.cell_bel h.2.2.2.2.2.2.2.2.2.2.2.2.2.2.2.1 hb, Pm.cell_bel h.2.2.2.2.2.2.2.2.2.2.2.2.2.2.2.2 hb⟩)
  go_upto_region 10 with fail
  have P0 := Blk.new Wo #[.int .i64 2, .int .i64 9, .int .i64 1, .int .i64 0] 23
  have B0 := (Bel.refl Wo).alloc (.cells #[.int .i64 2, .int .i64 9, .int .i64 1, .int .i64 0] 23)
  obtain ⟨n, hp⟩ : ∃ p, (Wo).heap.size = p := ⟨_, rfl⟩
  obtain ⟨Wn, hW⟩ : ∃ W, (Wo).alloc (.cells #[.int .i64 2, .int .i64 9, .int .i64 1, .int .i64 0] 23) = W := ⟨_, rfl⟩
  rw [hW, hp] at P0
  rw [hW] at B0
  rw [hW, hp]
  clear hW hp
  have hA := KEEP.out _ _ hA B0
  clear KEEP
  have hA : (Bel w Wn ∧ Wn.cell? ⟨p, 0, none⟩ = some (.int .i64 2) ∧ Wn.cell? ⟨p, 1, none⟩ = some (.int .i64 9) ∧ Wn.cell? ⟨p, 2, none⟩ = some (.int .i64 1) ∧ Wn.cell? ⟨p, 3, none⟩ = some (.int .i64 5) ∧ Wn.cell? ⟨q, 0, none⟩ = some (.int .i64 2) ∧ Wn.cell? ⟨q, 1, none⟩ = some (.int .i64 9) ∧ Wn.cell? ⟨q, 2, none⟩ = some (.int .i64 (-1)) ∧ Wn.cell? ⟨q, 3, none⟩ = some (.int .i64 0) ∧ Wn.cell? ⟨s, 0, none⟩ = some (.int .i64 2) ∧ Wn.cell? ⟨s, 1, none⟩ = some (.int .i64 9) ∧ Wn.cell? ⟨s, 2, none⟩ = some (.int .i64 2) ∧ Wn.cell? ⟨s, 3, none⟩ = some (.int .i64 5) ∧ Wn.cell? ⟨o, 0, none⟩ = some (.int .i64 2) ∧ Wn.cell? ⟨o, 1, none⟩ = some (.int .i64 9) ∧ Wn.cell? ⟨o, 2, none⟩ = some (.int .i64 (-1)) ∧ Wn.cell? ⟨o, 3, none⟩ = some (.int .i64 5) ∧ Wn.cell? ⟨n, 0, none⟩ = some (.int .i64 2) ∧ Wn.cell? ⟨n, 1, none⟩ = some (.int .i64 9) ∧ Wn.cell? ⟨n, 2, none⟩ = some (.int .i64 1) ∧ Wn.cell? ⟨n, 3, none⟩ = some (.int .i64 0)) := ⟨hA.1, hA.2.1, hA.2.2.1, hA.2.2.2.1, hA.2.2.2.2.1, hA.2.2.2.2.2.1, hA.2.2.2.2.2.2.1, hA.2.2.2.2.2.2.2.1, hA.2.2.2.2.2.2.2.2.1, hA.2.2.2.2.2.2.2.2.2.1, hA.2.2.2.2.2.2.2.2.2.2.1, hA.2.2.2.2.2.2.2.2.2.2.2.1, hA.2.2.2.2.2.2.2.2.2.2.2.2.1, hA.2.2.2.2.2.2.2.2.2.2.2.2.2.1, hA.2.2.2.2.2.2.2.2.2.2.2.2.2.2.1, hA.2.2.2.2.2.2.2.2.2.2.2.2.2.2.2.1, hA.2.2.2.2.2.2.2.2.2.2.2.2.2.2.2.2, P0.cell 0 rfl, P0.cell 1 rfl, P0.cell 2 rfl, P0.cell 3 rfl⟩
  clear P0 B0
  have KEEP := Lib.hid (show ∀ V V' : World, (Bel w V ∧ V.cell? ⟨p, 0, none⟩ = some (.int .i64 2) ∧ V.cell? ⟨p, 1, none⟩ = some (.int .i64 9) ∧ V.cell? ⟨p, 2, none⟩ = some (.int .i64 1) ∧ V.cell? ⟨p, 3, none⟩ = some (.int .i64 5) ∧ V.cell? ⟨q, 0, none⟩ = some (.int .i64 2) ∧ V.cell? ⟨q, 1, none⟩ = some (.int .i64 9) ∧ V.cell? ⟨q, 2, none⟩ = some (.int .i64 (-1)) ∧ V.cell? ⟨q, 3, none⟩ = some (.int .i64 0) ∧ V.cell? ⟨s, 0, none⟩ = some (.int .i64 2) ∧ V.cell? ⟨s, 1, none⟩ = some (.int .i64 9) ∧ V.cell? ⟨s, 2, none⟩ = some (.int .i64 2) ∧ V.cell? ⟨s, 3, none⟩ = some (.int .i64 5) ∧ V.cell? ⟨o, 0, none⟩ = some (.int .i64 2) ∧ V.cell? ⟨o, 1, none⟩ = some (.int .i64 9) ∧ V.cell? ⟨o, 2, none⟩ = some (.int .i64 (-1)) ∧ V.cell? ⟨o, 3, none⟩ = some (.int .i64 5) ∧ V.cell? ⟨n, 0, none⟩ = some (.int .i64 2) ∧ V.cell? ⟨n, 1, none⟩ = some (.int .i64 9) ∧ V.cell? ⟨n, 2, none⟩ = some (.int .i64 1) ∧ V.cell? ⟨n, 3, none⟩ = some (.int .i64 0)) → Bel V V' → (Bel w V' ∧ V'.cell? ⟨p, 0, none⟩ = some (.int .i64 2) ∧ V'.cell? ⟨p, 1, none⟩ = some (.int .i64 9) ∧ V'.cell? ⟨p, 2, none⟩ = some (.int .i64 1) ∧ V'.cell? ⟨p, 3, none⟩ = some (.int .i64 5) ∧ V'.cell? ⟨q, 0, none⟩ = some (.int .i64 2) ∧ V'.cell? ⟨q, 1, none⟩ = some (.int .i64 9) ∧ V'.cell? ⟨q, 2, none⟩ = some (.int .i64 (-1)) ∧ V'.cell? ⟨q, 3, none⟩ = some (.int .i64 0) ∧ V'.cell? ⟨s, 0, none⟩ = some (.int .i64 2) ∧ V'.cell? ⟨s, 1, none⟩ = some (.int .i64 9) ∧ V'.cell? ⟨s, 2, none⟩ = some (.int .i64 2) ∧ V'.cell? ⟨s, 3, none⟩ = some (.int .i64 5) ∧ V'.cell? ⟨o, 0, none⟩ = some (.int .i64 2) ∧ V'.cell? ⟨o, 1, none⟩ = some (.int .i64 9) ∧ V'.cell? ⟨o, 2, none⟩ = some (.int .i64 (-1)) ∧ V'.cell? ⟨o, 3, none⟩ = some (.int .i64 5) ∧ V'.cell? ⟨n, 0, none⟩ = some (.int .i64 2) ∧ V'.cell? ⟨n, 1, none⟩ = some (.int .i64 9) ∧ V'.cell? ⟨n, 2, none⟩ = some (.int .i64 1) ∧ V'.cell? ⟨n, 3, none⟩ = some (.int .i64 0)) from
    fun V V' h hb => ⟨h.1.trans hb, Pm.cell_bel h.2.1 hb, Pm.cell_bel h.2.2.1 hb, Pm.cell_bel h.2.2.2.1 hb, Pm.cell_bel h.2.2.2.2.1 hb, Pm.cell_bel h.2.2.2.2.2.1 hb, Pm.cell_bel h.2.2.2.2.2.2.1 hb, Pm.cell_bel h.2.2.2.2.2.2.2.1 hb, Pm.cell_bel h.2.2.2.2.2.2.2.2.1 hb, Pm.cell_bel h.2.2.2.2.2.2.2.2.2.1 hb, Pm.cell_bel h.2.2.2.2.2.2.2.2.2.2.1 hb, Pm.cell_bel h.2.2.2.2.2.2.2.2.2.2.2.1 hb, Pm.cell_bel h.2.2.2.2.2.2.2.2.2.2.2.2.1 hb, Pm.cell_bel h.2.2.2.2.2.2.2.2.2.2.2.2.2.1 hb, Pm.cell_bel h.2.2.2.2.2.2.2.2.2.2.2.2.2.2.1 hb, Pm.cell_bel h.2.2.2.2.2.2.2.2.2.2.2.2.2.2.2.1 hb, Pm.cell_bel h.2.2.2.2.2.2.2.2.2.2.2.2.2.2.2.2.1 hb, Pm.cell_bel h.2.2.2.2.2.2.2.2.2.2.2.2.2.2.2.2.2.1 hb, Pm.cell_bel h.2.2.2.2.2.2.2.2.2.2.2.2.2.2.2.2.2.2.1 hb, Pm.cell_bel h.2.2.2.2.2.2.2.2.2.2.2.2.2.2.2.2.2.2.2.1 hb, Pm.cell_bel h.2.2.2.2.2.2.2.2.2.2.2.2.2.2.2.2.2.2.2.2 hb⟩)
  go_upto_region 11 with fail
  have P0 := Blk.new Wn #[.int .i64 2, .int .i64 9, .int .i64 1, .int .i64 10] 23
  have B0 := (Bel.refl Wn).alloc (.cells #[.int .i64 2, .int .i64 9, .int .i64 1, .int .i64 10] 23)
  obtain ⟨l, hp⟩ : ∃ p, (Wn).heap.size = p := ⟨_, rfl⟩
  obtain ⟨Wl, hW⟩ : ∃ W, (Wn).alloc (.cells #[.int .i64 2, .int .i64 9, .int .i64 1, .int .i64 10] 23) = W := ⟨_, rfl⟩
  rw [hW, hp] at P0
  rw [hW] at B0
  rw [hW, hp]
  clear hW hp
  have hA := KEEP.out _ _ hA B0
  clear KEEP
  have hA : (Bel w Wl ∧ Wl.cell? ⟨p, 0, none⟩ = some (.int .i64 2) ∧ Wl.cell? ⟨p, 1, none⟩ = some (.int .i64 9) ∧ Wl.cell? ⟨p, 2, none⟩ = some (.int .i64 1) ∧ Wl.cell? ⟨p, 3, none⟩ = some (.int .i64 5) ∧ Wl.cell? ⟨q, 0, none⟩ = some (.int .i64 2) ∧ Wl.cell? ⟨q, 1, none⟩ = some (.int .i64 9) ∧ Wl.cell? ⟨q, 2, none⟩ = some (.int .i64 (-1)) ∧ Wl.cell? ⟨q, 3, none⟩ = some (.int .i64 0) ∧ Wl.cell? ⟨s, 0, none⟩ = some (.int .i64 2) ∧ Wl.cell? ⟨s, 1, none⟩ = some (.int .i64 9) ∧ Wl.cell? ⟨s, 2, none⟩ = some (.int .i64 2) ∧ Wl.cell? ⟨s, 3, none⟩ = some (.int .i64 5) ∧ Wl.cell? ⟨o, 0, none⟩ = some (.int .i64 2) ∧ Wl.cell? ⟨o, 1, none⟩ = some (.int .i64 9) ∧ Wl.cell? ⟨o, 2, none⟩ = some (.int .i64 (-1)) ∧ Wl.cell? ⟨o, 3, none⟩ = some (.int .i64 5) ∧ Wl.cell? ⟨n, 0, none⟩ = some (.int .i64 2) ∧ Wl.cell? ⟨n, 1, none⟩ = some (.int .i64 9) ∧ Wl.cell? ⟨n, 2, none⟩ = some (.int .i64 1) ∧ Wl.cell? ⟨n, 3, none⟩ = some (.int .i64 0) ∧ Wl.cell? ⟨l, 0, none⟩ = some (.int .i64 2) ∧ Wl.cell? ⟨l, 1, none⟩ = some (.int .i64 9) ∧ Wl.cell? ⟨l, 2, none⟩ = some (.int .i64 1) ∧ Wl.cell? ⟨l, 3, none⟩ = some (.int .i64 10)) := ⟨hA.1, hA.2.1, hA.2.2.1, hA.2.2.2.1, hA.2.2.2.2.1, hA.2.2.2.2.2.1, hA.2.2.2.2.2.2.1, hA.2.2.2.2.2.2.2.1, hA.2.2.2.2.2.2.2.2.1, hA.2.2.2.2.2.2.2.2.2.1, hA.2.2.2.2.2.2.2.2.2.2.1, hA.2.2.2.2.2.2.2.2.2.2.2.1, hA.2.2.2.2.2.2.2.2.2.2.2.2.1, hA.2.2.2.2.2.2.2.2.2.2.2.2.2.1, hA.2.2.2.2.2.2.2.2.2.2.2.2.2.2.1, hA.2.2.2.2.2.2.2.2.2.2.2.2.2.2.2.1, hA.2.2.2.2.2.2.2.2.2.2.2.2.2.2.2.2.1, hA.2.2.2.2.2.2.2.2.2.2.2.2.2.2.2.2.2.1, hA.2.2.2.2.2.2.2.2.2.2.2.2.2.2.2.2.2.2.1, hA.2.2.2.2.2.2.2.2.2.2.2.2.2.2.2.2.2.2.2.1, hA.2.2.2.2.2.2.2.2.2.2.2.2.2.2.2.2.2.2.2.2, P0.cell 0 rfl, P0.cell 1 rfl, P0.cell 2 rfl, P0.cell 3 rfl⟩
  clear P0 B0
  have KEEP := Lib.hid (show ∀ V V' : World, (Bel w V ∧ V.cell? ⟨p, 0, none⟩ = some (.int .i64 2) ∧ V.cell? ⟨p, 1, none⟩ = some (.int .i64 9) ∧ V.cell? ⟨p, 2, none⟩ = some (.int .i64 1) ∧ V.cell? ⟨p, 3, none⟩ = some (.int .i64 5) ∧ V.cell? ⟨q, 0, none⟩ = some (.int .i64 2) ∧ V.cell? ⟨q, 1, none⟩ = some (.int .i64 9) ∧ V.cell? ⟨q, 2, none⟩ = some (.int .i64 (-1)) ∧ V.cell? ⟨q, 3, none⟩ = some (.int .i64 0) ∧ V.cell? ⟨s, 0, none⟩ = some (.int .i64 2) ∧ V.cell? ⟨s, 1, none⟩ = some (.int .i64 9) ∧ V.cell? ⟨s, 2, none⟩ = some (.int .i64 2) ∧ V.cell? ⟨s, 3, none⟩ = some (.int .i64 5) ∧ V.cell? ⟨o, 0, none⟩ = some (.int .i64 2) ∧ V.cell? ⟨o, 1, none⟩ = some (.int .i64 9) ∧ V.cell? ⟨o, 2, none⟩ = some (.int .i64 (-1)) ∧ V.cell? ⟨o, 3, none⟩ = some (.int .i64 5) ∧ V.cell? ⟨n, 0, none⟩ = some (.int .i64 2) ∧ V.cell? ⟨n, 1, none⟩ = some (.int .i64 9) ∧ V.cell? ⟨n, 2, none⟩ = some (.int .i64 1) ∧ V.cell? ⟨n, 3, none⟩ = some (.int .i64 0) ∧ V.cell? ⟨l, 0, none⟩ = some (.int .i64 2) ∧ V.cell? ⟨l, 1, none⟩ = some (.int .i64 9) ∧ V.cell? ⟨l, 2, none⟩ = some (.int .i64 1) ∧ V.cell? ⟨l, 3, none⟩ = some (.int .i64 10)) → Bel V V' → (Bel w V' ∧ V'.cell? ⟨p, 0, none⟩ = some (.int .i64 2) ∧ V'.cell? ⟨p, 1, none⟩ = some (.int .i64 9) ∧ V'.cell? ⟨p, 2, none⟩ = some (.int .i64 1) ∧ V'.cell? ⟨p, 3, none⟩ = some (.int .i64 5) ∧ V'.cell? ⟨q, 0, none⟩ = some (.int .i64 2) ∧ V'.cell? ⟨q, 1, none⟩ = some (.int .i64 9) ∧ V'.cell? ⟨q, 2, none⟩ = some (.int .i64 (-1)) ∧ V'.cell? ⟨q, 3, none⟩ = some (.int .i64 0) ∧ V'.cell? ⟨s, 0, none⟩ = some (.int .i64 2) ∧ V'.cell? ⟨s, 1, none⟩ = some (.int .i64 9) ∧ V'.cell? ⟨s, 2, none⟩ = some (.int .i64 2) ∧ V'.cell? ⟨s, 3, none⟩ = some (.int .i64 5) ∧ V'.cell? ⟨o, 0, none⟩ = some (.int .i64 2) ∧ V'.cell? ⟨o, 1, none⟩ = some (.int .i64 9) ∧ V'.cell? ⟨o, 2, none⟩ = some (.int .i64 (-1)) ∧ V'.cell? ⟨o, 3, none⟩ = some (.int .i64 5) ∧ V'.cell? ⟨n, 0, none⟩ = some (.int .i64 2) ∧ V'.cell? ⟨n, 1, none⟩ = some (.int .i64 9) ∧ V'.cell? ⟨n, 2, none⟩ = some (.int .i64 1) ∧ V'.cell? ⟨n, 3, none⟩ = some (.int .i64 0) ∧ V'.cell? ⟨l, 0, none⟩ = some (.int .i64 2) ∧ V'.cell? ⟨l, 1, none⟩ = some (.int .i64 9) ∧ V'.cell? ⟨l, 2, none⟩ = some (.int .i64 1) ∧ V'.cell? ⟨l, 3, none⟩ = some (.int .i64 10)) from
    fun V V' h hb => ⟨h.1.trans hb, Pm.cell_bel h.2.1 hb, Pm.cell_bel h.2.2.1 hb, Pm.cell_bel h.2.2.2.1 hb, Pm.cell_bel h.2.2.2.2.1 hb, Pm.cell_bel h.2.2.2.2.2.1 hb, Pm.cell_bel h.2.2.2.2.2.2.1 hb, Pm.cell_bel h.2.2.2.2.2.2.2.1 hb, Pm.cell_bel h.2.2.2.2.2.2.2.2.1 hb, Pm.cell_bel h.2.2.2.2.2.2.2.2.2.1 hb, Pm.cell_bel h.2.2.2.2.2.2.2.2.2.2.1 hb, Pm.cell_bel h.2.2.2.2.2.2.2.2.2.2.2.1 hb, Pm.cell_bel h.2.2.2.2.2.2.2.2.2.2.2.2.1 hb, Pm.cell_bel h.2.2.2.2.2.2.2.2.2.2.2.2.2.1 hb, Pm.cell_bel h.2.2.2.2.2.2.2.2.2.2.2.2.2.2.1 hb, Pm.cell_bel h.2.2.2.2.2.2.2.2.2.2.2.2.2.2.2.1 hb, Pm.cell_bel h.2.2.2.2.2.2.2.2.2.2.2.2.2.2.2.2.1 hb, Pm.cell_bel h.2.2.2.2.2.2.2.2.2.2.2.2.2.2.2.2.2.1 hb, Pm.cell_bel h.2.2.2.2.2.2.2.2.2.2.2.2.2.2.2.2.2.2.1 hb, Pm.cell_bel h.2.2.2.2.2.2.2.2.2.2.2.2.2.2.2.2.2.2.2.1 hb, Pm.cell_bel h.2.2.2.2.2.2.2.2.2.2.2.2.2.2.2.2.2.2.2.2.1 hb, Pm.cell_bel h.2.2.2.2.2.2.2.2.2.2.2.2.2.2.2.2.2.2.2.2.2.1 hb, Pm.cell_bel h.2.2.2.2.2.2.2.2.2.2.2.2.2.2.2.2.2.2.2.2.2.2.1 hb, Pm.cell_bel h.2.2.2.2.2.2.2.2.2.2.2.2.2.2.2.2.2.2.2.2.2.2.2.1 hb, Pm.cell_bel h.2.2.2.2.2.2.2.2.2.2.2.2.2.2.2.2.2.2.2.2.2.2.2.2 hb⟩)
  have cp0 := hA.2.1
  have cp1 := hA.2.2.1
  have cp2 := hA.2.2.2.1
  have cp3 := hA.2.2.2.2.1
  have cq0 := hA.2.2.2.2.2.1
  have cq1 := hA.2.2.2.2.2.2.1
  have cq2 := hA.2.2.2.2.2.2.2.1
  have cq3 := hA.2.2.2.2.2.2.2.2.1
  have cs0 := hA.2.2.2.2.2.2.2.2.2.1
  have cs1 := hA.2.2.2.2.2.2.2.2.2.2.1
  have cs2 := hA.2.2.2.2.2.2.2.2.2.2.2.1
  have cs3 := hA.2.2.2.2.2.2.2.2.2.2.2.2.1
  have co0 := hA.2.2.2.2.2.2.2.2.2.2.2.2.2.1
  have co1 := hA.2.2.2.2.2.2.2.2.2.2.2.2.2.2.1
  have co2 := hA.2.2.2.2.2.2.2.2.2.2.2.2.2.2.2.1
  have co3 := hA.2.2.2.2.2.2.2.2.2.2.2.2.2.2.2.2.1
  have cn0 := hA.2.2.2.2.2.2.2.2.2.2.2.2.2.2.2.2.2.1
  have cn1 := hA.2.2.2.2.2.2.2.2.2.2.2.2.2.2.2.2.2.2.1
  have cn2 := hA.2.2.2.2.2.2.2.2.2.2.2.2.2.2.2.2.2.2.2.1
  have cn3 := hA.2.2.2.2.2.2.2.2.2.2.2.2.2.2.2.2.2.2.2.2.1
  have cl0 := hA.2.2.2.2.2.2.2.2.2.2.2.2.2.2.2.2.2.2.2.2.2.1
  have cl1 := hA.2.2.2.2.2.2.2.2.2.2.2.2.2.2.2.2.2.2.2.2.2.2.1
  have cl2 := hA.2.2.2.2.2.2.2.2.2.2.2.2.2.2.2.2.2.2.2.2.2.2.2.1
  have cl3 := hA.2.2.2.2.2.2.2.2.2.2.2.2.2.2.2.2.2.2.2.2.2.2.2.2
  go_upto_region 12 with (first | (go_at_call 35; refine (bare _ _ _).mono ?_; rintro e w9 ⟨rfl, kb⟩; have hA := KEEP.out _ _ hA kb; have cp0 := hA.2.1; have cp1 := hA.2.2.1; have cp2 := hA.2.2.2.1; have cp3 := hA.2.2.2.2.1; have cq0 := hA.2.2.2.2.2.1; have cq1 := hA.2.2.2.2.2.2.1; have cq2 := hA.2.2.2.2.2.2.2.1; have cq3 := hA.2.2.2.2.2.2.2.2.1; have cs0 := hA.2.2.2.2.2.2.2.2.2.1; have cs1 := hA.2.2.2.2.2.2.2.2.2.2.1; have cs2 := hA.2.2.2.2.2.2.2.2.2.2.2.1; have cs3 := hA.2.2.2.2.2.2.2.2.2.2.2.2.1; have co0 := hA.2.2.2.2.2.2.2.2.2.2.2.2.2.1; have co1 := hA.2.2.2.2.2.2.2.2.2.2.2.2.2.2.1; have co2 := hA.2.2.2.2.2.2.2.2.2.2.2.2.2.2.2.1; have co3 := hA.2.2.2.2.2.2.2.2.2.2.2.2.2.2.2.2.1; have cn0 := hA.2.2.2.2.2.2.2.2.2.2.2.2.2.2.2.2.2.1; have cn1 := hA.2.2.2.2.2.2.2.2.2.2.2.2.2.2.2.2.2.2.1; have cn2 := hA.2.2.2.2.2.2.2.2.2.2.2.2.2.2.2.2.2.2.2.1; have cn3 := hA.2.2.2.2.2.2.2.2.2.2.2.2.2.2.2.2.2.2.2.2.1; have cl0 := hA.2.2.2.2.2.2.2.2.2.2.2.2.2.2.2.2.2.2.2.2.2.1; have cl1 := hA.2.2.2.2.2.2.2.2.2.2.2.2.2.2.2.2.2.2.2.2.2.2.1; have cl2 := hA.2.2.2.2.2.2.2.2.2.2.2.2.2.2.2.2.2.2.2.2.2.2.2.1; have cl3 := hA.2.2.2.2.2.2.2.2.2.2.2.2.2.2.2.2.2.2.2.2.2.2.2.2) | (go_at_call 36; refine (hops _ _ _ _ _ _ _ _ _ _ _ _ (by decide +kernel) (by decide +kernel) (by decide +kernel) (by decide +kernel) (by decide +kernel)).mono ?_; rintro e w9 ⟨rfl, kb⟩; have hA := KEEP.out _ _ hA kb; have cp0 := hA.2.1; have cp1 := hA.2.2.1; have cp2 := hA.2.2.2.1; have cp3 := hA.2.2.2.2.1; have cq0 := hA.2.2.2.2.2.1; have cq1 := hA.2.2.2.2.2.2.1; have cq2 := hA.2.2.2.2.2.2.2.1; have cq3 := hA.2.2.2.2.2.2.2.2.1; have cs0 := hA.2.2.2.2.2.2.2.2.2.1; have cs1 := hA.2.2.2.2.2.2.2.2.2.2.1; have cs2 := hA.2.2.2.2.2.2.2.2.2.2.2.1; have cs3 := hA.2.2.2.2.2.2.2.2.2.2.2.2.1; have co0 := hA.2.2.2.2.2.2.2.2.2.2.2.2.2.1; have co1 := hA.2.2.2.2.2.2.2.2.2.2.2.2.2.2.1; have co2 := hA.2.2.2.2.2.2.2.2.2.2.2.2.2.2.2.1; have co3 := hA.2.2.2.2.2.2.2.2.2.2.2.2.2.2.2.2.1; have cn0 := hA.2.2.2.2.2.2.2.2.2.2.2.2.2.2.2.2.2.1; have cn1 := hA.2.2.2.2.2.2.2.2.2.2.2.2.2.2.2.2.2.2.1; have cn2 := hA.2.2.2.2.2.2.2.2.2.2.2.2.2.2.2.2.2.2.2.1; have cn3 := hA.2.2.2.2.2.2.2.2.2.2.2.2.2.2.2.2.2.2.2.2.1; have cl0 := hA.2.2.2.2.2.2.2.2.2.2.2.2.2.2.2.2.2.2.2.2.2.1; have cl1 := hA.2.2.2.2.2.2.2.2.2.2.2.2.2.2.2.2.2.2.2.2.2.2.1; have cl2 := hA.2.2.2.2.2.2.2.2.2.2.2.2.2.2.2.2.2.2.2.2.2.2.2.1; have cl3 := hA.2.2.2.2.2.2.2.2.2.2.2.2.2.2.2.2.2.2.2.2.2.2.2.2) | (go_at_call 37; refine (backedC _ _ _ _ _ _ _ _).mono ?_; rintro e w9 ⟨rfl, kb⟩; have hA := KEEP.out _ _ hA kb; have cp0 := hA.2.1; have cp1 := hA.2.2.1; have cp2 := hA.2.2.2.1; have cp3 := hA.2.2.2.2.1; have cq0 := hA.2.2.2.2.2.1; have cq1 := hA.2.2.2.2.2.2.1; have cq2 := hA.2.2.2.2.2.2.2.1; have cq3 := hA.2.2.2.2.2.2.2.2.1; have cs0 := hA.2.2.2.2.2.2.2.2.2.1; have cs1 := hA.2.2.2.2.2.2.2.2.2.2.1; have cs2 := hA.2.2.2.2.2.2.2.2.2.2.2.1; have cs3 := hA.2.2.2.2.2.2.2.2.2.2.2.2.1; have co0 := hA.2.2.2.2.2.2.2.2.2.2.2.2.2.1; have co1 := hA.2.2.2.2.2.2.2.2.2.2.2.2.2.2.1; have co2 := hA.2.2.2.2.2.2.2.2.2.2.2.2.2.2.2.1; have co3 := hA.2.2.2.2.2.2.2.2.2.2.2.2.2.2.2.2.1; have cn0 := hA.2.2.2.2.2.2.2.2.2.2.2.2.2.2.2.2.2.1; have cn1 := hA.2.2.2.2.2.2.2.2.2.2.2.2.2.2.2.2.2.2.1; have cn2 := hA.2.2.2.2.2.2.2.2.2.2.2.2.2.2.2.2.2.2.2.1; have cn3 := hA.2.2.2.2.2.2.2.2.2.2.2.2.2.2.2.2.2.2.2.2.1; have cl0 := hA.2.2.2.2.2.2.2.2.2.2.2.2.2.2.2.2.2.2.2.2.2.1; have cl1 := hA.2.2.2.2.2.2.2.2.2.2.2.2.2.2.2.2.2.2.2.2.2.2.1; have cl2 := hA.2.2.2.2.2.2.2.2.2.2.2.2.2.2.2.2.2.2.2.2.2.2.2.1; have cl3 := hA.2.2.2.2.2.2.2.2.2.2.2.2.2.2.2.2.2.2.2.2.2.2.2.2) | (go_at_call 40; refine (compareC _ _ _ _ _ _ _ _ _).mono ?_; rintro e w9 ⟨rfl, kb⟩; have hA := KEEP.out _ _ hA kb; have cp0 := hA.2.1; have cp1 := hA.2.2.1; have cp2 := hA.2.2.2.1; have cp3 := hA.2.2.2.2.1; have cq0 := hA.2.2.2.2.2.1; have cq1 := hA.2.2.2.2.2.2.1; have cq2 := hA.2.2.2.2.2.2.2.1; have cq3 := hA.2.2.2.2.2.2.2.2.1; have cs0 := hA.2.2.2.2.2.2.2.2.2.1; have cs1 := hA.2.2.2.2.2.2.2.2.2.2.1; have cs2 := hA.2.2.2.2.2.2.2.2.2.2.2.1; have cs3 := hA.2.2.2.2.2.2.2.2.2.2.2.2.1; have co0 := hA.2.2.2.2.2.2.2.2.2.2.2.2.2.1; have co1 := hA.2.2.2.2.2.2.2.2.2.2.2.2.2.2.1; have co2 := hA.2.2.2.2.2.2.2.2.2.2.2.2.2.2.2.1; have co3 := hA.2.2.2.2.2.2.2.2.2.2.2.2.2.2.2.2.1; have cn0 := hA.2.2.2.2.2.2.2.2.2.2.2.2.2.2.2.2.2.1; have cn1 := hA.2.2.2.2.2.2.2.2.2.2.2.2.2.2.2.2.2.2.1; have cn2 := hA.2.2.2.2.2.2.2.2.2.2.2.2.2.2.2.2.2.2.2.1; have cn3 := hA.2.2.2.2.2.2.2.2.2.2.2.2.2.2.2.2.2.2.2.2.1; have cl0 := hA.2.2.2.2.2.2.2.2.2.2.2.2.2.2.2.2.2.2.2.2.2.1; have cl1 := hA.2.2.2.2.2.2.2.2.2.2.2.2.2.2.2.2.2.2.2.2.2.2.1; have cl2 := hA.2.2.2.2.2.2.2.2.2.2.2.2.2.2.2.2.2.2.2.2.2.2.2.1; have cl3 := hA.2.2.2.2.2.2.2.2.2.2.2.2.2.2.2.2.2.2.2.2.2.2.2.2) | (go_at_call 38; refine (checkC _ _ _ _ _).mono ?_; rintro e w9 ⟨rfl, kb⟩; have hA := KEEP.out _ _ hA kb; have cp0 := hA.2.1; have cp1 := hA.2.2.1; have cp2 := hA.2.2.2.1; have cp3 := hA.2.2.2.2.1; have cq0 := hA.2.2.2.2.2.1; have cq1 := hA.2.2.2.2.2.2.1; have cq2 := hA.2.2.2.2.2.2.2.1; have cq3 := hA.2.2.2.2.2.2.2.2.1; have cs0 := hA.2.2.2.2.2.2.2.2.2.1; have cs1 := hA.2.2.2.2.2.2.2.2.2.2.1; have cs2 := hA.2.2.2.2.2.2.2.2.2.2.2.1; have cs3 := hA.2.2.2.2.2.2.2.2.2.2.2.2.1; have co0 := hA.2.2.2.2.2.2.2.2.2.2.2.2.2.1; have co1 := hA.2.2.2.2.2.2.2.2.2.2.2.2.2.2.1; have co2 := hA.2.2.2.2.2.2.2.2.2.2.2.2.2.2.2.1; have co3 := hA.2.2.2.2.2.2.2.2.2.2.2.2.2.2.2.2.1; have cn0 := hA.2.2.2.2.2.2.2.2.2.2.2.2.2.2.2.2.2.1; have cn1 := hA.2.2.2.2.2.2.2.2.2.2.2.2.2.2.2.2.2.2.1; have cn2 := hA.2.2.2.2.2.2.2.2.2.2.2.2.2.2.2.2.2.2.2.1; have cn3 := hA.2.2.2.2.2.2.2.2.2.2.2.2.2.2.2.2.2.2.2.2.1; have cl0 := hA.2.2.2.2.2.2.2.2.2.2.2.2.2.2.2.2.2.2.2.2.2.1; have cl1 := hA.2.2.2.2.2.2.2.2.2.2.2.2.2.2.2.2.2.2.2.2.2.2.1; have cl2 := hA.2.2.2.2.2.2.2.2.2.2.2.2.2.2.2.2.2.2.2.2.2.2.2.1; have cl3 := hA.2.2.2.2.2.2.2.2.2.2.2.2.2.2.2.2.2.2.2.2.2.2.2.2))
  clear cp0 cp1 cp2 cp3 cq0 cq1 cq2 cq3 cs0 cs1 cs2 cs3 co0 co1 co2 co3 cn0 cn1 cn2 cn3 cl0 cl1 cl2 cl3
  have BY := Lib.hid (fun V => bytes 2 9 1 5 V)
  rw [k5.2.1] at BY
  have BZ := Lib.hid (fun V => bytes 2 9 (-1) 0 V)
  rw [k5.2.2] at BZ
  have K0 := Lib.hid hA.1
  have KP := Lib.hid (show ∀ V, Bel w9 V → V.cell? ⟨p, 0, none⟩ = some (.int .i64 2) ∧ V.cell? ⟨p, 1, none⟩ = some (.int .i64 9) ∧ V.cell? ⟨p, 2, none⟩ = some (.int .i64 1) ∧ V.cell? ⟨p, 3, none⟩ = some (.int .i64 5) from fun V hb => have h := KEEP.out _ _ hA hb; ⟨h.2.1, h.2.2.1, h.2.2.2.1, h.2.2.2.2.1⟩)
  clear hA KEEP
  obtain ⟨c0, c1, c2, c3⟩ := KP.out w9 (Bel.refl _)
  go_wp2_with fail
  refine (BY.out _).mono ?_
  rintro e wa ⟨va, rfl, hf⟩
  obtain ⟨Aa, ca, rfl, hs⟩ := hf.sl
  have Ka := Lib.hid hf.2
  have SA := Lib.hid hs
  clear hf hs c0 c1 c2 c3
  go_wp2_with fail
  refine (bare 2 9 wa).mono ?_
  rintro e wb ⟨rfl, kb⟩
  have Kb := Lib.hid (Ka.out.trans kb)
  have SA := Lib.hid (SA.out.bel kb)
  clear kb
  go_wp2_with fail
  refine (BZ.out _).mono ?_
  rintro e wc ⟨vc, rfl, hf⟩
  obtain ⟨Ac, cc, rfl, hs⟩ := hf.sl
  have Kc := Lib.hid (Kb.out.trans hf.2)
  have SA := Lib.hid (SA.out.bel hf.2)
  have SC := Lib.hid hs
  clear hf hs
  have L0 : Sl (World.alloc wc (.cells #[.int .u8 2, .int .u8 9, .int .u8 2, .int .u8 5] 5)) (some ⟨(World.heap wc).size, 0, none⟩) 4 4 [2, 9, 2, 5] := sl_lit wc [2, 9, 2, 5]
  have LB := (Bel.refl wc).alloc (.cells #[.int .u8 2, .int .u8 9, .int .u8 2, .int .u8 5] 5)
  have SM := Lib.hid (same Aa _ _ ca _ 4 _ _ (SA.out.bel LB).ints L0.ints)
  clear L0 LB
  go_wp2_with fail
  refine (SM.out).mono ?_
  rintro e wd ⟨rfl, hw⟩
  have KD := Lib.hid (show Bel wc wd by rw [← hw]; exact (Bel.refl _).alloc _)
  have SC := Lib.hid (SC.out.bel KD.out)
  clear hw SM SA
  have L0 : Sl (World.alloc wd (.cells #[.int .u8 2, .int .u8 9, .int .u8 0, .int .u8 0] 5)) (some ⟨(World.heap wd).size, 0, none⟩) 4 4 [2, 9, 0, 0] := sl_lit wd [2, 9, 0, 0]
  have LB := (Bel.refl wd).alloc (.cells #[.int .u8 2, .int .u8 9, .int .u8 0, .int .u8 0] 5)
  have SM := Lib.hid (same Ac _ _ cc _ 4 _ _ (SC.out.bel LB).ints L0.ints)
  clear L0 LB
  go_wp2_with fail
  refine (SM.out).mono ?_
  rintro e we ⟨rfl, hw⟩
  have KE := Lib.hid (show Bel wd we by rw [← hw]; exact (Bel.refl _).alloc _)
  clear hw SM SC
  have KE := Lib.hid ((Kc.out.trans KD.out).trans KE.out)
  clear Ka Kb Kc KD
  have L0 : Sl (World.alloc we (.cells #[.int .u8 2, .int .u8 9, .int .u8 3, .int .u8 5] 5)) (some ⟨(World.heap we).size, 0, none⟩) 4 4 [2, 9, 3, 5] := sl_lit we [2, 9, 3, 5]
  have LB := (Bel.refl we).alloc (.cells #[.int .u8 2, .int .u8 9, .int .u8 3, .int .u8 5] 5)
  have FC := Lib.hid (faultC _ _ 4 [2, 9, 3, 5] _ _ _ _ _ _ 2 0 _ L0 (by decide) (bytes_le (by decide)) (tk_enc [] [] 2 9 2 5 (by decide) (by decide) (by decide) (by decide) (by decide) (by decide) (by decide) (by decide)) (by decide))
  have LB2 := Lib.hid LB
  clear L0 LB
  go_wp2_with fail
  refine (FC.out).mono ?_
  rintro e wf ⟨rfl, kb⟩
  have KF := Lib.hid ((KE.out.trans LB2.out).trans kb)
  clear kb FC LB2 KE
  have L0 : Sl (World.alloc wf (.cells #[.int .u8 32] 5)) (some ⟨(World.heap wf).size, 0, none⟩) 1 1 [32] := sl_lit wf [32]
  have LB := (Bel.refl wf).alloc (.cells #[.int .u8 32] 5)
  have FC := Lib.hid (faultC _ _ 1 [32] _ _ _ _ _ _ 3 0 _ L0 (by decide) (bytes_le (by decide)) (tk_32) (by decide))
  have LB2 := Lib.hid LB
  clear L0 LB
  go_wp2_with fail
  refine (FC.out).mono ?_
  rintro e wg ⟨rfl, kb⟩
  have KG := Lib.hid ((KF.out.trans LB2.out).trans kb)
  clear kb FC LB2 KF
  have L0 : Sl (World.alloc wg (.cells #[.int .u8 2, .int .u8 9, .int .u8 2, .int .u8 5, .int .u8 1] 5)) (some ⟨(World.heap wg).size, 0, none⟩) 5 5 [2, 9, 2, 5, 1] := sl_lit wg [2, 9, 2, 5, 1]
  have LB := (Bel.refl wg).alloc (.cells #[.int .u8 2, .int .u8 9, .int .u8 2, .int .u8 5, .int .u8 1] 5)
  have FC := Lib.hid (faultC _ _ 5 [2, 9, 2, 5, 1] _ _ _ _ _ _ 4 4 _ L0 (by decide) (bytes_le (by decide)) (tk_enc [] [1] 2 9 1 5 (by decide) (by decide) (by decide) (by decide) (by decide) (by decide) (by decide) (by decide)) (by decide))
  have LB2 := Lib.hid LB
  clear L0 LB
  go_wp2_with fail
  refine (FC.out).mono ?_
  rintro e wh ⟨rfl, kb⟩
  have KH := Lib.hid ((KG.out.trans LB2.out).trans kb)
  clear kb FC LB2 KG
  go_upto_region 15 with fail
  have hA : Bel w (World.drew wh) ∧ (World.drew wh).cell? ⟨p, 0, none⟩ = some (.int .i64 2) ∧ (World.drew wh).cell? ⟨p, 1, none⟩ = some (.int .i64 9) ∧ (World.drew wh).cell? ⟨p, 2, none⟩ = some (.int .i64 1) ∧ (World.drew wh).cell? ⟨p, 3, none⟩ = some (.int .i64 5) := ⟨(K0.out.trans KH.out).drew, KP.out _ KH.out.drew⟩
  have KEEP := Lib.hid (show ∀ V V' : World, (Bel w V ∧ V.cell? ⟨p, 0, none⟩ = some (.int .i64 2) ∧ V.cell? ⟨p, 1, none⟩ = some (.int .i64 9) ∧ V.cell? ⟨p, 2, none⟩ = some (.int .i64 1) ∧ V.cell? ⟨p, 3, none⟩ = some (.int .i64 5)) → Bel V V' → (Bel w V' ∧ V'.cell? ⟨p, 0, none⟩ = some (.int .i64 2) ∧ V'.cell? ⟨p, 1, none⟩ = some (.int .i64 9) ∧ V'.cell? ⟨p, 2, none⟩ = some (.int .i64 1) ∧ V'.cell? ⟨p, 3, none⟩ = some (.int .i64 5)) from
    fun V V' h hb => ⟨h.1.trans hb, Pm.cell_bel h.2.1 hb, Pm.cell_bel h.2.2.1 hb, Pm.cell_bel h.2.2.2.1 hb, Pm.cell_bel h.2.2.2.2 hb⟩)
  go_region_held3 (fun V => Bel w V ∧ V.cell? ⟨p, 0, none⟩ = some (.int .i64 2) ∧ V.cell? ⟨p, 1, none⟩ = some (.int .i64 9) ∧ V.cell? ⟨p, 2, none⟩ = some (.int .i64 1) ∧ V.cell? ⟨p, 3, none⟩ = some (.int .i64 5)) (first | assumption | exact KEEP.out _ _ (by assumption) (by assumption)) (first | (go_at_call 35; refine (bare _ _ _).mono ?_; rintro e w9 ⟨rfl, kb⟩) | (go_at_call 36; refine (hops _ _ _ _ _ _ _ _ _ _ _ _ (by decide +kernel) (by decide +kernel) (by decide +kernel) (by decide +kernel) (by decide +kernel)).mono ?_; rintro e w9 ⟨rfl, kb⟩) | (go_at_call 37; refine (backedC _ _ _ _ _ _ _ _).mono ?_; rintro e w9 ⟨rfl, kb⟩) | (go_at_call 40; refine (compareC _ _ _ _ _ _ _ _ _).mono ?_; rintro e w9 ⟨rfl, kb⟩) | (go_at_call 38; refine (checkC _ _ _ _ _).mono ?_; rintro e w9 ⟨rfl, kb⟩) | (go_at_call 8; refine (awake _).mono ?_; rintro e w9 ⟨rfl, kb⟩))
  rename_i hA
  go_wp2_with fail
  go_ret
  exact ⟨rfl, hA.1⟩
end Sm
end Go.Proofs.Ytagcpphkabkgjaa
