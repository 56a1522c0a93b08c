/-
  Texts of this claim, put together: Hp18, Hp14, Hp19. What each one says, and under which conditions, stands ahead of it.
-/
import Derived.Test.YtahhnfnonekbmaaQI
import Derived.Test.YtahhnfnonekbmaaQF
import Derived.Test.YtahhnfnonekbmaaGHpIn

section
/-
  What HopKnown answers: true. No condition.
-/
namespace Go.Proofs.Ytahhnfnonekbmaa
open Go.RowKit Go.Shelf
set_option linter.unusedVariables false
set_option linter.unusedSimpArgs false
namespace Hp
open Kk Pm

set_option maxRecDepth 100000 in
set_option maxHeartbeats 16000000 in
theorem known (w : World) : Calls Try.prog 6 #[] w fun e w' => e = .returned (.bool true) ∧ Bel w w' := by
  have K0 := Lib.hid (Bel.refl w)
  go_enter Try.func6, Try.ntmps6
  go_wp2_with fail
  refine (one 0 1 2 5 _).mono ?_
  rintro e w1 ⟨rfl, kb⟩
  have K1 := Lib.hid (K0.out.trans kb)
  clear kb
  go_wp2_with fail
  refine (one 0 1 2 4 _).mono ?_
  rintro e w2 ⟨rfl, kb⟩
  have K2 := Lib.hid (K1.out.trans kb)
  clear kb
  have B_ := Lib.hid (Blk.new w2 #[.int .i64 0, .int .i64 1, .int .i64 2, .int .i64 5, .int .i64 0, .int .i64 1, .int .i64 2, .int .i64 4] 24)
  have BW_ := (Bel.refl w2).alloc (.cells #[.int .i64 0, .int .i64 1, .int .i64 2, .int .i64 5, .int .i64 0, .int .i64 1, .int .i64 2, .int .i64 4] 24)
  go_wp2_with fail
  refine (list_ _ _).mono ?_
  rintro e w0_ ⟨rfl, rfl⟩
  obtain ⟨w3, hW_⟩ : ∃ W, World.alloc w2 (.cells #[.int .i64 0, .int .i64 1, .int .i64 2, .int .i64 5, .int .i64 0, .int .i64 1, .int .i64 2, .int .i64 4] 24) = W := ⟨_, rfl⟩
  obtain ⟨ga, hg_⟩ : ∃ g, (World.heap w2).size = g := ⟨_, rfl⟩
  rw [hW_] at B_ BW_ ⊢
  rw [hg_] at B_ ⊢
  have K3 := Lib.hid (K2.out.trans BW_)
  have Ra := Lib.hid (show Rw.RS hR w3 (some ⟨ga, 0, none⟩) 2 2 [(0, 1, 2, 5), (0, 1, 2, 4)] from Rw.rs_blk hR B_.out rfl (Nat.le_refl _) rfl)
  clear hW_ hg_ BW_ B_
  go_wp2_with fail
  refine (checks _ 2 2 [(0, 1, 2, 5), (0, 1, 2, 4)] 9 1 _ Ra.out (by decide)).mono ?_
  rintro e w4 ⟨rfl, kb⟩
  have K4 := Lib.hid (K3.out.trans kb)
  have Ra := Lib.hid (Ra.out.bel kb)
  rw [show ((9 : Int) == (chk [(0, 1, 2, 5), (0, 1, 2, 4)]).1 && (((chk [(0, 1, 2, 5), (0, 1, 2, 4)]).2 : Int) == 1)) = true by decide]
  clear kb
  go_wp2_with fail
  refine (one 0 1 1 5 _).mono ?_
  rintro e w5 ⟨rfl, kb⟩
  have K5 := Lib.hid (K4.out.trans kb)
  clear kb
  have B_ := Lib.hid (Blk.new w5 #[.int .i64 0, .int .i64 1, .int .i64 1, .int .i64 5] 24)
  have BW_ := (Bel.refl w5).alloc (.cells #[.int .i64 0, .int .i64 1, .int .i64 1, .int .i64 5] 24)
  go_wp2_with fail
  refine (list_ _ _).mono ?_
  rintro e w0_ ⟨rfl, rfl⟩
  obtain ⟨w6, hW_⟩ : ∃ W, World.alloc w5 (.cells #[.int .i64 0, .int .i64 1, .int .i64 1, .int .i64 5] 24) = W := ⟨_, rfl⟩
  obtain ⟨gb, hg_⟩ : ∃ g, (World.heap w5).size = g := ⟨_, rfl⟩
  rw [hW_] at B_ BW_ ⊢
  rw [hg_] at B_ ⊢
  have K6 := Lib.hid (K5.out.trans BW_)
  have Rb := Lib.hid (show Rw.RS hR w6 (some ⟨gb, 0, none⟩) 1 1 [(0, 1, 1, 5)] from Rw.rs_blk hR B_.out rfl (Nat.le_refl _) rfl)
  clear hW_ hg_ BW_ B_
  go_wp2_with fail
  refine (checks _ 1 1 [(0, 1, 1, 5)] 3 0 _ Rb.out (by decide)).mono ?_
  rintro e w7 ⟨rfl, kb⟩
  have K7 := Lib.hid (K6.out.trans kb)
  have Rb := Lib.hid (Rb.out.bel kb)
  rw [show ((3 : Int) == (chk [(0, 1, 1, 5)]).1 && (((chk [(0, 1, 1, 5)]).2 : Int) == 0)) = true by decide]
  clear kb
  go_wp2_with fail
  refine (one 0 1 2 5 _).mono ?_
  rintro e w8 ⟨rfl, kb⟩
  have K8 := Lib.hid (K7.out.trans kb)
  clear kb
  go_wp2_with fail
  refine (one 64 1 2 4 _).mono ?_
  rintro e w9 ⟨rfl, kb⟩
  have K9 := Lib.hid (K8.out.trans kb)
  clear kb
  have B_ := Lib.hid (Blk.new w9 #[.int .i64 0, .int .i64 1, .int .i64 2, .int .i64 5, .int .i64 64, .int .i64 1, .int .i64 2, .int .i64 4] 24)
  have BW_ := (Bel.refl w9).alloc (.cells #[.int .i64 0, .int .i64 1, .int .i64 2, .int .i64 5, .int .i64 64, .int .i64 1, .int .i64 2, .int .i64 4] 24)
  go_wp2_with fail
  refine (list_ _ _).mono ?_
  rintro e w0_ ⟨rfl, rfl⟩
  obtain ⟨w10, hW_⟩ : ∃ W, World.alloc w9 (.cells #[.int .i64 0, .int .i64 1, .int .i64 2, .int .i64 5, .int .i64 64, .int .i64 1, .int .i64 2, .int .i64 4] 24) = W := ⟨_, rfl⟩
  obtain ⟨gc, hg_⟩ : ∃ g, (World.heap w9).size = g := ⟨_, rfl⟩
  rw [hW_] at B_ BW_ ⊢
  rw [hg_] at B_ ⊢
  have K10 := Lib.hid (K9.out.trans BW_)
  have Rc := Lib.hid (show Rw.RS hR w10 (some ⟨gc, 0, none⟩) 2 2 [(0, 1, 2, 5), (64, 1, 2, 4)] from Rw.rs_blk hR B_.out rfl (Nat.le_refl _) rfl)
  clear hW_ hg_ BW_ B_
  go_wp2_with fail
  refine (checks _ 2 2 [(0, 1, 2, 5), (64, 1, 2, 4)] 3 1 _ Rc.out (by decide)).mono ?_
  rintro e w11 ⟨rfl, kb⟩
  have K11 := Lib.hid (K10.out.trans kb)
  have Rc := Lib.hid (Rc.out.bel kb)
  rw [show ((3 : Int) == (chk [(0, 1, 2, 5), (64, 1, 2, 4)]).1 && (((chk [(0, 1, 2, 5), (64, 1, 2, 4)]).2 : Int) == 1)) = true by decide]
  clear kb
  go_wp2_with fail
  refine (one 0 1 2 5 _).mono ?_
  rintro e w12 ⟨rfl, kb⟩
  have K12 := Lib.hid (K11.out.trans kb)
  clear kb
  have B_ := Lib.hid (Blk.new w12 #[.int .i64 0, .int .i64 1, .int .i64 2, .int .i64 5] 24)
  have BW_ := (Bel.refl w12).alloc (.cells #[.int .i64 0, .int .i64 1, .int .i64 2, .int .i64 5] 24)
  go_wp2_with fail
  refine (list_ _ _).mono ?_
  rintro e w0_ ⟨rfl, rfl⟩
  obtain ⟨w13, hW_⟩ : ∃ W, World.alloc w12 (.cells #[.int .i64 0, .int .i64 1, .int .i64 2, .int .i64 5] 24) = W := ⟨_, rfl⟩
  obtain ⟨gd, hg_⟩ : ∃ g, (World.heap w12).size = g := ⟨_, rfl⟩
  rw [hW_] at B_ BW_ ⊢
  rw [hg_] at B_ ⊢
  have K13 := Lib.hid (K12.out.trans BW_)
  have Rd := Lib.hid (show Rw.RS hR w13 (some ⟨gd, 0, none⟩) 1 1 [(0, 1, 2, 5)] from Rw.rs_blk hR B_.out rfl (Nat.le_refl _) rfl)
  clear hW_ hg_ BW_ B_
  go_wp2_with fail
  refine (one 0 1 3 4 _).mono ?_
  rintro e w14 ⟨rfl, kb⟩
  have K14 := Lib.hid (K13.out.trans kb)
  have Rd := Lib.hid (Rd.out.bel kb)
  clear kb
  go_wp2_with fail
  refine (adds _ 1 1 [(0, 1, 2, 5)] 0 1 3 4 1 _ Rd.out (by decide) (w3c _ (by decide))).mono ?_
  rintro e w15 ⟨rfl, kb⟩
  have K15 := Lib.hid (K14.out.trans kb)
  have Rd := Lib.hid (Rd.out.bel kb)
  rw [show addE [(0, 1, 2, 5)] (0, 1, 3, 4) 1 = 9 by decide]
  clear kb
  go_wp2_with fail
  refine (one 0 1 2 5 _).mono ?_
  rintro e w16 ⟨rfl, kb⟩
  have K16 := Lib.hid (K15.out.trans kb)
  clear kb
  go_wp2_with fail
  refine (adds none 0 0 [] 0 1 2 5 17 _ Rw.RS.nil_ (by decide) (w3c _ (by decide))).mono ?_
  rintro e w17 ⟨rfl, kb⟩
  have K17 := Lib.hid (K16.out.trans kb)
  rw [show addE [] (0, 1, 2, 5) 17 = 3 by decide]
  clear kb
  go_wp2_with fail
  refine (one 0 1 2 5 _).mono ?_
  rintro e w18 ⟨rfl, kb⟩
  have K18 := Lib.hid (K17.out.trans kb)
  clear kb
  have B_ := Lib.hid (Blk.new w18 #[.int .i64 0, .int .i64 1, .int .i64 2, .int .i64 5] 24)
  have BW_ := (Bel.refl w18).alloc (.cells #[.int .i64 0, .int .i64 1, .int .i64 2, .int .i64 5] 24)
  go_wp2_with fail
  refine (list_ _ _).mono ?_
  rintro e w0_ ⟨rfl, rfl⟩
  obtain ⟨w19, hW_⟩ : ∃ W, World.alloc w18 (.cells #[.int .i64 0, .int .i64 1, .int .i64 2, .int .i64 5] 24) = W := ⟨_, rfl⟩
  obtain ⟨ge, hg_⟩ : ∃ g, (World.heap w18).size = g := ⟨_, rfl⟩
  rw [hW_] at B_ BW_ ⊢
  rw [hg_] at B_ ⊢
  have K19 := Lib.hid (K18.out.trans BW_)
  have Re := Lib.hid (show Rw.RS hR w19 (some ⟨ge, 0, none⟩) 1 1 [(0, 1, 2, 5)] from Rw.rs_blk hR B_.out rfl (Nat.le_refl _) rfl)
  clear hW_ hg_ BW_ B_
  go_wp2_with fail
  refine (ripe _ 1 1 [(0, 1, 2, 5)] 0 10 _ Re.out (by decide)).mono ?_
  rintro e w20 ⟨B1, m1, d1, B2, m2, d2, rfl, _, kb⟩
  have K20 := Lib.hid (K19.out.trans kb)
  have Re := Lib.hid (Re.out.bel kb)
  rw [show ripE [(0, 1, 2, 5)] 0 10 = 3 by decide]
  clear kb
  go_wp2_with fail
  refine (one 0 1 2 5 _).mono ?_
  rintro e w21 ⟨rfl, kb⟩
  have K21 := Lib.hid (K20.out.trans kb)
  clear kb
  go_wp2_with fail
  refine (one 0 1 2 6 _).mono ?_
  rintro e w22 ⟨rfl, kb⟩
  have K22 := Lib.hid (K21.out.trans kb)
  clear kb
  go_wp2_with fail
  refine (one 0 2 1 7 _).mono ?_
  rintro e w23 ⟨rfl, kb⟩
  have K23 := Lib.hid (K22.out.trans kb)
  clear kb
  have B_ := Lib.hid (Blk.new w23 #[.int .i64 0, .int .i64 1, .int .i64 2, .int .i64 5, .int .i64 0, .int .i64 1, .int .i64 2, .int .i64 6, .int .i64 0, .int .i64 2, .int .i64 1, .int .i64 7] 24)
  have BW_ := (Bel.refl w23).alloc (.cells #[.int .i64 0, .int .i64 1, .int .i64 2, .int .i64 5, .int .i64 0, .int .i64 1, .int .i64 2, .int .i64 6, .int .i64 0, .int .i64 2, .int .i64 1, .int .i64 7] 24)
  go_wp2_with fail
  refine (list_ _ _).mono ?_
  rintro e w0_ ⟨rfl, rfl⟩
  obtain ⟨w24, hW_⟩ : ∃ W, World.alloc w23 (.cells #[.int .i64 0, .int .i64 1, .int .i64 2, .int .i64 5, .int .i64 0, .int .i64 1, .int .i64 2, .int .i64 6, .int .i64 0, .int .i64 2, .int .i64 1, .int .i64 7] 24) = W := ⟨_, rfl⟩
  obtain ⟨gt, hg_⟩ : ∃ g, (World.heap w23).size = g := ⟨_, rfl⟩
  rw [hW_] at B_ BW_ ⊢
  rw [hg_] at B_ ⊢
  have K24 := Lib.hid (K23.out.trans BW_)
  have Rt := Lib.hid (show Rw.RS hR w24 (some ⟨gt, 0, none⟩) 3 3 [(0, 1, 2, 5), (0, 1, 2, 6), (0, 2, 1, 7)] from Rw.rs_blk hR B_.out rfl (Nat.le_refl _) rfl)
  clear hW_ hg_ BW_ B_
  have sl_ := fun V => show (Instr.slice 22 (.slice (some ⟨gt, 0, none⟩) 3 3) (some (.int .i64 2)) none none).run Try.prog V = .ok (.slice (if 3 = 2 then (some ⟨gt, 0, none⟩ : Option Addr) else (some (⟨gt, 0, none⟩ : Addr)).map (·.add (2 * 4))) 1 1) V from slice_lo (some ⟨gt, 0, none⟩) 3 3 2 (by decide) (by decide) V
  obtain ⟨Bq, hBq⟩ : ∃ B, (if 3 = 2 then (some ⟨gt, 0, none⟩ : Option Addr) else (some (⟨gt, 0, none⟩ : Addr)).map (·.add (2 * 4))) = B := ⟨_, rfl⟩
  have RLO := Lib.hid (fun V (hv : Bel w24 V) => by have := rs_low (k := 2) (Rt.out.bel hv) (by decide); rw [hBq] at this; exact this)
  rw [hBq] at sl_
  clear hBq
  have CNT := Lib.hid (fun V (hv : Bel w24 V) => count _ 3 3 [(0, 1, 2, 5), (0, 1, 2, 6), (0, 2, 1, 7)] 0 1 2 V (Rt.out.bel hv) (by decide) (w3c _ (by decide)) (by unfold I64; decide) (by unfold I64; decide) (by unfold I64; decide))
  rw [show cnt [(0, 1, 2, 5), (0, 1, 2, 6), (0, 2, 1, 7)] 0 1 2 = 2 by decide] at CNT
  have INT := Lib.hid (fun V (hv : Bel w24 V) => into_ _ 3 3 [(0, 1, 2, 5), (0, 1, 2, 6), (0, 2, 1, 7)] 0 1 V (Rt.out.bel hv) (by decide))
  rw [show [(0, 1, 2, 5), (0, 1, 2, 6), (0, 2, 1, 7)].filter (into 0 1) = [(0, 2, 1, 7)] by decide] at INT
  go_upto_region 5 with fail
  refine wp_region_held_drew (S := fun Vx => Bel w24 Vx) (by kernel_rfl) (Bel.refl _).drew (fun hS0 => ?_)
  obtain ⟨w6, hw6⟩ : ∃ w6, World.drew w24 = w6 := ⟨_, rfl⟩
  rw [hw6] at hS0 ⊢
  clear hw6
  refine wpAnyH_take (i := 0) (oi := { dst := some 53, op := .move (.tmp 6), type := 22, pos := "outright.go:55", after := #[], guard := none }) (v := .slice (some ⟨gt, 0, none⟩) 3 3) rfl (by kernel_rfl) (by kernel_rfl) (by kernel_rfl) (fun _ _ _ h => h) (Or.inl ⟨by rfl, by intro w hSw; clear hSw; go_simp⟩) hS0 ?_
  try simp only [Act.put, List.setIfInBounds_toArray, List.set_cons_zero, List.set_cons_succ]
  refine wpAnyH_ready (rs := [1]) (by kernel_rfl) (by simp) ?_
  refine AllReadyH.cons (o := { dst := some 54, op := .call { callee := .value (.func 15), args := #[.tmp 53, .const (Value.int IntKind.i64 0), .const (Value.int IntKind.i64 1), .const (Value.int IntKind.i64 2)], argTypes := #[22, 3, 3, 3] }, type := 3, pos := "outright.go:55", after := #[{ on := 0, ground := .data }], guard := none }) rfl (fun K hK => ?_) AllReadyH.nil
  go_simp
  refine (CNT.out _ hS0).mono ?_
  rintro e v1 ⟨rfl, kb⟩
  go_wp2_with fail
  refine hK.out _ _ (hS0.trans kb) (fun hS1 => ?_)
  clear hK K
  try simp only [Act.put, List.setIfInBounds_toArray, List.set_cons_zero, List.set_cons_succ]
  refine wpAnyH_take (i := 2) (oi := { dst := some 55, op := .binOp .eql 3 (.tmp 54) (.const (Value.int IntKind.i64 2)) 3, type := 4, pos := "outright.go:55", after := #[{ on := 1, ground := .data }], guard := none }) (v := .bool true) rfl (by kernel_rfl) (by kernel_rfl) (by kernel_rfl) (fun _ _ _ h => h) (Or.inl ⟨by rfl, by intro w hSw; clear hSw; go_simp⟩) hS1 ?_
  try simp only [Act.put, List.setIfInBounds_toArray, List.set_cons_zero, List.set_cons_succ]
  refine wpAnyH_take (i := 3) (oi := { dst := some 56, op := .move (.tmp 55), type := 4, pos := "outright.go:55", after := #[{ on := 2, ground := .data }, { on := 1, ground := .chain }], guard := none }) (v := .bool true) rfl (by kernel_rfl) (by kernel_rfl) (by kernel_rfl) (fun _ _ _ h => h) (Or.inl ⟨by rfl, by intro w hSw; clear hSw; go_simp⟩) hS1 ?_
  try simp only [Act.put, List.setIfInBounds_toArray, List.set_cons_zero, List.set_cons_succ]
  refine wpAnyH_take (i := 4) (oi := { dst := some 57, op := .move (.tmp 6), type := 22, pos := "outright.go:55", after := #[{ on := 3, ground := .guard }], guard := some (3, true) }) (v := .slice (some ⟨gt, 0, none⟩) 3 3) rfl (by kernel_rfl) (by kernel_rfl) (by kernel_rfl) (fun _ _ _ h => h) (Or.inl ⟨by rfl, by intro w hSw; clear hSw; go_simp⟩) hS1 ?_
  try simp only [Act.put, List.setIfInBounds_toArray, List.set_cons_zero, List.set_cons_succ]
  refine wpAnyH_take (i := 6) (oi := { dst := some 59, op := .move (.tmp 6), type := 22, pos := "outright.go:55", after := #[{ on := 3, ground := .guard }], guard := some (3, true) }) (v := .slice (some ⟨gt, 0, none⟩) 3 3) rfl (by kernel_rfl) (by kernel_rfl) (by kernel_rfl) (fun _ _ _ h => h) (Or.inl ⟨by rfl, by intro w hSw; clear hSw; go_simp⟩) hS1 ?_
  try simp only [Act.put, List.setIfInBounds_toArray, List.set_cons_zero, List.set_cons_succ]
  refine wpAnyH_take (i := 7) (oi := { dst := some 60, op := .slice 22 (.tmp 59) (some (.const (Value.int IntKind.i64 2))) none none, type := 22, pos := "outright.go:55", after := #[{ on := 6, ground := .data }, { on := 3, ground := .guard }], guard := some (3, true) }) (v := .slice Bq 1 1) rfl (by kernel_rfl) (by kernel_rfl) (by kernel_rfl) (fun _ _ _ h => h) (Or.inl ⟨by rfl, by intro w hSw; clear hSw; go_simp⟩) hS1 ?_
  try simp only [Act.put, List.setIfInBounds_toArray, List.set_cons_zero, List.set_cons_succ]
  refine wpAnyH_ready (rs := [5]) (by kernel_rfl) (by simp) ?_
  refine AllReadyH.cons (o := { dst := some 58, op := .call { callee := .value (.func 22), args := #[.tmp 57, .const (Value.int IntKind.i64 0), .const (Value.int IntKind.i64 1)], argTypes := #[22, 3, 3] }, type := 22, pos := "outright.go:55", after := #[{ on := 4, ground := .data }, { on := 3, ground := .chain }, { on := 3, ground := .guard }], guard := some (3, true) }) rfl (fun K hK => ?_) AllReadyH.nil
  go_simp
  refine (INT.out _ hS1).mono ?_
  rintro e v2 ⟨vi, rfl, hoi, kbi⟩
  go_wp2_with fail
  refine hK.out _ _ (hS1.trans kbi) (fun hS2 => ?_)
  clear hK K
  try simp only [Act.put, List.setIfInBounds_toArray, List.set_cons_zero, List.set_cons_succ]
  refine wpAnyH_ready (rs := [8]) (by kernel_rfl) (by simp) ?_
  refine AllReadyH.cons (o := { dst := some 61, op := .call { callee := .value (.func 24), args := #[.tmp 58, .tmp 60], argTypes := #[22, 22] }, type := 4, pos := "outright.go:55", after := #[{ on := 5, ground := .data }, { on := 7, ground := .data }, { on := 5, ground := .chain }, { on := 3, ground := .guard }], guard := some (3, true) }) rfl (fun K hK => ?_) AllReadyH.nil
  obtain ⟨Ai, ci, rfl, hri⟩ := hoi.slice
  have hri := show Rw.RS hR _ Ai 1 ci [(0, 2, 1, 7)] from hri
  have SM := same_hops Ai Bq 1 ci 1 1 [(0, 2, 1, 7)] [(0, 2, 1, 7)] v2 hri (RLO.out _ hS2) (by decide) (by decide)
  rw [decide_eq_true (rfl : ([(0, 2, 1, 7)] : List R4) = [(0, 2, 1, 7)])] at SM
  go_simp
  refine (SM).mono ?_
  rintro e v3 ⟨rfl, kbs⟩
  go_wp2_with fail
  refine hK.out _ _ (hS2.trans kbs) (fun hS3 => ?_)
  clear hK K
  try simp only [Act.put, List.setIfInBounds_toArray, List.set_cons_zero, List.set_cons_succ]
  refine wpAnyH_take (i := 9) (oi := { dst := some 62, op := .pick (.tmp 56) (.tmp 61) (.const (Value.bool false)), type := 4, pos := "outright.go:55", after := #[{ on := 3, ground := .data }, { on := 8, ground := .data }], guard := none }) (v := .bool true) rfl (by kernel_rfl) (by kernel_rfl) (by kernel_rfl) (fun _ _ _ h => h) (Or.inl ⟨by rfl, by intro w hSw; clear hSw; go_simp⟩) hS3 ?_
  try simp only [Act.put, List.setIfInBounds_toArray, List.set_cons_zero, List.set_cons_succ]
  refine wpAnyH_take (i := 10) (oi := { dst := some 7, op := .assign (.tmp 62), type := 4, pos := "outright.go:55", after := #[{ on := 9, ground := .data }, { on := 8, ground := .chain }, { on := 0, ground := .phase }, { on := 1, ground := .phase }, { on := 2, ground := .phase }, { on := 3, ground := .phase }, { on := 4, ground := .phase }, { on := 5, ground := .phase }, { on := 6, ground := .phase }, { on := 7, ground := .phase }, { on := 8, ground := .phase }, { on := 9, ground := .phase }], guard := none }) (v := .bool true) rfl (by kernel_rfl) (by kernel_rfl) (by kernel_rfl) (fun _ _ _ h => h) (Or.inl ⟨by rfl, by intro w hSw; clear hSw; go_simp⟩) hS3 ?_
  try simp only [Act.put, List.setIfInBounds_toArray, List.set_cons_zero, List.set_cons_succ]
  refine wpAnyH_done (by kernel_rfl) ?_ _
  have KL_ := Lib.hid (K24.out.trans (show Bel w24 v3 from hS3))
  obtain ⟨wl_, hwl_⟩ : ∃ V, V = v3 := ⟨_, rfl⟩
  subst hwl_
  go_wp2_with fail
  refine (one 0 1 2 300 _).mono ?_
  rintro e w25 ⟨rfl, kb⟩
  have K25 := Lib.hid (KL_.out.trans kb)
  clear kb
  have B_ := Lib.hid (Blk.new w25 #[.int .i64 0, .int .i64 1, .int .i64 2, .int .i64 300] 24)
  have BW_ := (Bel.refl w25).alloc (.cells #[.int .i64 0, .int .i64 1, .int .i64 2, .int .i64 300] 24)
  go_wp2_with fail
  refine (list_ _ _).mono ?_
  rintro e w0_ ⟨rfl, rfl⟩
  obtain ⟨w26, hW_⟩ : ∃ W, World.alloc w25 (.cells #[.int .i64 0, .int .i64 1, .int .i64 2, .int .i64 300] 24) = W := ⟨_, rfl⟩
  obtain ⟨gf, hg_⟩ : ∃ g, (World.heap w25).size = g := ⟨_, rfl⟩
  rw [hW_] at B_ BW_ ⊢
  rw [hg_] at B_ ⊢
  have K26 := Lib.hid (K25.out.trans BW_)
  have Rf := Lib.hid (show Rw.RS hR w26 (some ⟨gf, 0, none⟩) 1 1 [(0, 1, 2, 300)] from Rw.rs_blk hR B_.out rfl (Nat.le_refl _) rfl)
  clear hW_ hg_ BW_ B_
  go_wp2_with fail
  refine (bytesH _ 1 1 [(0, 1, 2, 300)] _ Rf.out (by decide)).mono ?_
  rintro e w27 ⟨vy, rfl, hy, kb⟩
  have K27 := Lib.hid (K26.out.trans kb)
  have Rf := Lib.hid (Rf.out.bel kb)
  rw [show (chk [(0, 1, 2, 300)]).1 = 0 by decide, show (if (0 : Int) = 0 then encL [(0, 1, 2, 300)] else []) = [1, 0, 1, 2, 172, 2] by decide] at *
  obtain ⟨Ay, cy, rfl, hys⟩ := Cd.sl_of_own hy
  have Ry := Lib.hid (show Cd.Sl _ Ay 6 cy [1, 0, 1, 2, 172, 2] from hys)
  clear hy hys
  clear kb
  have Sz := Lib.hid (show Cd.Sl (World.alloc w27 (.cells #[.int .u8 1, .int .u8 0, .int .u8 1, .int .u8 2, .int .u8 172, .int .u8 2] 5)) (some ⟨(World.heap w27).size, 0, none⟩) 6 6 [1, 0, 1, 2, 172, 2] from sl_lit w27 [1, 0, 1, 2, 172, 2])
  have BW_ := (Bel.refl w27).alloc (.cells #[.int .u8 1, .int .u8 0, .int .u8 1, .int .u8 2, .int .u8 172, .int .u8 2] 5)
  have SM := Lib.hid (same Ay (some ⟨(World.heap w27).size, 0, none⟩) 6 cy 6 6 [1, 0, 1, 2, 172, 2] _ (Ry.out.bel BW_).ints Sz.out.ints)
  go_wp2_with fail
  refine SM.out.mono ?_
  rintro e w29 ⟨rfl, rfl⟩
  obtain ⟨w29, hW_⟩ : ∃ W, World.alloc w27 (.cells #[.int .u8 1, .int .u8 0, .int .u8 1, .int .u8 2, .int .u8 172, .int .u8 2] 5) = W := ⟨_, rfl⟩
  rw [hW_] at BW_ ⊢
  have K29 := Lib.hid (K27.out.trans BW_)
  clear hW_ BW_ SM
  have Sa := Lib.hid (show Cd.Sl (World.alloc w29 (.cells #[.int .u8 1, .int .u8 0, .int .u8 1, .int .u8 1, .int .u8 5] 5)) (some ⟨(World.heap w29).size, 0, none⟩) 5 5 [1, 0, 1, 1, 5] from sl_lit w29 [1, 0, 1, 1, 5])
  have BW_ := (Bel.refl w29).alloc (.cells #[.int .u8 1, .int .u8 0, .int .u8 1, .int .u8 1, .int .u8 5] 5)
  have EQa := Lib.hid (fun V => (Rw.eql_fault 3 3 3 3 V).trans (by rw [decide_eq_true (rfl : ((3 : Int), (3 : Int)) = (3, 3))]))
  have RDX := Lib.hid (reads (some ⟨(World.heap w29).size, 0, none⟩) 5 5 [1, 0, 1, 1, 5] 1 1 none [(0, 1, 1, 0)] 4 (some (3, 3)) 3 3 _ Sa.out (by decide) (bytesC _ (by decide)) ra1 (by decide) rfl la1 rfl)
  go_wp2_with (fail)
  refine RDX.out.mono ?_
  rintro e w31 ⟨rfl, kb⟩
  have K31 := Lib.hid (K29.out.trans (BW_.trans kb))
  clear kb BW_ RDX
  have Sb := Lib.hid (show Cd.Sl (World.alloc w31 (.cells #[.int .u8 2, .int .u8 0, .int .u8 1, .int .u8 2, .int .u8 5, .int .u8 0, .int .u8 1, .int .u8 2, .int .u8 4] 5)) (some ⟨(World.heap w31).size, 0, none⟩) 9 9 [2, 0, 1, 2, 5, 0, 1, 2, 4] from sl_lit w31 [2, 0, 1, 2, 5, 0, 1, 2, 4])
  have BW_ := (Bel.refl w31).alloc (.cells #[.int .u8 2, .int .u8 0, .int .u8 1, .int .u8 2, .int .u8 5, .int .u8 0, .int .u8 1, .int .u8 2, .int .u8 4] 5)
  have EQb := Lib.hid (fun V => (Rw.eql_fault 9 8 9 8 V).trans (by rw [decide_eq_true (rfl : ((9 : Int), (8 : Int)) = (9, 8))]))
  have RDX := Lib.hid (reads (some ⟨(World.heap w31).size, 0, none⟩) 9 9 [2, 0, 1, 2, 5, 0, 1, 2, 4] 2 1 none [(0, 1, 2, 5), (0, 1, 2, 4)] 9 (some (9, 8)) 9 8 _ Sb.out (by decide) (bytesC _ (by decide)) ra2 (by decide) rfl la2 rfl)
  go_wp2_with (refine Rw.wpList_val rfl (.bool true) (fun w => Rw.exec_eql rfl _ _ rfl rfl (by kernel_rfl) EQa.out w) ?_)
  refine RDX.out.mono ?_
  rintro e w33 ⟨rfl, kb⟩
  have K33 := Lib.hid (K31.out.trans (BW_.trans kb))
  clear kb BW_ RDX
  have Sc := Lib.hid (show Cd.Sl (World.alloc w33 (.cells #[.int .u8 1, .int .u8 64] 5)) (some ⟨(World.heap w33).size, 0, none⟩) 2 2 [1, 64] from sl_lit w33 [1, 64])
  have BW_ := (Bel.refl w33).alloc (.cells #[.int .u8 1, .int .u8 64] 5)
  have EQc := Lib.hid (fun V => (Rw.eql_fault 3 1 3 1 V).trans (by rw [decide_eq_true (rfl : ((3 : Int), (1 : Int)) = (3, 1))]))
  have RDX := Lib.hid (reads (some ⟨(World.heap w33).size, 0, none⟩) 2 2 [1, 64] 1 1 none [(0, 0, 0, 0)] 1 (some (3, 1)) 3 1 _ Sc.out (by decide) (bytesC _ (by decide)) ra3 (by decide) rfl la3 rfl)
  go_wp2_with (refine Rw.wpList_val rfl (.bool true) (fun w => Rw.exec_eql rfl _ _ rfl rfl (by kernel_rfl) EQb.out w) ?_)
  refine RDX.out.mono ?_
  rintro e w35 ⟨rfl, kb⟩
  have K35 := Lib.hid (K33.out.trans (BW_.trans kb))
  clear kb BW_ RDX
  go_wp2_with (refine Rw.wpList_val rfl (.bool true) (fun w => Rw.exec_eql rfl _ _ rfl rfl (by kernel_rfl) EQc.out w) ?_)
  refine (awake _).mono ?_
  rintro e w36 ⟨rfl, kb⟩
  have K36 := Lib.hid (K35.out.trans kb)
  clear kb
  go_wp2_with fail
  go_ret
  exact ⟨rfl, K36.out⟩
end Hp
end Go.Proofs.Ytahhnfnonekbmaa
end

section
/-
  What the law HopFull answers: true, for every number and hop. Condition: the numbers are ints.
-/
namespace Go.Proofs.Ytahhnfnonekbmaa
open Go.RowKit Go.Shelf
set_option linter.unusedVariables false
set_option linter.unusedSimpArgs false
namespace Hp
open Kk Pm

theorem own_lt_ {w : World} {base b : Nat} {v : Value} {l : List R4} (h : OwnH w base v l) (hb : v.ownBlock = some b) : b < w.heap.size := (Rw.own_blk h hb).elim fun _ hC => hC.lt
theorem own_addr_ {w : World} {base : Nat} {A : Option Addr} {n c : Nat} {l : List R4} (h : OwnH w base (.slice A n c) l) {x : Addr} (hx : A = some x) : (Value.slice A n c).ownBlock = some x.block := by subst hx; rfl
/-- One of the numbers from 0 on below n, by any number. -/
theorem pick (x n : Int) (w : World) (x0 : -9223372036854775808 ≤ x) (x1 : x ≤ 9223372036854775807) (n0 : 0 < n) (n1 : n ≤ 4611686018427387904) :
    Calls Try.prog 25 #[.int .i64 x, .int .i64 n] w fun e w' => e = .returned (.int .i64 (x % n)) ∧ w = w' := by
  have t0 := Int.emod_nonneg x (b := n) (by omega)
  have t1 := Int.emod_lt_of_pos x n0
  have hb : (x.tmod n = x % n ∨ (x.tmod n < 0 ∧ x.tmod n + n = x % n)) ∧ -n < x.tmod n ∧ x.tmod n < n := by
    rw [Int.tmod_eq_emod]
    split <;> rename_i h
    · exact ⟨.inl (by omega), by omega, by omega⟩
    · have hne : x % n ≠ 0 := fun e => h (.inr (Int.dvd_of_emod_eq_zero e))
      exact ⟨.inr ⟨by omega, by omega⟩, by omega, by omega⟩
  obtain ⟨ht, b0⟩ := hb
  obtain ⟨T, hT⟩ : ∃ T, x.tmod n = T := ⟨_, rfl⟩
  have hw : IntKind.i64.wrap T = T := IntWalk.i64_in _ (by omega)
  rw [hT] at ht b0
  obtain ⟨E, hE⟩ : ∃ E, x % n = E := ⟨_, rfl⟩
  rw [hE] at ht t0 t1 ⊢
  clear hE
  rcases ht with h | ⟨h1, h2⟩
  · subst h
    go_enter Try.func25, Try.ntmps25
    go_wp2
    go_ret
    exact ⟨rfl, rfl⟩
  · have H2 := Lib.hid h2
    clear h2
    go_enter Try.func25, Try.ntmps25
    go_wp2
    go_ret
    exact ⟨by rw [← H2.out]; rfl, rfl⟩
def fullR (i : Nat) : R4 := ((i : Int) % 64, (i : Int) / 64 % 2, 2 + (i : Int) / 128 % 30, 1 + (i : Int) / 500)
def fullL (n : Nat) : List R4 := (List.range n).map fullR
theorem full_len (n : Nat) : (fullL n).length = n := by simp [fullL]
theorem full_next (n : Nat) : fullL (n + 1) = fullL n ++ [fullR n] := by simp [fullL, List.range_succ]
theorem full_w3 (n : Nat) (hn : n ≤ 1000000) : ∀ r ∈ fullL n, W3 r := fun r hr => by
  obtain ⟨i, hi, rfl⟩ := List.mem_map.1 hr
  have := List.mem_range.1 hi
  unfold fullR W3 I64
  omega
set_option maxRecDepth 100000 in
set_option maxHeartbeats 8000000 in
theorem fullLaw (z x1 x2 x3 x4 m : Int) (w : World) (z0 : -9223372036854775808 ≤ z) (z1 : z ≤ 9223372036854775807) :
    Calls Try.prog 4 #[.int .i64 z, .agg #[.int .i64 x1, .int .i64 x2, .int .i64 x3, .int .i64 x4], .int .i64 m] w fun e w' => e = .returned (.bool true) ∧ Bel w w' := by
  have P0 := Lib.hid (Blk.new w #[.int .i64 x1, .int .i64 x2, .int .i64 x3, .int .i64 x4] 24)
  obtain ⟨W, hW⟩ : ∃ W, w.alloc (.cells #[.int .i64 x1, .int .i64 x2, .int .i64 x3, .int .i64 x4] 24) = W := ⟨_, rfl⟩
  have BW := Lib.hid (show Bel w W by rw [← hW]; exact (Bel.refl w).alloc _)
  rw [hW] at P0
  have PK := Lib.hid (pick z 9 W z0 z1 (by decide) (by decide))
  obtain ⟨N, hN, hN2⟩ : ∃ N : Nat, 4090 + z % 9 = (N : Int) ∧ N ≤ 5000 := ⟨(4090 + z % 9).toNat, by omega, by omega⟩
  have hwr : IntKind.i64.wrap (4090 + z % 9) = (N : Int) := by rw [IntWalk.i64_in _ (by omega)]; exact hN
  clear z0 z1 hN
  go_enter Try.func4, Try.ntmps4
  go_upto_region 1 with fail
  try rw [hW]
  obtain ⟨p, hp⟩ : ∃ p, w.heap.size = p := ⟨_, rfl⟩
  rw [hp] at P0 ⊢
  clear hW hp
  go_wp2_with fail
  refine PK.out.mono ?_
  rintro e w1 ⟨rfl, rfl⟩
  clear PK
  go_wp2_with fail
  go_loopw [7, 8] (fun s7 s8 wr => ∃ k : Nat, s8 = .int .i64 k ∧ k ≤ N ∧ Hid (OwnH wr W.heap.size s7 (fullL k)) ∧ Hid (Bel W wr)) (fun _ s8 _ => N - (intOf s8).toNat)
  case atStart => exact ⟨0, rfl, Nat.zero_le _, Lib.hid (Rw.OwnR.nil_ _ _ _ _), Lib.hid (Bel.refl _)⟩
  case round =>
    obtain ⟨k, rfl, hk, ho, hh⟩ := hrel
    by_cases hlt : k < N
    · have hlt3 : (k : Int) < N := by omega
      have HX := Lib.hid (Rw.rs_one hR (r := fullR k) (Blk.new wr #[.int .i64 ((k : Int) % 64), .int .i64 ((k : Int) / 64 % 2), .int .i64 (2 + (k : Int) / 128 % 30), .int .i64 (1 + (k : Int) / 500)] 24))
      have HOA := Lib.hid (ho.out.bel ((Bel.refl wr).alloc (.cells #[.int .i64 ((k : Int) % 64), .int .i64 ((k : Int) / 64 % 2), .int .i64 (2 + (k : Int) / 128 % 30), .int .i64 (1 + (k : Int) / 500)] 24)))
      have HSZ := Lib.hid (Below.size hh.out)
      have HFL := Lib.hid (full_len k)
      go_wp2_with (at_builtin; refine Rw.append_R hR rfl _ _ _ 24 rfl underH zero_h rfl (by decide) W.heap.size _ (fullL k) rfl HOA.out (some ⟨wr.heap.size, 0, none⟩) 1 1 [fullR k] rfl HX.out (by have := HFL.out; omega) (by have := HSZ.out; simp; omega) ?_; intro v' w1 hown' hgrow)
      have HO2 := Lib.hid hown'
      have HB2 := Lib.hid (show Bel W w1 from Kk.Bel.grown (hh.out.alloc _) hgrow (fun k hk => (HOA.out.lt k hk).1))
      clear hown' hgrow
      go_wp2_with fail
      go_roundw
      case rel => exact ⟨k + 1, by go_num, by omega, Lib.hid (by rw [full_next]; exact HO2.out), HB2⟩
      case measure => simp [intOf]; omega
    · obtain rfl : k = N := by omega
      obtain ⟨A, c, hv, hrs⟩ := ho.out.slice
      subst hv
      rw [full_len] at hrs ⊢
      have HRS := Lib.hid hrs
      have H3 := Lib.hid (full_w3 k (by omega))
      have HLL := Lib.hid (full_len k)
      have P1 := Lib.hid (P0.out.bel hh.out)
      have BWR := Lib.hid (BW.out.trans hh.out)
      obtain ⟨l, hl⟩ : ∃ l, fullL k = l := ⟨_, rfl⟩
      rw [hl] at HRS H3 HLL
      clear hl hrs ho hh P0 BW hwr
      have HK := Lib.hid hN2
      have C1 := Lib.hid (check A k c l wr HRS.out (by omega))
      have C2 := Lib.hid (fun V (hv : Bel wr V) => checkR A k c l V (HRS.out.bel hv) (by have := HK.out; omega))
      have AD := Lib.hid (fun V (hv : Bel wr V) => add A k c l x1 x2 x3 x4 m V (HRS.out.bel hv) (by have := HK.out; omega) H3.out)
      have AD2 := Lib.hid (fun V (hv : Bel wr V) => addR A k c l x1 x2 x3 x4 m V (HRS.out.bel hv) (by have := HK.out; omega))
      have BY := Lib.hid (fun V (hv : Bel wr V) => bytesH A k c l V (HRS.out.bel hv) (by have := HK.out; omega))
      have BY2 := Lib.hid (fun V (hv : Bel wr V) => bytesHR A k c l V (HRS.out.bel hv) (by have := HK.out; omega))
      have HLA := Lib.hid (show (addL l (x1, x2, x3, x4) m).length ≤ 1000000 from by
        unfold addL; split
        · rw [List.length_append, HLL.out]; simp; omega
        · simp)
      obtain ⟨LA, hLA⟩ : ∃ x, addL l (x1, x2, x3, x4) m = x := ⟨_, rfl⟩
      obtain ⟨EA, hEA⟩ : ∃ x, addE l (x1, x2, x3, x4) m = x := ⟨_, rfl⟩
      obtain ⟨e1, he1⟩ : ∃ e, (chk l).1 = e := ⟨_, rfl⟩
      obtain ⟨e2, he2⟩ : ∃ e, (chk l).2 = e := ⟨_, rfl⟩
      obtain ⟨zs, hzs⟩ : ∃ zs, (if (chk l).1 = 0 then encL l else []) = zs := ⟨_, rfl⟩
      unfold AddR at AD AD2
      rw [hLA, hEA] at AD AD2
      rw [hLA] at HLA
      rw [hzs, he1] at BY BY2
      rw [he1, he2] at C1 C2
      clear hLA hEA he1 he2 hzs
      go_wp2_with fail
      refine C1.out.mono ?_
      rintro e w2 ⟨rfl, kb⟩
      have K2 := Lib.hid kb
      clear kb C1
      go_wp2_with fail
      refine (C2.out _ K2.out).mono ?_
      rintro e w3 ⟨rfl, kb⟩
      have K3 := Lib.hid (K2.out.trans kb)
      have P3 := Lib.hid (P1.out.bel K3.out)
      clear kb C2
      have g0 := P3.out.cell 0 rfl
      have g1 := P3.out.cell 1 rfl
      have g2 := P3.out.cell 2 rfl
      have g3 := P3.out.cell 3 rfl
      go_wp2_with fail
      refine (AD.out _ K3.out).mono ?_
      rintro e w4 ⟨va, rfl, ha, kb⟩
      have HA4 := Lib.hid ha
      have K4 := Lib.hid (K3.out.trans kb)
      have P4 := Lib.hid (P3.out.bel kb)
      clear kb ha AD g0 g1 g2 g3
      have g0 := P4.out.cell 0 rfl
      have g1 := P4.out.cell 1 rfl
      have g2 := P4.out.cell 2 rfl
      have g3 := P4.out.cell 3 rfl
      go_wp2_with fail
      refine (AD2.out _ K4.out).mono ?_
      rintro e w5 ⟨vb, rfl, hb, kb⟩
      have HB5 := Lib.hid hb
      have HA5 := Lib.hid (HA4.out.bel kb)
      have K5 := Lib.hid (K4.out.trans kb)
      have Z45 := Lib.hid (Below.size kb)
      clear kb hb AD2 g0 g1 g2 g3
      go_wp2_with fail
      refine (BY.out _ K5.out).mono ?_
      rintro e w6 ⟨vy, rfl, hy⟩
      have HY6 := Lib.hid hy
      have HA6 := Lib.hid (HA5.out.bel hy.2)
      have HB6 := Lib.hid (HB5.out.bel hy.2)
      have K6 := Lib.hid (K5.out.trans hy.2)
      clear hy BY
      go_wp2_with fail
      refine (BY2.out _ K6.out).mono ?_
      rintro e w7 ⟨vz, rfl, hz⟩
      have HZ7 := Lib.hid hz
      have HY7 := Lib.hid (Kk.owns_bel HY6.out.1 hz.2)
      have HA7 := Lib.hid (HA6.out.bel hz.2)
      have HB7 := Lib.hid (HB6.out.bel hz.2)
      have K7 := Lib.hid (K6.out.trans hz.2)
      have Z56 := Lib.hid (Below.size HY6.out.2)
      clear hz BY2
      obtain ⟨Aa, ca, rfl, har⟩ := HA7.out.slice
      obtain ⟨Ab, cb, rfl, hbr⟩ := HB7.out.slice
      have HYA := Lib.hid (fun (i : Nat) (hk : 0 < LA.length ∧ ∃ x : Addr, Aa = some x ∧ x.block = i) => show w3.heap.size ≤ i ∧ i < w4.heap.size from by
        obtain ⟨_, x, hx, rfl⟩ := hk
        have e := own_addr_ HA4.out hx
        exact ⟨Rw.own_ge HA4.out e, own_lt_ HA4.out e⟩)
      have TA := Lib.hid (told Aa Ab LA.length ca LA.length cb LA LA w7 har hbr (lay_own HA7.out) (by have := HLA.out; omega) (by have := HLA.out; omega))
      rw [decide_eq_true (rfl : LA = LA)] at TA
      clear har hbr
      go_wp2_with fail
      refine TA.out.mono ?_
      rintro e w8 ⟨rfl, Wa, kbw, ov⟩
      have OV := Lib.hid ov
      have HY8 := Lib.hid (Kk.Kep.owns ov.kep (fun i hi hh => by have h1 := (HYA.out i hh).2; have h2 := (HY6.out.1.lt i hi).1; have := Z45.out; omega) (Kk.owns_bel HY7.out kbw))
      have HZ8 := Lib.hid (Kk.Kep.owns ov.kep (fun i hi hh => by have h1 := (HYA.out i hh).2; have h2 := (HZ7.out.1.lt i hi).1; have := Z45.out; have := Z56.out; omega) (Kk.owns_bel HZ7.out.1 kbw))
      have K8 := Lib.hid (show Bel w w8 from Kep.bel ((BWR.out.trans K7.out).trans kbw) ov.kep (fun i hh => Nat.le_trans (Below.size (BWR.out.trans K3.out)) (HYA.out i hh).1))
      clear kbw ov TA
      obtain ⟨Ay, cy, rfl, hys⟩ := sl_of_own HY8.out
      obtain ⟨Az, cz, rfl, hzs⟩ := sl_of_own HZ8.out
      have SM := Lib.hid (same Ay Az zs.length cy zs.length cz zs w8 hys.ints hzs.ints)
      clear hys hzs
      go_wp2_with fail
      refine SM.out.mono ?_
      rintro e w9 ⟨rfl, rfl⟩
      clear SM
      go_wp2_with fail
      refine (awake _).mono ?_
      rintro e w10 ⟨rfl, kb⟩
      have K10 := Lib.hid (K8.out.trans kb)
      clear kb
      go_wp2_with fail
      go_ret
      exact ⟨rfl, K10.out⟩
theorem full (z x1 x2 x3 x4 m : Int) (w : World) (z0 : -9223372036854775808 ≤ z) (z1 : z ≤ 9223372036854775807) (a0 : -9223372036854775808 ≤ x1) (a1 : x1 ≤ 9223372036854775807) (b0 : -9223372036854775808 ≤ x2) (b1 : x2 ≤ 9223372036854775807)
    (c0 : -9223372036854775808 ≤ x3) (c1 : x3 ≤ 9223372036854775807) (d0 : -9223372036854775808 ≤ x4) (d1 : x4 ≤ 9223372036854775807) (m0 : -9223372036854775808 ≤ m) (m1 : m ≤ 9223372036854775807) :
    Calls Try.prog 4 #[.int .i64 z, .agg #[.int .i64 x1, .int .i64 x2, .int .i64 x3, .int .i64 x4], .int .i64 m] w fun e w' => e = .returned (.bool true) ∧ Bel w w' := fullLaw z x1 x2 x3 x4 m w z0 z1
end Hp
end Go.Proofs.Ytahhnfnonekbmaa
end

section
/-
  What made of the laws answers: the list of the numbers, each hop Added with one most. Conditions: at most 60 numbers, ints; the most from 1 to 16.
-/
namespace Go.Proofs.Ytahhnfnonekbmaa
open Go.RowKit Go.Shelf
set_option linter.unusedVariables false
set_option linter.unusedSimpArgs false
namespace Hp
open Kk Pm

theorem mi_w3 {m : Int} {k : Nat} {s : List R4 × Int} (h : Mi m k s) : ∀ r ∈ s.1, W3 r := fun r hr => by
  have := (srt_le s.1 0 h.srt r hr).1
  obtain ⟨a, b, c, d⟩ := r
  have := (may_iff a b c d).1 this
  unfold W3 I64
  omega
set_option maxRecDepth 100000 in
set_option maxHeartbeats 8000000 in
theorem made (A : Option Addr) (n c : Nat) (zs : List Int) (m : Int) (w : World) (hi : Ints .i64 w A n zs) (hn : n ≤ 60) (hz : ∀ z ∈ zs, -9223372036854775808 ≤ z ∧ z ≤ 9223372036854775807) (hm : 1 ≤ m) (hm2 : m ≤ 16) :
    Calls Try.prog 37 #[.slice A n c, .int .i64 m] w fun e w' => ∃ v, e = .returned (.tuple #[v, .bool true]) ∧ OwnH w' w.heap.size v (mad m zs).1 ∧ Bel w w' := by
  have HI := Lib.hid hi
  have HLN := Lib.hid (show zs.length = n from hi.1)
  have HZ := Lib.hid hz
  have HMI := Lib.hid (fun k (hk : k ≤ n) => mi_take hm zs (by have := hi.1; omega) k (by have := hi.1; omega))
  clear hi hz
  go_enter Try.func37, Try.ntmps37
  go_wp2_with fail
  go_loopw [6, 7, 8] (fun s6 s7 s8 wr => ∃ (k : Nat) (L : List R4) (a : Int), s8 = .int .i64 k ∧ k ≤ n ∧ s7 = .int .i64 a ∧ Hid (mad m (zs.take k) = (L, a)) ∧ Hid (OwnH wr w.heap.size s6 L) ∧ Hid (Bel w wr)) (fun _ _ s8 _ => n - (intOf s8).toNat)
  case atStart => exact ⟨0, [], 1, rfl, Nat.zero_le _, rfl, Lib.hid rfl, Lib.hid (Rw.OwnR.nil_ _ _ _ _), Lib.hid (Bel.refl _)⟩
  case round =>
    obtain ⟨k, L, a, rfl, hk, rfl, hs, ho, hh⟩ := hrel
    by_cases hlt : k < n
    · obtain ⟨b, o, rfl, hb, hrow⟩ := (HI.out.bel hh.out).cell hlt
      obtain ⟨z, hz⟩ : ∃ z, zs[k]? = some z := ⟨_, List.getElem?_eq_getElem (by rw [HLN.out]; exact hlt)⟩
      have hzb := HZ.out z (List.mem_of_getElem? hz)
      have hc0 : wr.cell? ⟨b, o + k, none⟩ = some (.int .i64 z) := by
        have h1 : zs.getD k 0 = z := by rw [List.getD_eq_getElem?_getD, hz]; rfl
        rw [← h1]
        exact hrow
      have PK := Lib.hid (pick z 4000 wr hzb.1 hzb.2 (by decide) (by decide))
      have MI := Lib.hid (show Mi m k (L, a) from by rw [← hs.out]; exact HMI.out k (by omega))
      have AE := Lib.hid (mad_add MI.out (by omega) hm hm2 z)
      have NX := Lib.hid (show mad m (zs.take (k + 1)) = mstep m (L, a) z from by rw [mad_take hz, hs.out])
      obtain ⟨Q, hN, hQ⟩ : ∃ Q : Nat, z % 4000 = (Q : Int) ∧ Q < 4000 := ⟨(z % 4000).toNat, by omega, by omega⟩
      have HNB := Lib.hid (show 0 ≤ (Q : Int) ∧ (Q : Int) < 4000 by omega)
      have HAB := Lib.hid (show 1 ≤ a ∧ a ≤ 1 + 3 * k from ⟨MI.out.lo, MI.out.hi⟩)
      have hlt3 : (k : Int) < n := by omega
      have hlt0 : (0 : Int) ≤ k := by omega
      rw [hN] at PK AE
      have NX := Lib.hid (show mad m (zs.take (k + 1)) = (if m ≤ cnt L (hopN (Q : Int) 0).1 (hopN (Q : Int) 0).2.1 (hopN (Q : Int) 0).2.2.1 then L else L ++ [hopN (Q : Int) (a + (Q : Int) % 4)], a + (Q : Int) % 4) from by rw [NX.out]; unfold mstep; rw [hN])
      have LL := Lib.hid (show L.length ≤ 60 from by have := MI.out.len; have h2 : L.length ≤ k := this; omega)
      have W3L := Lib.hid (mi_w3 MI.out)
      clear hrow hz hzb hN hs
      have hwr : IntKind.i64.wrap (a + (Q : Int) % 4) = a + (Q : Int) % 4 := IntWalk.i64_in _ (by have := HAB.out; omega)
      go_wp2_with fail
      refine PK.out.mono ?_
      rintro e w1 ⟨rfl, rfl⟩
      clear PK hc0
      obtain ⟨b4, hb4⟩ : ∃ x, a + (Q : Int) % 4 = x := ⟨_, rfl⟩
      have HB4 := Lib.hid hb4
      have AE := Lib.hid (show addE L ((Q : Int) / 4 % 3, (Q : Int) / 12 % 3, 3 + (Q : Int) / 36 % 2, b4) m = (if m ≤ (cnt L (hopN (Q : Int) 0).1 (hopN (Q : Int) 0).2.1 (hopN (Q : Int) 0).2.2.1 : Int) then 22 else 0) from by rw [← hb4]; exact AE.out)
      rw [hb4] at hwr
      go_upto_region 8 with fail
      try rw [hb4]
      clear hb4
      go_wp2_with fail
      refine (one ((Q : Int) / 4 % 3) ((Q : Int) / 12 % 3) (3 + (Q : Int) / 36 % 2) b4 _).mono ?_
      rintro e w2 ⟨rfl, kb⟩
      have K2 := Lib.hid (hh.out.trans kb)
      have O2 := Lib.hid (ho.out.bel kb)
      clear kb
      go_upto_region 9 with fail
      have X0 := Blk.new w2 #[.int .i64 ((Q : Int) / 4 % 3), .int .i64 ((Q : Int) / 12 % 3), .int .i64 (3 + (Q : Int) / 36 % 2), .int .i64 b4] 24
      have XB := (Bel.refl w2).alloc (.cells #[.int .i64 ((Q : Int) / 4 % 3), .int .i64 ((Q : Int) / 12 % 3), .int .i64 (3 + (Q : Int) / 36 % 2), .int .i64 b4] 24)
      obtain ⟨w3, hw3⟩ : ∃ V, w2.alloc (.cells #[.int .i64 ((Q : Int) / 4 % 3), .int .i64 ((Q : Int) / 12 % 3), .int .i64 (3 + (Q : Int) / 36 % 2), .int .i64 b4] 24) = V := ⟨_, rfl⟩
      obtain ⟨g, hg⟩ : ∃ g, w2.heap.size = g := ⟨_, rfl⟩
      rw [hw3] at X0 XB ⊢
      rw [hg] at X0 ⊢
      have X3 := Lib.hid X0
      have K3 := Lib.hid (K2.out.trans XB)
      have O3 := Lib.hid (O2.out.bel XB)
      clear hw3 hg X0 XB K2 O2
      obtain ⟨AL, cL, hv, hrs⟩ := O3.out.slice
      subst hv
      have HRS := Lib.hid hrs
      clear hrs
      have AD := Lib.hid (add AL L.length cL L ((Q : Int) / 4 % 3) ((Q : Int) / 12 % 3) (3 + (Q : Int) / 36 % 2) b4 m w3 HRS.out (by have := LL.out; omega) W3L.out)
      have CT := Lib.hid (fun V (hv : Bel w3 V) => count AL L.length cL L ((Q : Int) / 4 % 3) ((Q : Int) / 12 % 3) (3 + (Q : Int) / 36 % 2) V (HRS.out.bel hv) (by have := LL.out; omega) W3L.out (by have := HNB.out; unfold I64; omega) (by have := HNB.out; unfold I64; omega) (by have := HNB.out; unfold I64; omega))
      obtain ⟨C, hC⟩ : ∃ C, cnt L ((Q : Int) / 4 % 3) ((Q : Int) / 12 % 3) (3 + (Q : Int) / 36 % 2) = C := ⟨_, rfl⟩
      rw [hC] at CT
      unfold AddR at AD
      have x0 := X3.out.cell 0 rfl
      have x1 := X3.out.cell 1 rfl
      have x2 := X3.out.cell 2 rfl
      have x3 := X3.out.cell 3 rfl
      by_cases hc : m ≤ (C : Int)
      · have E22 : addE L ((Q : Int) / 4 % 3, (Q : Int) / 12 % 3, 3 + (Q : Int) / 36 % 2, b4) m = 22 := AE.out.trans (if_pos (by show m ≤ (cnt L ((Q : Int) / 4 % 3) ((Q : Int) / 12 % 3) (3 + (Q : Int) / 36 % 2) : Int); rw [hC]; exact hc))
        have NXF := Lib.hid (NX.out.trans (by rw [if_pos (show m ≤ (cnt L (hopN (Q : Int) 0).1 (hopN (Q : Int) 0).2.1 (hopN (Q : Int) 0).2.2.1 : Int) by show m ≤ (cnt L ((Q : Int) / 4 % 3) ((Q : Int) / 12 % 3) (3 + (Q : Int) / 36 % 2) : Int); rw [hC]; exact hc)]))
        rw [E22] at AD
        clear E22 hC NX AE
        go_wp2_with fail
        refine AD.out.mono ?_
        rintro e w4 ⟨va, rfl, _, kb⟩
        have K4 := Lib.hid kb
        have X4 := Lib.hid (X3.out.bel kb)
        have O4 := Lib.hid (O3.out.bel kb)
        clear kb AD x0 x1 x2 x3
        have x0 := X4.out.cell 0 rfl
        have x1 := X4.out.cell 1 rfl
        have x2 := X4.out.cell 2 rfl
        go_wp2_with fail
        refine (CT.out _ K4.out).mono ?_
        rintro e w5 ⟨rfl, kb⟩
        have K5 := Lib.hid ((K3.out.trans K4.out).trans kb)
        have O5 := Lib.hid (O4.out.bel kb)
        clear kb CT x0 x1 x2
        go_wp2_with fail
        go_roundw
        case rel => exact ⟨k + 1, L, b4, by go_num, by omega, rfl, Lib.hid (by rw [NXF.out, HB4.out]), O5, K5⟩
        case measure => simp [intOf]; omega
      · have E0 : addE L ((Q : Int) / 4 % 3, (Q : Int) / 12 % 3, 3 + (Q : Int) / 36 % 2, b4) m = 0 := AE.out.trans (if_neg (by show ¬ m ≤ (cnt L ((Q : Int) / 4 % 3) ((Q : Int) / 12 % 3) (3 + (Q : Int) / 36 % 2) : Int); rw [hC]; exact hc))
        have NXF := Lib.hid (NX.out.trans (by rw [if_neg (show ¬ m ≤ (cnt L (hopN (Q : Int) 0).1 (hopN (Q : Int) 0).2.1 (hopN (Q : Int) 0).2.2.1 : Int) by show ¬ m ≤ (cnt L ((Q : Int) / 4 % 3) ((Q : Int) / 12 % 3) (3 + (Q : Int) / 36 % 2) : Int); rw [hC]; exact hc)]))
        rw [E0, addL_eq E0] at AD
        clear E0 hC NX AE
        go_wp2_with fail
        refine AD.out.mono ?_
        rintro e w4 ⟨va, rfl, ha, kb⟩
        have K4 := Lib.hid kb
        have X4 := Lib.hid (X3.out.bel kb)
        have O4 := Lib.hid (ha.mono (Below.size K3.out))
        clear kb ha AD x0 x1 x2 x3
        have x0 := X4.out.cell 0 rfl
        have x1 := X4.out.cell 1 rfl
        have x2 := X4.out.cell 2 rfl
        go_wp2_with fail
        refine (CT.out _ K4.out).mono ?_
        rintro e w5 ⟨rfl, kb⟩
        have K5 := Lib.hid ((K3.out.trans K4.out).trans kb)
        have O5 := Lib.hid (O4.out.bel kb)
        clear kb CT x0 x1 x2
        go_wp2_with fail
        go_roundw
        case rel => exact ⟨k + 1, L ++ [((Q : Int) / 4 % 3, (Q : Int) / 12 % 3, 3 + (Q : Int) / 36 % 2, b4)], b4, by go_num, by omega, rfl, Lib.hid (by rw [NXF.out, HB4.out]; rfl), O5, K5⟩
        case measure => simp [intOf]; omega
    · obtain rfl : k = n := by omega
      have HL := Lib.hid (show zs.take k = zs from List.take_of_length_le (by rw [HLN.out]; exact Nat.le_refl _))
      rw [HL.out] at hs
      go_wp2_with fail
      go_ret2
      exact ⟨_, rfl, by rw [hs.out]; exact ho.out, hh.out⟩
end Hp
end Go.Proofs.Ytahhnfnonekbmaa
end
