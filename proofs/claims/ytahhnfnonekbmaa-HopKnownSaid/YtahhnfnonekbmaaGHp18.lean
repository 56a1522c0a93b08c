/-
  What HopKnown answers: true. No condition.
-/
import Derived.Test.YtahhnfnonekbmaaQI
namespace Go.Proofs.Ytahhnfnonekbmaa
open Go.RowKit Go.Shelf
set_option linter.unusedVariables false
set_option linter.unusedSimpArgs false
namespace Hp
open Kk Pm

set_option maxRecDepth 100000 in
set_option maxHeartbeats 16000000 in
theorem known (w : World) : Calls Try.prog 6 #[] w fun e w' => e = .returned (.bool true) ∧ Bel w w' := by
  have K0 := Lib.hid (Bel.refl w)
  go_enter Try.func6, Try.ntmps6
  go_wp2_with fail
  refine (one 0 1 2 5 _).mono ?_
  rintro e w1 ⟨rfl, kb⟩
  have K1 := Lib.hid (K0.out.trans kb)
  clear kb
  go_wp2_with fail
  refine (one 0 1 2 4 _).mono ?_
  rintro e w2 ⟨rfl, kb⟩
  have K2 := Lib.hid (K1.out.trans kb)
  clear kb
  have B_ := Lib.hid (Blk.new w2 #[.int .i64 0, .int .i64 1, .int .i64 2, .int .i64 5, .int .i64 0, .int .i64 1, .int .i64 2, .int .i64 4] 24)
  have BW_ := (Bel.refl w2).alloc (.cells #[.int .i64 0, .int .i64 1, .int .i64 2, .int .i64 5, .int .i64 0, .int .i64 1, .int .i64 2, .int .i64 4] 24)
  go_wp2_with fail
  refine (list_ _ _).mono ?_
  rintro e w0_ ⟨rfl, rfl⟩
  obtain ⟨w3, hW_⟩ : ∃ W, World.alloc w2 (.cells #[.int .i64 0, .int .i64 1, .int .i64 2, .int .i64 5, .int .i64 0, .int .i64 1, .int .i64 2, .int .i64 4] 24) = W := ⟨_, rfl⟩
  obtain ⟨ga, hg_⟩ : ∃ g, (World.heap w2).size = g := ⟨_, rfl⟩
  rw [hW_] at B_ BW_ ⊢
  rw [hg_] at B_ ⊢
  have K3 := Lib.hid (K2.out.trans BW_)
  have Ra := Lib.hid (show Rw.RS hR w3 (some ⟨ga, 0, none⟩) 2 2 [(0, 1, 2, 5), (0, 1, 2, 4)] from Rw.rs_blk hR B_.out rfl (Nat.le_refl _) rfl)
  clear hW_ hg_ BW_ B_
  go_wp2_with fail
  refine (checks _ 2 2 [(0, 1, 2, 5), (0, 1, 2, 4)] 9 1 _ Ra.out (by decide)).mono ?_
  rintro e w4 ⟨rfl, kb⟩
  have K4 := Lib.hid (K3.out.trans kb)
  have Ra := Lib.hid (Ra.out.bel kb)
  rw [show ((9 : Int) == (chk [(0, 1, 2, 5), (0, 1, 2, 4)]).1 && (((chk [(0, 1, 2, 5), (0, 1, 2, 4)]).2 : Int) == 1)) = true by decide]
  clear kb
  go_wp2_with fail
  refine (one 0 1 1 5 _).mono ?_
  rintro e w5 ⟨rfl, kb⟩
  have K5 := Lib.hid (K4.out.trans kb)
  clear kb
  have B_ := Lib.hid (Blk.new w5 #[.int .i64 0, .int .i64 1, .int .i64 1, .int .i64 5] 24)
  have BW_ := (Bel.refl w5).alloc (.cells #[.int .i64 0, .int .i64 1, .int .i64 1, .int .i64 5] 24)
  go_wp2_with fail
  refine (list_ _ _).mono ?_
  rintro e w0_ ⟨rfl, rfl⟩
  obtain ⟨w6, hW_⟩ : ∃ W, World.alloc w5 (.cells #[.int .i64 0, .int .i64 1, .int .i64 1, .int .i64 5] 24) = W := ⟨_, rfl⟩
  obtain ⟨gb, hg_⟩ : ∃ g, (World.heap w5).size = g := ⟨_, rfl⟩
  rw [hW_] at B_ BW_ ⊢
  rw [hg_] at B_ ⊢
  have K6 := Lib.hid (K5.out.trans BW_)
  have Rb := Lib.hid (show Rw.RS hR w6 (some ⟨gb, 0, none⟩) 1 1 [(0, 1, 1, 5)] from Rw.rs_blk hR B_.out rfl (Nat.le_refl _) rfl)
  clear hW_ hg_ BW_ B_
  go_wp2_with fail
  refine (checks _ 1 1 [(0, 1, 1, 5)] 3 0 _ Rb.out (by decide)).mono ?_
  rintro e w7 ⟨rfl, kb⟩
  have K7 := Lib.hid (K6.out.trans kb)
  have Rb := Lib.hid (Rb.out.bel kb)
  rw [show ((3 : Int) == (chk [(0, 1, 1, 5)]).1 && (((chk [(0, 1, 1, 5)]).2 : Int) == 0)) = true by decide]
  clear kb
  go_wp2_with fail
  refine (one 0 1 2 5 _).mono ?_
  rintro e w8 ⟨rfl, kb⟩
  have K8 := Lib.hid (K7.out.trans kb)
  clear kb
  go_wp2_with fail
  refine (one 64 1 2 4 _).mono ?_
  rintro e w9 ⟨rfl, kb⟩
  have K9 := Lib.hid (K8.out.trans kb)
  clear kb
  have B_ := Lib.hid (Blk.new w9 #[.int .i64 0, .int .i64 1, .int .i64 2, .int .i64 5, .int .i64 64, .int .i64 1, .int .i64 2, .int .i64 4] 24)
  have BW_ := (Bel.refl w9).alloc (.cells #[.int .i64 0, .int .i64 1, .int .i64 2, .int .i64 5, .int .i64 64, .int .i64 1, .int .i64 2, .int .i64 4] 24)
  go_wp2_with fail
  refine (list_ _ _).mono ?_
  rintro e w0_ ⟨rfl, rfl⟩
  obtain ⟨w10, hW_⟩ : ∃ W, World.alloc w9 (.cells #[.int .i64 0, .int .i64 1, .int .i64 2, .int .i64 5, .int .i64 64, .int .i64 1, .int .i64 2, .int .i64 4] 24) = W := ⟨_, rfl⟩
  obtain ⟨gc, hg_⟩ : ∃ g, (World.heap w9).size = g := ⟨_, rfl⟩
  rw [hW_] at B_ BW_ ⊢
  rw [hg_] at B_ ⊢
  have K10 := Lib.hid (K9.out.trans BW_)
  have Rc := Lib.hid (show Rw.RS hR w10 (some ⟨gc, 0, none⟩) 2 2 [(0, 1, 2, 5), (64, 1, 2, 4)] from Rw.rs_blk hR B_.out rfl (Nat.le_refl _) rfl)
  clear hW_ hg_ BW_ B_
  go_wp2_with fail
  refine (checks _ 2 2 [(0, 1, 2, 5), (64, 1, 2, 4)] 3 1 _ Rc.out (by decide)).mono ?_
  rintro e w11 ⟨rfl, kb⟩
  have K11 := Lib.hid (K10.out.trans kb)
  have Rc := Lib.hid (Rc.out.bel kb)
  rw [show ((3 : Int) == (chk [(0, 1, 2, 5), (64, 1, 2, 4)]).1 && (((chk [(0, 1, 2, 5), (64, 1, 2, 4)]).2 : Int) == 1)) = true by decide]
  clear kb
  go_wp2_with fail
  refine (one 0 1 2 5 _).mono ?_
  rintro e w12 ⟨rfl, kb⟩
  have K12 := Lib.hid (K11.out.trans kb)
  clear kb
  have B_ := Lib.hid (Blk.new w12 #[.int .i64 0, .int .i64 1, .int .i64 2, .int .i64 5] 24)
  have BW_ := (Bel.refl w12).alloc (.cells #[.int .i64 0, .int .i64 1, .int .i64 2, .int .i64 5] 24)
  go_wp2_with fail
  refine (list_ _ _).mono ?_
  rintro e w0_ ⟨rfl, rfl⟩
  obtain ⟨w13, hW_⟩ : ∃ W, World.alloc w12 (.cells #[.int .i64 0, .int .i64 1, .int .i64 2, .int .i64 5] 24) = W := ⟨_, rfl⟩
  obtain ⟨gd, hg_⟩ : ∃ g, (World.heap w12).size = g := ⟨_, rfl⟩
  rw [hW_] at B_ BW_ ⊢
  rw [hg_] at B_ ⊢
  have K13 := Lib.hid (K12.out.trans BW_)
  have Rd := Lib.hid (show Rw.RS hR w13 (some ⟨gd, 0, none⟩) 1 1 [(0, 1, 2, 5)] from Rw.rs_blk hR B_.out rfl (Nat.le_refl _) rfl)
  clear hW_ hg_ BW_ B_
  go_wp2_with fail
  refine (one 0 1 3 4 _).mono ?_
  rintro e w14 ⟨rfl, kb⟩
  have K14 := Lib.hid (K13.out.trans kb)
  have Rd := Lib.hid (Rd.out.bel kb)
  clear kb
  go_wp2_with fail
  refine (adds _ 1 1 [(0, 1, 2, 5)] 0 1 3 4 1 _ Rd.out (by decide) (w3c _ (by decide))).mono ?_
  rintro e w15 ⟨rfl, kb⟩
  have K15 := Lib.hid (K14.out.trans kb)
  have Rd := Lib.hid (Rd.out.bel kb)
  rw [show addE [(0, 1, 2, 5)] (0, 1, 3, 4) 1 = 9 by decide]
  clear kb
  go_wp2_with fail
  refine (one 0 1 2 5 _).mono ?_
  rintro e w16 ⟨rfl, kb⟩
  have K16 := Lib.hid (K15.out.trans kb)
  clear kb
  go_wp2_with fail
  refine (adds none 0 0 [] 0 1 2 5 17 _ Rw.RS.nil_ (by decide) (w3c _ (by decide))).mono ?_
  rintro e w17 ⟨rfl, kb⟩
  have K17 := Lib.hid (K16.out.trans kb)
  rw [show addE [] (0, 1, 2, 5) 17 = 3 by decide]
  clear kb
  go_wp2_with fail
  refine (one 0 1 2 5 _).mono ?_
  rintro e w18 ⟨rfl, kb⟩
  have K18 := Lib.hid (K17.out.trans kb)
  clear kb
  have B_ := Lib.hid (Blk.new w18 #[.int .i64 0, .int .i64 1, .int .i64 2, .int .i64 5] 24)
  have BW_ := (Bel.refl w18).alloc (.cells #[.int .i64 0, .int .i64 1, .int .i64 2, .int .i64 5] 24)
  go_wp2_with fail
  refine (list_ _ _).mono ?_
  rintro e w0_ ⟨rfl, rfl⟩
  obtain ⟨w19, hW_⟩ : ∃ W, World.alloc w18 (.cells #[.int .i64 0, .int .i64 1, .int .i64 2, .int .i64 5] 24) = W := ⟨_, rfl⟩
  obtain ⟨ge, hg_⟩ : ∃ g, (World.heap w18).size = g := ⟨_, rfl⟩
  rw [hW_] at B_ BW_ ⊢
  rw [hg_] at B_ ⊢
  have K19 := Lib.hid (K18.out.trans BW_)
  have Re := Lib.hid (show Rw.RS hR w19 (some ⟨ge, 0, none⟩) 1 1 [(0, 1, 2, 5)] from Rw.rs_blk hR B_.out rfl (Nat.le_refl _) rfl)
  clear hW_ hg_ BW_ B_
  go_wp2_with fail
  refine (ripe _ 1 1 [(0, 1, 2, 5)] 0 10 _ Re.out (by decide)).mono ?_
  rintro e w20 ⟨B1, m1, d1, B2, m2, d2, rfl, _, kb⟩
  have K20 := Lib.hid (K19.out.trans kb)
  have Re := Lib.hid (Re.out.bel kb)
  rw [show ripE [(0, 1, 2, 5)] 0 10 = 3 by decide]
  clear kb
  go_wp2_with fail
  refine (one 0 1 2 5 _).mono ?_
  rintro e w21 ⟨rfl, kb⟩
  have K21 := Lib.hid (K20.out.trans kb)
  clear kb
  go_wp2_with fail
  refine (one 0 1 2 6 _).mono ?_
  rintro e w22 ⟨rfl, kb⟩
  have K22 := Lib.hid (K21.out.trans kb)
  clear kb
  go_wp2_with fail
  refine (one 0 2 1 7 _).mono ?_
  rintro e w23 ⟨rfl, kb⟩
  have K23 := Lib.hid (K22.out.trans kb)
  clear kb
  have B_ := Lib.hid (Blk.new w23 #[.int .i64 0, .int .i64 1, .int .i64 2, .int .i64 5, .int .i64 0, .int .i64 1, .int .i64 2, .int .i64 6, .int .i64 0, .int .i64 2, .int .i64 1, .int .i64 7] 24)
  have BW_ := (Bel.refl w23).alloc (.cells #[.int .i64 0, .int .i64 1, .int .i64 2, .int .i64 5, .int .i64 0, .int .i64 1, .int .i64 2, .int .i64 6, .int .i64 0, .int .i64 2, .int .i64 1, .int .i64 7] 24)
  go_wp2_with fail
  refine (list_ _ _).mono ?_
  rintro e w0_ ⟨rfl, rfl⟩
  obtain ⟨w24, hW_⟩ : ∃ W, World.alloc w23 (.cells #[.int .i64 0, .int .i64 1, .int .i64 2, .int .i64 5, .int .i64 0, .int .i64 1, .int .i64 2, .int .i64 6, .int .i64 0, .int .i64 2, .int .i64 1, .int .i64 7] 24) = W := ⟨_, rfl⟩
  obtain ⟨gt, hg_⟩ : ∃ g, (World.heap w23).size = g := ⟨_, rfl⟩
  rw [hW_] at B_ BW_ ⊢
  rw [hg_] at B_ ⊢
  have K24 := Lib.hid (K23.out.trans BW_)
  have Rt := Lib.hid (show Rw.RS hR w24 (some ⟨gt, 0, none⟩) 3 3 [(0, 1, 2, 5), (0, 1, 2, 6), (0, 2, 1, 7)] from Rw.rs_blk hR B_.out rfl (Nat.le_refl _) rfl)
  clear hW_ hg_ BW_ B_
  have sl_ := fun V => show (Instr.slice 22 (.slice (some ⟨gt, 0, none⟩) 3 3) (some (.int .i64 2)) none none).run Try.prog V = .ok (.slice (if 3 = 2 then (some ⟨gt, 0, none⟩ : Option Addr) else (some (⟨gt, 0, none⟩ : Addr)).map (·.add (2 * 4))) 1 1) V from slice_lo (some ⟨gt, 0, none⟩) 3 3 2 (by decide) (by decide) V
  obtain ⟨Bq, hBq⟩ : ∃ B, (if 3 = 2 then (some ⟨gt, 0, none⟩ : Option Addr) else (some (⟨gt, 0, none⟩ : Addr)).map (·.add (2 * 4))) = B := ⟨_, rfl⟩
  have RLO := Lib.hid (fun V (hv : Bel w24 V) => by have := rs_low (k := 2) (Rt.out.bel hv) (by decide); rw [hBq] at this; exact this)
  rw [hBq] at sl_
  clear hBq
  have CNT := Lib.hid (fun V (hv : Bel w24 V) => count _ 3 3 [(0, 1, 2, 5), (0, 1, 2, 6), (0, 2, 1, 7)] 0 1 2 V (Rt.out.bel hv) (by decide) (w3c _ (by decide)) (by unfold I64; decide) (by unfold I64; decide) (by unfold I64; decide))
  rw [show cnt [(0, 1, 2, 5), (0, 1, 2, 6), (0, 2, 1, 7)] 0 1 2 = 2 by decide] at CNT
  have INT := Lib.hid (fun V (hv : Bel w24 V) => into_ _ 3 3 [(0, 1, 2, 5), (0, 1, 2, 6), (0, 2, 1, 7)] 0 1 V (Rt.out.bel hv) (by decide))
  rw [show [(0, 1, 2, 5), (0, 1, 2, 6), (0, 2, 1, 7)].filter (into 0 1) = [(0, 2, 1, 7)] by decide] at INT
  go_upto_region 5 with fail
  refine wp_region_held_drew (S := fun Vx => Bel w24 Vx) (by kernel_rfl) (Bel.refl _).drew (fun hS0 => ?_)
  obtain ⟨w6, hw6⟩ : ∃ w6, World.drew w24 = w6 := ⟨_, rfl⟩
  rw [hw6] at hS0 ⊢
  clear hw6
  refine wpAnyH_take (i := 0) (oi := { dst := some 53, op := .move (.tmp 6), type := 22, pos := "outright.go:55", after := #[], guard := none }) (v := .slice (some ⟨gt, 0, none⟩) 3 3) rfl (by kernel_rfl) (by kernel_rfl) (by kernel_rfl) (fun _ _ _ h => h) (Or.inl ⟨by rfl, by intro w hSw; clear hSw; go_simp⟩) hS0 ?_
  try simp only [Act.put, List.setIfInBounds_toArray, List.set_cons_zero, List.set_cons_succ]
  refine wpAnyH_ready (rs := [1]) (by kernel_rfl) (by simp) ?_
  refine AllReadyH.cons (o := { dst := some 54, op := .call { callee := .value (.func 15), args := #[.tmp 53, .const (Value.int IntKind.i64 0), .const (Value.int IntKind.i64 1), .const (Value.int IntKind.i64 2)], argTypes := #[22, 3, 3, 3] }, type := 3, pos := "outright.go:55", after := #[{ on := 0, ground := .data }], guard := none }) rfl (fun K hK => ?_) AllReadyH.nil
  go_simp
  refine (CNT.out _ hS0).mono ?_
  rintro e v1 ⟨rfl, kb⟩
  go_wp2_with fail
  refine hK.out _ _ (hS0.trans kb) (fun hS1 => ?_)
  clear hK K
  try simp only [Act.put, List.setIfInBounds_toArray, List.set_cons_zero, List.set_cons_succ]
  refine wpAnyH_take (i := 2) (oi := { dst := some 55, op := .binOp .eql 3 (.tmp 54) (.const (Value.int IntKind.i64 2)) 3, type := 4, pos := "outright.go:55", after := #[{ on := 1, ground := .data }], guard := none }) (v := .bool true) rfl (by kernel_rfl) (by kernel_rfl) (by kernel_rfl) (fun _ _ _ h => h) (Or.inl ⟨by rfl, by intro w hSw; clear hSw; go_simp⟩) hS1 ?_
  try simp only [Act.put, List.setIfInBounds_toArray, List.set_cons_zero, List.set_cons_succ]
  refine wpAnyH_take (i := 3) (oi := { dst := some 56, op := .move (.tmp 55), type := 4, pos := "outright.go:55", after := #[{ on := 2, ground := .data }, { on := 1, ground := .chain }], guard := none }) (v := .bool true) rfl (by kernel_rfl) (by kernel_rfl) (by kernel_rfl) (fun _ _ _ h => h) (Or.inl ⟨by rfl, by intro w hSw; clear hSw; go_simp⟩) hS1 ?_
  try simp only [Act.put, List.setIfInBounds_toArray, List.set_cons_zero, List.set_cons_succ]
  refine wpAnyH_take (i := 4) (oi := { dst := some 57, op := .move (.tmp 6), type := 22, pos := "outright.go:55", after := #[{ on := 3, ground := .guard }], guard := some (3, true) }) (v := .slice (some ⟨gt, 0, none⟩) 3 3) rfl (by kernel_rfl) (by kernel_rfl) (by kernel_rfl) (fun _ _ _ h => h) (Or.inl ⟨by rfl, by intro w hSw; clear hSw; go_simp⟩) hS1 ?_
  try simp only [Act.put, List.setIfInBounds_toArray, List.set_cons_zero, List.set_cons_succ]
  refine wpAnyH_take (i := 6) (oi := { dst := some 59, op := .move (.tmp 6), type := 22, pos := "outright.go:55", after := #[{ on := 3, ground := .guard }], guard := some (3, true) }) (v := .slice (some ⟨gt, 0, none⟩) 3 3) rfl (by kernel_rfl) (by kernel_rfl) (by kernel_rfl) (fun _ _ _ h => h) (Or.inl ⟨by rfl, by intro w hSw; clear hSw; go_simp⟩) hS1 ?_
  try simp only [Act.put, List.setIfInBounds_toArray, List.set_cons_zero, List.set_cons_succ]
  refine wpAnyH_take (i := 7) (oi := { dst := some 60, op := .slice 22 (.tmp 59) (some (.const (Value.int IntKind.i64 2))) none none, type := 22, pos := "outright.go:55", after := #[{ on := 6, ground := .data }, { on := 3, ground := .guard }], guard := some (3, true) }) (v := .slice Bq 1 1) rfl (by kernel_rfl) (by kernel_rfl) (by kernel_rfl) (fun _ _ _ h => h) (Or.inl ⟨by rfl, by intro w hSw; clear hSw; go_simp⟩) hS1 ?_
  try simp only [Act.put, List.setIfInBounds_toArray, List.set_cons_zero, List.set_cons_succ]
  refine wpAnyH_ready (rs := [5]) (by kernel_rfl) (by simp) ?_
  refine AllReadyH.cons (o := { dst := some 58, op := .call { callee := .value (.func 22), args := #[.tmp 57, .const (Value.int IntKind.i64 0), .const (Value.int IntKind.i64 1)], argTypes := #[22, 3, 3] }, type := 22, pos := "outright.go:55", after := #[{ on := 4, ground := .data }, { on := 3, ground := .chain }, { on := 3, ground := .guard }], guard := some (3, true) }) rfl (fun K hK => ?_) AllReadyH.nil
  go_simp
  refine (INT.out _ hS1).mono ?_
  rintro e v2 ⟨vi, rfl, hoi, kbi⟩
  go_wp2_with fail
  refine hK.out _ _ (hS1.trans kbi) (fun hS2 => ?_)
  clear hK K
  try simp only [Act.put, List.setIfInBounds_toArray, List.set_cons_zero, List.set_cons_succ]
  refine wpAnyH_ready (rs := [8]) (by kernel_rfl) (by simp) ?_
  refine AllReadyH.cons (o := { dst := some 61, op := .call { callee := .value (.func 24), args := #[.tmp 58, .tmp 60], argTypes := #[22, 22] }, type := 4, pos := "outright.go:55", after := #[{ on := 5, ground := .data }, { on := 7, ground := .data }, { on := 5, ground := .chain }, { on := 3, ground := .guard }], guard := some (3, true) }) rfl (fun K hK => ?_) AllReadyH.nil
  obtain ⟨Ai, ci, rfl, hri⟩ := hoi.slice
  have hri := show Rw.RS hR _ Ai 1 ci [(0, 2, 1, 7)] from hri
  have SM := same_hops Ai Bq 1 ci 1 1 [(0, 2, 1, 7)] [(0, 2, 1, 7)] v2 hri (RLO.out _ hS2) (by decide) (by decide)
  rw [decide_eq_true (rfl : ([(0, 2, 1, 7)] : List R4) = [(0, 2, 1, 7)])] at SM
  go_simp
  refine (SM).mono ?_
  rintro e v3 ⟨rfl, kbs⟩
  go_wp2_with fail
  refine hK.out _ _ (hS2.trans kbs) (fun hS3 => ?_)
  clear hK K
  try simp only [Act.put, List.setIfInBounds_toArray, List.set_cons_zero, List.set_cons_succ]
  refine wpAnyH_take (i := 9) (oi := { dst := some 62, op := .pick (.tmp 56) (.tmp 61) (.const (Value.bool false)), type := 4, pos := "outright.go:55", after := #[{ on := 3, ground := .data }, { on := 8, ground := .data }], guard := none }) (v := .bool true) rfl (by kernel_rfl) (by kernel_rfl) (by kernel_rfl) (fun _ _ _ h => h) (Or.inl ⟨by rfl, by intro w hSw; clear hSw; go_simp⟩) hS3 ?_
  try simp only [Act.put, List.setIfInBounds_toArray, List.set_cons_zero, List.set_cons_succ]
  refine wpAnyH_take (i := 10) (oi := { dst := some 7, op := .assign (.tmp 62), type := 4, pos := "outright.go:55", after := #[{ on := 9, ground := .data }, { on := 8, ground := .chain }, { on := 0, ground := .phase }, { on := 1, ground := .phase }, { on := 2, ground := .phase }, { on := 3, ground := .phase }, { on := 4, ground := .phase }, { on := 5, ground := .phase }, { on := 6, ground := .phase }, { on := 7, ground := .phase }, { on := 8, ground := .phase }, { on := 9, ground := .phase }], guard := none }) (v := .bool true) rfl (by kernel_rfl) (by kernel_rfl) (by kernel_rfl) (fun _ _ _ h => h) (Or.inl ⟨by rfl, by intro w hSw; clear hSw; go_simp⟩) hS3 ?_
  try simp only [Act.put, List.setIfInBounds_toArray, List.set_cons_zero, List.set_cons_succ]
  refine wpAnyH_done (by kernel_rfl) ?_ _
  have KL_ := Lib.hid (K24.out.trans (show Bel w24 v3 from hS3))
  obtain ⟨wl_, hwl_⟩ : ∃ V, V = v3 := ⟨_, rfl⟩
  subst hwl_
  go_wp2_with fail
  refine (one 0 1 2 300 _).mono ?_
  rintro e w25 ⟨rfl, kb⟩
  have K25 := Lib.hid (KL_.out.trans kb)
  clear kb
  have B_ := Lib.hid (Blk.new w25 #[.int .i64 0, .int .i64 1, .int .i64 2, .int .i64 300] 24)
  have BW_ := (Bel.refl w25).alloc (.cells #[.int .i64 0, .int .i64 1, .int .i64 2, .int .i64 300] 24)
  go_wp2_with fail
  refine (list_ _ _).mono ?_
  rintro e w0_ ⟨rfl, rfl⟩
  obtain ⟨w26, hW_⟩ : ∃ W, World.alloc w25 (.cells #[.int .i64 0, .int .i64 1, .int .i64 2, .int .i64 300] 24) = W := ⟨_, rfl⟩
  obtain ⟨gf, hg_⟩ : ∃ g, (World.heap w25).size = g := ⟨_, rfl⟩
  rw [hW_] at B_ BW_ ⊢
  rw [hg_] at B_ ⊢
  have K26 := Lib.hid (K25.out.trans BW_)
  have Rf := Lib.hid (show Rw.RS hR w26 (some ⟨gf, 0, none⟩) 1 1 [(0, 1, 2, 300)] from Rw.rs_blk hR B_.out rfl (Nat.le_refl _) rfl)
  clear hW_ hg_ BW_ B_
  go_wp2_with fail
  refine (bytesH _ 1 1 [(0, 1, 2, 300)] _ Rf.out (by decide)).mono ?_
  rintro e w27 ⟨vy, rfl, hy, kb⟩
  have K27 := Lib.hid (K26.out.trans kb)
  have Rf := Lib.hid (Rf.out.bel kb)
  rw [show (chk [(0, 1, 2, 300)]).1 = 0 by decide, show (if (0 : Int) = 0 then encL [(0, 1, 2, 300)] else []) = [1, 0, 1, 2, 172, 2] by decide] at *
  obtain ⟨Ay, cy, rfl, hys⟩ := Cd.sl_of_own hy
  have Ry := Lib.hid (show Cd.Sl _ Ay 6 cy [1, 0, 1, 2, 172, 2] from hys)
  clear hy hys
  clear kb
  have Sz := Lib.hid (show Cd.Sl (World.alloc w27 (.cells #[.int .u8 1, .int .u8 0, .int .u8 1, .int .u8 2, .int .u8 172, .int .u8 2] 5)) (some ⟨(World.heap w27).size, 0, none⟩) 6 6 [1, 0, 1, 2, 172, 2] from sl_lit w27 [1, 0, 1, 2, 172, 2])
  have BW_ := (Bel.refl w27).alloc (.cells #[.int .u8 1, .int .u8 0, .int .u8 1, .int .u8 2, .int .u8 172, .int .u8 2] 5)
  have SM := Lib.hid (same Ay (some ⟨(World.heap w27).size, 0, none⟩) 6 cy 6 6 [1, 0, 1, 2, 172, 2] _ (Ry.out.bel BW_).ints Sz.out.ints)
  go_wp2_with fail
  refine SM.out.mono ?_
  rintro e w29 ⟨rfl, rfl⟩
  obtain ⟨w29, hW_⟩ : ∃ W, World.alloc w27 (.cells #[.int .u8 1, .int .u8 0, .int .u8 1, .int .u8 2, .int .u8 172, .int .u8 2] 5) = W := ⟨_, rfl⟩
  rw [hW_] at BW_ ⊢
  have K29 := Lib.hid (K27.out.trans BW_)
  clear hW_ BW_ SM
  have Sa := Lib.hid (show Cd.Sl (World.alloc w29 (.cells #[.int .u8 1, .int .u8 0, .int .u8 1, .int .u8 1, .int .u8 5] 5)) (some ⟨(World.heap w29).size, 0, none⟩) 5 5 [1, 0, 1, 1, 5] from sl_lit w29 [1, 0, 1, 1, 5])
  have BW_ := (Bel.refl w29).alloc (.cells #[.int .u8 1, .int .u8 0, .int .u8 1, .int .u8 1, .int .u8 5] 5)
  have EQa := Lib.hid (fun V => (Rw.eql_fault 3 3 3 3 V).trans (by rw [decide_eq_true (rfl : ((3 : Int), (3 : Int)) = (3, 3))]))
  have RDX := Lib.hid (reads (some ⟨(World.heap w29).size, 0, none⟩) 5 5 [1, 0, 1, 1, 5] 1 1 none [(0, 1, 1, 0)] 4 (some (3, 3)) 3 3 _ Sa.out (by decide) (bytesC _ (by decide)) ra1 (by decide) rfl la1 rfl)
  go_wp2_with (fail)
  refine RDX.out.mono ?_
  rintro e w31 ⟨rfl, kb⟩
  have K31 := Lib.hid (K29.out.trans (BW_.trans kb))
  clear kb BW_ RDX
  have Sb := Lib.hid (show Cd.Sl (World.alloc w31 (.cells #[.int .u8 2, .int .u8 0, .int .u8 1, .int .u8 2, .int .u8 5, .int .u8 0, .int .u8 1, .int .u8 2, .int .u8 4] 5)) (some ⟨(World.heap w31).size, 0, none⟩) 9 9 [2, 0, 1, 2, 5, 0, 1, 2, 4] from sl_lit w31 [2, 0, 1, 2, 5, 0, 1, 2, 4])
  have BW_ := (Bel.refl w31).alloc (.cells #[.int .u8 2, .int .u8 0, .int .u8 1, .int .u8 2, .int .u8 5, .int .u8 0, .int .u8 1, .int .u8 2, .int .u8 4] 5)
  have EQb := Lib.hid (fun V => (Rw.eql_fault 9 8 9 8 V).trans (by rw [decide_eq_true (rfl : ((9 : Int), (8 : Int)) = (9, 8))]))
  have RDX := Lib.hid (reads (some ⟨(World.heap w31).size, 0, none⟩) 9 9 [2, 0, 1, 2, 5, 0, 1, 2, 4] 2 1 none [(0, 1, 2, 5), (0, 1, 2, 4)] 9 (some (9, 8)) 9 8 _ Sb.out (by decide) (bytesC _ (by decide)) ra2 (by decide) rfl la2 rfl)
  go_wp2_with (refine Rw.wpList_val rfl (.bool true) (fun w => Rw.exec_eql rfl _ _ rfl rfl (by kernel_rfl) EQa.out w) ?_)
  refine RDX.out.mono ?_
  rintro e w33 ⟨rfl, kb⟩
  have K33 := Lib.hid (K31.out.trans (BW_.trans kb))
  clear kb BW_ RDX
  have Sc := Lib.hid (show Cd.Sl (World.alloc w33 (.cells #[.int .u8 1, .int .u8 64] 5)) (some ⟨(World.heap w33).size, 0, none⟩) 2 2 [1, 64] from sl_lit w33 [1, 64])
  have BW_ := (Bel.refl w33).alloc (.cells #[.int .u8 1, .int .u8 64] 5)
  have EQc := Lib.hid (fun V => (Rw.eql_fault 3 1 3 1 V).trans (by rw [decide_eq_true (rfl : ((3 : Int), (1 : Int)) = (3, 1))]))
  have RDX := Lib.hid (reads (some ⟨(World.heap w33).size, 0, none⟩) 2 2 [1, 64] 1 1 none [(0, 0, 0, 0)] 1 (some (3, 1)) 3 1 _ Sc.out (by decide) (bytesC _ (by decide)) ra3 (by decide) rfl la3 rfl)
  go_wp2_with (refine Rw.wpList_val rfl (.bool true) (fun w => Rw.exec_eql rfl _ _ rfl rfl (by kernel_rfl) EQb.out w) ?_)
  refine RDX.out.mono ?_
  rintro e w35 ⟨rfl, kb⟩
  have K35 := Lib.hid (K33.out.trans (BW_.trans kb))
  clear kb BW_ RDX
  go_wp2_with (refine Rw.wpList_val rfl (.bool true) (fun w => Rw.exec_eql rfl _ _ rfl rfl (by kernel_rfl) EQc.out w) ?_)
  refine (awake _).mono ?_
  rintro e w36 ⟨rfl, kb⟩
  have K36 := Lib.hid (K35.out.trans kb)
  clear kb
  go_wp2_with fail
  go_ret
  exact ⟨rfl, K36.out⟩
end Hp
end Go.Proofs.Ytahhnfnonekbmaa
