/-
  The law HoldingKnown returns true. No condition.
-/
import Derived.Test.YtneajcoiemkfbaaGreatTk
import Derived.Test.YtneajcoiemkfbaaGreatCO
namespace Go.Proofs.YtneajcoiemkfbaaGreat
open Go.RowKit Go.Shelf
set_option linter.unusedVariables false
set_option linter.unusedSimpArgs false
namespace Ho
open Kk Pm

theorem slice_p2 (B : Option Addr) (m d : Nat) (h : 2 ≤ d) (w : World) : (Instr.slice 23 (.slice B m d) none (some (.int .i64 2)) none).run Tryz.prog w = .ok (.slice B 2 d) w := slice_hP B m d 2 w h
theorem slice_c1 (B : Option Addr) (m d : Nat) (h : 1 ≤ d) (w : World) : (Instr.slice 22 (.slice B m d) none (some (.int .i64 1)) none).run Tryz.prog w = .ok (.slice B 1 d) w := slice_hC B m d 1 w h
abbrev kn1C : List R6 := [(2, 5, -1, 0, 20, 20)]
abbrev kn1P : List R6 := [(0, 2, 5, -1, 0, 10), (1, 2, 5, -1, 0, 10)]
theorem kn1_wd : (∀ r ∈ kn1C, Wd r) ∧ Wp kn1P := by simp [kn1C, kn1P, Wd, Wp, tok, shr]

set_option maxRecDepth 100000 in
set_option maxHeartbeats 16000000 in
theorem known (w : World) : Calls Tryz.prog 6 #[] w fun r w' => r = .returned (.bool true) ∧ Bel w w' := by
  have CH := Lib.hid (chapter w)
  have AT := Lib.hid (fun v h V => at_ v h V)
  have AW := Lib.hid (fun V => awake V)
  go_enter Tryz.func6, Tryz.ntmps6
  go_wp2_with fail
  refine CH.out.mono ?_
  rintro r V ⟨v1, v2, rfl, o1, o2, kb⟩
  obtain ⟨A1, c1, e1, r1, _⟩ := o1.rs c6C
  obtain ⟨A2, c2, e2, r2, _⟩ := o2.rs c6P
  subst e1 e2
  have hcap1 : 1 ≤ c1 := by have : 2 ≤ c1 := r1.cap; omega
  have hcap2 : 2 ≤ c2 := by have : 3 ≤ c2 := r2.cap; omega
  obtain ⟨X, hX⟩ : ∃ X, V.alloc (.cells #[.slice A1 2 c1, .slice A2 3 c2] 25) = X := ⟨_, rfl⟩
  have BX := Lib.hid (show Bel V X by rw [← hX]; exact (Bel.refl V).alloc _)
  have KB := Lib.hid (kb.trans BX.out)
  have VH := Lib.hid (show Vh X V.heap.size A1 2 c1 A2 3 c2 (stC 3) (stP 3) from ⟨by rw [← hX]; exact Blk.new _ _ _, (hh_of r1 r2 (by decide) (by decide) (st_wd 3)).bel BX.out⟩)
  have CU := Lib.hid (fun Y hY => Cut_s A1 2 c1 A2 3 c2 (stC 3) (stP 3) 2 4 1000000000 Y (VH.out.hh.bel hY) (by decide) (by decide) (E := 0) (N := 0) (C := stC 3) (P := stP 3) (L := []) (n1 := 2) (n2 := 3) (n3 := 0) (by kernel_rfl) (by kernel_rfl) (by kernel_rfl) (by kernel_rfl) (by kernel_rfl) rfl rfl rfl)
  have CV := Lib.hid (fun Y hY => Cut_s A1 2 c1 A2 3 c2 (stC 3) (stP 3) 3 9 1000000000 Y (VH.out.hh.bel hY) (by decide) (by decide) (E := 0) (N := 7) (C := kn1C) (P := kn1P) (L := [(3, 6, -1, 0, 7, 0)]) (n1 := 1) (n2 := 2) (n3 := 1) (by kernel_rfl) (by kernel_rfl) (by kernel_rfl) (by kernel_rfl) (by kernel_rfl) rfl rfl rfl)
  have u0 := VH.out.blk.cell 0 rfl
  have u1 := VH.out.blk.cell 1 rfl
  clear o1 o2 r1 r2 kb CH
  go_upto_region 2 with fail
  have hX' : V.alloc (.cells #[.slice A1 (stC 3).length c1, .slice A2 (stP 3).length c2] 25) = X := hX
  try rw [hX]
  try rw [hX']
  obtain ⟨gh, hgh⟩ : ∃ g, V.heap.size = g := ⟨_, rfl⟩
  rw [hgh] at VH u0 u1 ⊢
  clear hgh hX hX' BX
  go_wp2_with fail
  refine (CU.out _ (Bel.refl _)).mono ?_
  rintro r V2 ⟨B1, d1, B2, d2, B3, d3, rfl, _, _, _, kb⟩
  obtain ⟨Y, hY⟩ : ∃ X, V2.alloc (.cells #[.slice B1 2 d1, .slice B2 3 d2] 25) = X := ⟨_, rfl⟩
  have BY := Lib.hid (show Bel X Y by rw [← hY]; exact kb.alloc _)
  have u0 := (VH.out.blk.bel BY.out).cell 0 rfl
  have u1 := (VH.out.blk.bel BY.out).cell 1 rfl
  clear kb CU
  go_upto_region 3 with fail
  try rw [hY]
  obtain ⟨gg, hgg⟩ : ∃ g, V2.heap.size = g := ⟨_, rfl⟩
  rw [hgg]
  clear hgg hY
  go_wp2_with fail
  refine (CV.out _ BY.out).mono ?_
  rintro r V3 ⟨E1, f1, E2, f2, E3, f3, rfl, o1, o2, o3, kb⟩
  obtain ⟨Z, hZ⟩ : ∃ X, V3.alloc (.cells #[.slice E1 1 f1, .slice E2 2 f2] 25) = X := ⟨_, rfl⟩
  have BZ3 := Lib.hid (show Bel V3 Z by rw [← hZ]; exact (Bel.refl V3).alloc _)
  have BZ := Lib.hid (BY.out.trans (kb.trans BZ3.out))
  have VK := Lib.hid (show Vh Z V3.heap.size E1 1 f1 E2 2 f2 kn1C kn1P from ⟨by rw [← hZ]; exact Blk.new _ _ _, (hh_of (own_rsC o1) (own_rsP o2) (by decide) (by decide) kn1_wd).bel BZ3.out⟩)
  have KZ := Lib.hid (KB.out.trans BZ.out)
  replace VH := Lib.hid (VH.out.bel BZ.out)
  clear kb CV o1 o2 o3 u0 u1
  go_upto_region 4 with fail
  try rw [hZ]
  obtain ⟨gk, hgk⟩ : ∃ g, V3.heap.size = g := ⟨_, rfl⟩
  rw [hgk] at VK ⊢
  clear hgk hZ BZ BZ3 BY KB
  have SP := Lib.hid (fun U (hU : Bel Z U) => same_positions E2 A2 2 f2 2 c2 kn1P kn1P U (rsP (VK.out.hh.pos.bel hU)) (rsP ((VH.out.hh.pos.bel hU).part (m := 2) (by decide))) (by decide) (by decide))
  replace SP := Lib.hid (show ∀ U, Bel Z U → Calls Tryz.prog 34 #[.slice E2 2 f2, .slice A2 2 c2] U fun e w' => e = .returned (.bool true) ∧ Bel U w' from fun U hU => by
    have h := SP.out U hU
    rw [decide_eq_true rfl] at h
    exact h)
  have ER := Lib.hid (fun k o a b d e v h x E U (hU : Bel Z U) (x0 : 0 ≤ x) (x1 : x ≤ 18446744073709551615) (k0 : 0 ≤ k) (k2 : k ≤ 2) (hE : aE (stC 3) (stP 3) (k, o, a, b, d, e, v, h, x) = E) (h0 : ¬ E = 0) => errs_ A1 2 c1 A2 3 c2 (stC 3) (stP 3) k o a b d e v h x E U (VH.out.hh.bel hU) x0 x1 k0 k2 hE h0)
  have E1' := Lib.hid (fun U (hU : Bel Z U) => ER.out 2 0 0 0 0 0 32 1 0 3 U hU (by decide) (by decide) (by decide) (by decide) (by kernel_rfl) (by decide))
  have E2' := Lib.hid (fun U (hU : Bel Z U) => ER.out 1 0 3 6 (-1) 0 0 0 1 10 U hU (by decide) (by decide) (by decide) (by decide) (by kernel_rfl) (by decide))
  have E3' := Lib.hid (fun U (hU : Bel Z U) => ER.out 1 0 2 5 (-1) 0 0 0 11 13 U hU (by decide) (by decide) (by decide) (by decide) (by kernel_rfl) (by decide))
  have E4' := Lib.hid (fun U (hU : Bel Z U) => ER.out 1 0 2 5 (-1) 0 0 0 0 14 U hU (by decide) (by decide) (by decide) (by decide) (by kernel_rfl) (by decide))
  have E5' := Lib.hid (fun U (hU : Bel Z U) => ER.out 0 64 2 5 (-1) 0 0 0 1 3 U hU (by decide) (by decide) (by decide) (by decide) (by kernel_rfl) (by decide))
  have E6' := Lib.hid (fun U (hU : Bel Z U) => ER.out 0 0 2 5 (-1) 0 0 0 0 14 U hU (by decide) (by decide) (by decide) (by decide) (by kernel_rfl) (by decide))
  have E7' := Lib.hid (fun U (hU : Bel Z U) => ER.out 0 0 2 5 (-1) 0 0 0 4611686018427387904 12 U hU (by decide) (by decide) (by decide) (by decide) (by kernel_rfl) (by decide))
  have hsp := slice_p2 A2 3 c2 hcap2
  have hsc := slice_c1 A1 2 c1 hcap1
  clear ER
  go_cut [11] (fun s11 wx => s11 = .bool true ∧ Hid (Bel Z wx))
  case first =>
    refine wp_region_held_drew (S := fun Vx => Bel Z Vx) (by kernel_rfl) (Bel.refl _).drew (fun hS0 => ?_)
    obtain ⟨w6, hw6⟩ : ∃ w6, World.drew Z = w6 := ⟨_, rfl⟩
    rw [hw6] at hS0 ⊢
    clear hw6
    refine ztk 0 { dst := some 41, op := .move (.tmp 2), type := 4, pos := "outright.go:50", after := #[], guard := none } (.bool true) (Or.inl ⟨by rfl, by intro w hSw; clear hSw; go_simp⟩) hS0 ?_
    try simp only [Act.put, zq1, zq2, zq3]
    refine ztk 1 { dst := some 42, op := .move (.tmp 41), type := 4, pos := "outright.go:50", after := #[{ on := 0, ground := .data }], guard := none } (.bool true) (Or.inl ⟨by rfl, by intro w hSw; clear hSw; go_simp⟩) hS0 ?_
    try simp only [Act.put, zq1, zq2, zq3]
    refine ztk 2 { dst := some 43, op := .move (.tmp 4), type := 33, pos := "outright.go:50", after := #[{ on := 1, ground := .guard }], guard := some (1, true) } (.slice B3 0 d3) (Or.inl ⟨by rfl, by intro w hSw; clear hSw; go_simp⟩) hS0 ?_
    try simp only [Act.put, zq1, zq2, zq3]
    refine ztk 3 { dst := some 44, op := .call { callee := .builtin .len, args := #[.tmp 43], argTypes := #[33] }, type := 3, pos := "outright.go:50", after := #[{ on := 2, ground := .data }, { on := 1, ground := .guard }], guard := some (1, true) } (.int .i64 0) (Or.inl ⟨by rfl, by intro w hSw; clear hSw; go_simp⟩) hS0 ?_
    try simp only [Act.put, zq1, zq2, zq3]
    refine ztk 4 { dst := some 45, op := .binOp .eql 3 (.tmp 44) (.const (Value.int IntKind.i64 0)) 3, type := 4, pos := "outright.go:50", after := #[{ on := 3, ground := .data }, { on := 1, ground := .guard }], guard := some (1, true) } (.bool true) (Or.inl ⟨by rfl, by intro w hSw; clear hSw; go_simp⟩) hS0 ?_
    try simp only [Act.put, zq1, zq2, zq3]
    refine ztk 5 { dst := some 46, op := .pick (.tmp 42) (.tmp 45) (.const (Value.bool false)), type := 4, pos := "outright.go:50", after := #[{ on := 1, ground := .data }, { on := 4, ground := .data }], guard := none } (.bool true) (Or.inl ⟨by rfl, by intro w hSw; clear hSw; go_simp⟩) hS0 ?_
    try simp only [Act.put, zq1, zq2, zq3]
    refine ztk 6 { dst := some 47, op := .move (.tmp 46), type := 4, pos := "outright.go:50", after := #[{ on := 5, ground := .data }, { on := 1, ground := .chain }], guard := none } (.bool true) (Or.inl ⟨by rfl, by intro w hSw; clear hSw; go_simp⟩) hS0 ?_
    try simp only [Act.put, zq1, zq2, zq3]
    refine ztk 7 { dst := some 48, op := .move (.tmp 5), type := 32, pos := "outright.go:50", after := #[{ on := 6, ground := .guard }], guard := some (6, true) } (.int .u64 0) (Or.inl ⟨by rfl, by intro w hSw; clear hSw; go_simp⟩) hS0 ?_
    try simp only [Act.put, zq1, zq2, zq3]
    refine ztk 8 { dst := some 49, op := .binOp .eql 32 (.tmp 48) (.const (Value.int IntKind.u64 0)) 32, type := 4, pos := "outright.go:50", after := #[{ on := 7, ground := .data }, { on := 6, ground := .guard }], guard := some (6, true) } (.bool true) (Or.inl ⟨by rfl, by intro w hSw; clear hSw; go_simp⟩) hS0 ?_
    try simp only [Act.put, zq1, zq2, zq3]
    refine ztk 9 { dst := some 50, op := .pick (.tmp 47) (.tmp 49) (.const (Value.bool false)), type := 4, pos := "outright.go:50", after := #[{ on := 6, ground := .data }, { on := 8, ground := .data }], guard := none } (.bool true) (Or.inl ⟨by rfl, by intro w hSw; clear hSw; go_simp⟩) hS0 ?_
    try simp only [Act.put, zq1, zq2, zq3]
    refine ztk 10 { dst := some 51, op := .move (.tmp 50), type := 4, pos := "outright.go:50", after := #[{ on := 9, ground := .data }, { on := 6, ground := .chain }], guard := none } (.bool true) (Or.inl ⟨by rfl, by intro w hSw; clear hSw; go_simp⟩) hS0 ?_
    try simp only [Act.put, zq1, zq2, zq3]
    refine ztk 11 { dst := some 52, op := .move (.tmp 6), type := 30, pos := "outright.go:50", after := #[{ on := 10, ground := .guard }], guard := some (10, true) } (.int .i64 0) (Or.inl ⟨by rfl, by intro w hSw; clear hSw; go_simp⟩) hS0 ?_
    try simp only [Act.put, zq1, zq2, zq3]
    refine ztk 12 { dst := some 53, op := .binOp .eql 30 (.tmp 52) (.const (Value.int IntKind.i64 0)) 30, type := 4, pos := "outright.go:50", after := #[{ on := 11, ground := .data }, { on := 10, ground := .guard }], guard := some (10, true) } (.bool true) (Or.inl ⟨by rfl, by intro w hSw; clear hSw; go_simp⟩) hS0 ?_
    try simp only [Act.put, zq1, zq2, zq3]
    refine ztk 13 { dst := some 54, op := .pick (.tmp 51) (.tmp 53) (.const (Value.bool false)), type := 4, pos := "outright.go:50", after := #[{ on := 10, ground := .data }, { on := 12, ground := .data }], guard := none } (.bool true) (Or.inl ⟨by rfl, by intro w hSw; clear hSw; go_simp⟩) hS0 ?_
    try simp only [Act.put, zq1, zq2, zq3]
    refine ztk 14 { dst := some 55, op := .move (.tmp 54), type := 4, pos := "outright.go:50", after := #[{ on := 13, ground := .data }, { on := 10, ground := .chain }], guard := none } (.bool true) (Or.inl ⟨by rfl, by intro w hSw; clear hSw; go_simp⟩) hS0 ?_
    try simp only [Act.put, zq1, zq2, zq3]
    refine ztk 15 { dst := some 56, op := .move (.tmp 9), type := 32, pos := "outright.go:50", after := #[{ on := 14, ground := .guard }], guard := some (14, true) } (.int .u64 7) (Or.inl ⟨by rfl, by intro w hSw; clear hSw; go_simp⟩) hS0 ?_
    try simp only [Act.put, zq1, zq2, zq3]
    refine ztk 16 { dst := some 57, op := .binOp .eql 32 (.tmp 56) (.const (Value.int IntKind.u64 7)) 32, type := 4, pos := "outright.go:50", after := #[{ on := 15, ground := .data }, { on := 14, ground := .guard }], guard := some (14, true) } (.bool true) (Or.inl ⟨by rfl, by intro w hSw; clear hSw; go_simp⟩) hS0 ?_
    try simp only [Act.put, zq1, zq2, zq3]
    refine ztk 17 { dst := some 58, op := .pick (.tmp 55) (.tmp 57) (.const (Value.bool false)), type := 4, pos := "outright.go:50", after := #[{ on := 14, ground := .data }, { on := 16, ground := .data }], guard := none } (.bool true) (Or.inl ⟨by rfl, by intro w hSw; clear hSw; go_simp⟩) hS0 ?_
    try simp only [Act.put, zq1, zq2, zq3]
    refine ztk 18 { dst := some 59, op := .move (.tmp 58), type := 4, pos := "outright.go:50", after := #[{ on := 17, ground := .data }, { on := 14, ground := .chain }], guard := none } (.bool true) (Or.inl ⟨by rfl, by intro w hSw; clear hSw; go_simp⟩) hS0 ?_
    try simp only [Act.put, zq1, zq2, zq3]
    refine ztk 19 { dst := some 60, op := .move (.tmp 10), type := 30, pos := "outright.go:50", after := #[{ on := 18, ground := .guard }], guard := some (18, true) } (.int .i64 0) (Or.inl ⟨by rfl, by intro w hSw; clear hSw; go_simp⟩) hS0 ?_
    try simp only [Act.put, zq1, zq2, zq3]
    refine ztk 20 { dst := some 61, op := .binOp .eql 30 (.tmp 60) (.const (Value.int IntKind.i64 0)) 30, type := 4, pos := "outright.go:50", after := #[{ on := 19, ground := .data }, { on := 18, ground := .guard }], guard := some (18, true) } (.bool true) (Or.inl ⟨by rfl, by intro w hSw; clear hSw; go_simp⟩) hS0 ?_
    try simp only [Act.put, zq1, zq2, zq3]
    refine ztk 21 { dst := some 62, op := .pick (.tmp 59) (.tmp 61) (.const (Value.bool false)), type := 4, pos := "outright.go:50", after := #[{ on := 18, ground := .data }, { on := 20, ground := .data }], guard := none } (.bool true) (Or.inl ⟨by rfl, by intro w hSw; clear hSw; go_simp⟩) hS0 ?_
    try simp only [Act.put, zq1, zq2, zq3]
    refine ztk 22 { dst := some 63, op := .move (.tmp 62), type := 4, pos := "outright.go:50", after := #[{ on := 21, ground := .data }, { on := 18, ground := .chain }], guard := none } (.bool true) (Or.inl ⟨by rfl, by intro w hSw; clear hSw; go_simp⟩) hS0 ?_
    try simp only [Act.put, zq1, zq2, zq3]
    refine ztk 23 { dst := some 64, op := .fieldAddr 25 (.tmp 7) 1, type := 0, pos := "outright.go:50", after := #[{ on := 22, ground := .guard }], guard := some (22, true) } (.pointer (some ⟨gk, 1, none⟩)) (Or.inl ⟨by rfl, by intro w hSw; clear hSw; go_simp⟩) hS0 ?_
    try simp only [Act.put, zq1, zq2, zq3]
    refine ztk 24 { dst := some 65, op := .load 23 (.tmp 64), type := 23, pos := "outright.go:50", after := #[{ on := 23, ground := .data }, { on := 22, ground := .guard }], guard := some (22, true) } (.slice E2 2 f2) (Or.inl ⟨by rfl, by intro w h; have hcell := ((VK.out.blk.bel h).cell 1 rfl); clear h; go_simp⟩) hS0 ?_
    try simp only [Act.put, zq1, zq2, zq3]
    refine ztk 25 { dst := some 66, op := .fieldAddr 25 (.tmp 1) 1, type := 0, pos := "outright.go:50", after := #[{ on := 22, ground := .guard }], guard := some (22, true) } (.pointer (some ⟨gh, 1, none⟩)) (Or.inl ⟨by rfl, by intro w hSw; clear hSw; go_simp⟩) hS0 ?_
    try simp only [Act.put, zq1, zq2, zq3]
    refine ztk 26 { dst := some 67, op := .load 23 (.tmp 66), type := 23, pos := "outright.go:50", after := #[{ on := 25, ground := .data }, { on := 22, ground := .guard }], guard := some (22, true) } (.slice A2 3 c2) (Or.inl ⟨by rfl, by intro w h; have hcell := ((VH.out.blk.bel h).cell 1 rfl); clear h; go_simp⟩) hS0 ?_
    try simp only [Act.put, zq1, zq2, zq3]
    refine ztk 27 { dst := some 68, op := .slice 23 (.tmp 67) none (some (.const (Value.int IntKind.i64 2))) none, type := 23, pos := "outright.go:50", after := #[{ on := 26, ground := .data }, { on := 22, ground := .guard }], guard := some (22, true) } (.slice A2 2 c2) (Or.inl ⟨by rfl, by intro w hSw; clear hSw; go_simp⟩) hS0 ?_
    try simp only [Act.put, zq1, zq2, zq3]
    refine wpAnyH_ready (rs := [28]) (by kernel_rfl) (by simp) ?_
    refine AllReadyH.cons (o := { dst := some 69, op := .call { callee := .value (.func 34), args := #[.tmp 65, .tmp 68], argTypes := #[23, 23] }, type := 4, pos := "outright.go:50", after := #[{ on := 24, ground := .data }, { on := 27, ground := .data }, { on := 22, ground := .chain }, { on := 22, ground := .guard }], guard := some (22, true) }) rfl (fun K hK => ?_) AllReadyH.nil
    go_simp
    refine (SP.out _ hS0).mono ?_
    rintro e v1 ⟨rfl, kb⟩
    go_wp2_with fail
    refine hK.out _ _ (hS0.trans kb) (fun hS1 => ?_)
    clear hK K
    try simp only [Act.put, zq1, zq2, zq3]
    refine ztk 29 { dst := some 70, op := .pick (.tmp 63) (.tmp 69) (.const (Value.bool false)), type := 4, pos := "outright.go:50", after := #[{ on := 22, ground := .data }, { on := 28, ground := .data }], guard := none } (.bool true) (Or.inl ⟨by rfl, by intro w hSw; clear hSw; go_simp⟩) hS1 ?_
    try simp only [Act.put, zq1, zq2, zq3]
    refine ztk 30 { dst := some 71, op := .move (.tmp 70), type := 4, pos := "outright.go:50", after := #[{ on := 29, ground := .data }, { on := 28, ground := .chain }], guard := none } (.bool true) (Or.inl ⟨by rfl, by intro w hSw; clear hSw; go_simp⟩) hS1 ?_
    try simp only [Act.put, zq1, zq2, zq3]
    refine ztk 31 { dst := some 72, op := .load 25 (.tmp 1), type := 25, pos := "outright.go:50", after := #[{ on := 30, ground := .guard }], guard := some (30, true) } (.agg #[.slice A1 2 c1, .slice A2 3 c2]) (yieldsIf_load_mid (by rfl) _ _ rfl _ _ rfl _ _ (fun w h => rng_bel (rngB (C := [.slice A1 2 c1, .slice A2 3 c2]) VH.out.blk) h) Tryz.underlying25 rfl info_h) hS1 ?_
    try simp only [Act.put, zq1, zq2, zq3]
    refine ztk 32 { dst := some 73, op := .build 39 #[(0, .const (Value.int IntKind.i64 2)), (3, .const (Value.int IntKind.i64 32)), (4, .const (Value.int IntKind.i64 1))], type := 39, pos := "outright.go:50", after := #[{ on := 30, ground := .guard }], guard := some (30, true) } (.agg #[.int .i64 2, .int .i64 0, .int .i64 0, .int .i64 0, .int .i64 0, .int .i64 0, .int .i64 32, .int .i64 1, .int .u64 0]) (Or.inl ⟨by rfl, by intro w hSw; clear hSw; go_simp⟩) hS1 ?_
    try simp only [Act.put, zq1, zq2, zq3]
    refine wpAnyH_ready (rs := [33]) (by kernel_rfl) (by simp) ?_
    refine AllReadyH.cons (o := { dst := some 74, op := .call { callee := .value (.func 49), args := #[.tmp 72, .tmp 73, .const (Value.int IntKind.i64 3)], argTypes := #[25, 39, 30] }, type := 4, pos := "outright.go:50", after := #[{ on := 31, ground := .data }, { on := 32, ground := .data }, { on := 30, ground := .chain }, { on := 30, ground := .guard }], guard := some (30, true) }) rfl (fun K hK => ?_) AllReadyH.nil
    go_simp
    refine (E1'.out _ hS1).mono ?_
    rintro e v2 ⟨rfl, kb⟩
    go_wp2_with fail
    refine hK.out _ _ (hS1.trans kb) (fun hS2 => ?_)
    clear hK K
    try simp only [Act.put, zq1, zq2, zq3]
    refine ztk 34 { dst := some 75, op := .pick (.tmp 71) (.tmp 74) (.const (Value.bool false)), type := 4, pos := "outright.go:50", after := #[{ on := 30, ground := .data }, { on := 33, ground := .data }], guard := none } (.bool true) (Or.inl ⟨by rfl, by intro w hSw; clear hSw; go_simp⟩) hS2 ?_
    try simp only [Act.put, zq1, zq2, zq3]
    refine ztk 35 { dst := some 11, op := .assign (.tmp 75), type := 4, pos := "outright.go:50", after := #[{ on := 34, ground := .data }, { on := 33, ground := .chain }, { on := 0, ground := .phase }, { on := 1, ground := .phase }, { on := 2, ground := .phase }, { on := 3, ground := .phase }, { on := 4, ground := .phase }, { on := 5, ground := .phase }, { on := 6, ground := .phase }, { on := 7, ground := .phase }, { on := 8, ground := .phase }, { on := 9, ground := .phase }, { on := 10, ground := .phase }, { on := 11, ground := .phase }, { on := 12, ground := .phase }, { on := 13, ground := .phase }, { on := 14, ground := .phase }, { on := 15, ground := .phase }, { on := 16, ground := .phase }, { on := 17, ground := .phase }, { on := 18, ground := .phase }, { on := 19, ground := .phase }, { on := 20, ground := .phase }, { on := 21, ground := .phase }, { on := 22, ground := .phase }, { on := 23, ground := .phase }, { on := 24, ground := .phase }, { on := 25, ground := .phase }, { on := 26, ground := .phase }, { on := 27, ground := .phase }, { on := 28, ground := .phase }, { on := 29, ground := .phase }, { on := 30, ground := .phase }, { on := 31, ground := .phase }, { on := 32, ground := .phase }, { on := 33, ground := .phase }, { on := 34, ground := .phase }], guard := none } (.bool true) (Or.inl ⟨by rfl, by intro w hSw; clear hSw; go_simp⟩) hS2 ?_
    try simp only [Act.put, zq1, zq2, zq3]
    refine wpAnyH_done (by kernel_rfl) ?_ _
    go_wp2_with fail
    go_meet
    exact ⟨rfl, Lib.hid hS2⟩
  case rest =>
    obtain ⟨rfl, hb4⟩ := hcut
    go_upto_region 5 with fail
    obtain ⟨w4, hw4⟩ : ∃ x, wc = x := ⟨_, rfl⟩
    rw [hw4] at hb4 ⊢
    clear hw4
    go_cut [12] (fun s11 wx => s11 = .bool true ∧ Hid (Bel Z wx))
    case first =>
      replace hb4 := hb4
      refine wp_region_held_drew (S := fun Vx => Bel w4 Vx) (by kernel_rfl) (Bel.refl _).drew (fun hS0 => ?_)
      obtain ⟨w6, hw6⟩ : ∃ w6, World.drew w4 = w6 := ⟨_, rfl⟩
      rw [hw6] at hS0 ⊢
      clear hw6
      refine ztk 0 { dst := some 76, op := .load 25 (.tmp 1), type := 25, pos := "outright.go:51", after := #[], guard := none } (.agg #[.slice A1 2 c1, .slice A2 3 c2]) (yieldsIf_load_mid (by rfl) _ _ rfl _ _ rfl _ _ (fun w h => rng_bel (rngB (C := [.slice A1 2 c1, .slice A2 3 c2]) VH.out.blk) (hb4.out.trans h)) Tryz.underlying25 rfl info_h) hS0 ?_
      try simp only [Act.put, zq1, zq2, zq3]
      refine wpAnyH_ready (rs := [1]) (by kernel_rfl) (by simp) ?_
      refine AllReadyH.cons (o := { dst := some 77, op := .call { callee := .value (.func 50), args := #[.const (Value.int IntKind.i64 3), .const (Value.int IntKind.i64 6)], argTypes := #[3, 3] }, type := 37, pos := "outright.go:51", after := #[], guard := none }) rfl (fun K hK => ?_) AllReadyH.nil
      go_simp
      refine (AT.out 3 6 _).mono ?_
      rintro e v1 ⟨rfl, kb⟩
      go_wp2_with fail
      refine hK.out _ _ (hS0.trans kb) (fun hS1 => ?_)
      clear hK K
      try simp only [Act.put, zq1, zq2, zq3]
      refine ztk 2 { dst := some 78, op := .build 39 #[(0, .const (Value.int IntKind.i64 1)), (2, .tmp 77), (5, .const (Value.int IntKind.u64 1))], type := 39, pos := "outright.go:51", after := #[{ on := 1, ground := .data }], guard := none } (.agg #[.int .i64 1, .int .i64 0, .int .i64 3, .int .i64 6, .int .i64 (-1), .int .i64 0, .int .i64 0, .int .i64 0, .int .u64 1]) (Or.inl ⟨by rfl, by intro w hSw; clear hSw; go_simp⟩) hS1 ?_
      try simp only [Act.put, zq1, zq2, zq3]
      refine wpAnyH_ready (rs := [3]) (by kernel_rfl) (by simp) ?_
      refine AllReadyH.cons (o := { dst := some 79, op := .call { callee := .value (.func 49), args := #[.tmp 76, .tmp 78, .const (Value.int IntKind.i64 10)], argTypes := #[25, 39, 30] }, type := 4, pos := "outright.go:51", after := #[{ on := 0, ground := .data }, { on := 2, ground := .data }, { on := 1, ground := .chain }], guard := none }) rfl (fun K hK => ?_) AllReadyH.nil
      go_simp
      refine (E2'.out _ (hb4.out.trans hS1)).mono ?_
      rintro e v2 ⟨rfl, kb⟩
      go_wp2_with fail
      refine hK.out _ _ (hS1.trans kb) (fun hS2 => ?_)
      clear hK K
      try simp only [Act.put, zq1, zq2, zq3]
      refine ztk 4 { dst := some 80, op := .move (.tmp 79), type := 4, pos := "outright.go:51", after := #[{ on := 3, ground := .data }, { on := 3, ground := .chain }], guard := none } (.bool true) (Or.inl ⟨by rfl, by intro w hSw; clear hSw; go_simp⟩) hS2 ?_
      try simp only [Act.put, zq1, zq2, zq3]
      refine ztk 5 { dst := some 81, op := .load 25 (.tmp 1), type := 25, pos := "outright.go:51", after := #[{ on := 4, ground := .guard }], guard := some (4, true) } (.agg #[.slice A1 2 c1, .slice A2 3 c2]) (yieldsIf_load_mid (by rfl) _ _ rfl _ _ rfl _ _ (fun w h => rng_bel (rngB (C := [.slice A1 2 c1, .slice A2 3 c2]) VH.out.blk) (hb4.out.trans h)) Tryz.underlying25 rfl info_h) hS2 ?_
      try simp only [Act.put, zq1, zq2, zq3]
      refine wpAnyH_ready (rs := [6]) (by kernel_rfl) (by simp) ?_
      refine AllReadyH.cons (o := { dst := some 82, op := .call { callee := .value (.func 50), args := #[.const (Value.int IntKind.i64 2), .const (Value.int IntKind.i64 5)], argTypes := #[3, 3] }, type := 37, pos := "outright.go:51", after := #[{ on := 4, ground := .chain }, { on := 4, ground := .guard }], guard := some (4, true) }) rfl (fun K hK => ?_) AllReadyH.nil
      go_simp
      refine (AT.out 2 5 _).mono ?_
      rintro e v3 ⟨rfl, kb⟩
      go_wp2_with fail
      refine hK.out _ _ (hS2.trans kb) (fun hS3 => ?_)
      clear hK K
      try simp only [Act.put, zq1, zq2, zq3]
      refine ztk 7 { dst := some 83, op := .build 39 #[(0, .const (Value.int IntKind.i64 1)), (2, .tmp 82), (5, .const (Value.int IntKind.u64 11))], type := 39, pos := "outright.go:51", after := #[{ on := 6, ground := .data }, { on := 4, ground := .guard }], guard := some (4, true) } (.agg #[.int .i64 1, .int .i64 0, .int .i64 2, .int .i64 5, .int .i64 (-1), .int .i64 0, .int .i64 0, .int .i64 0, .int .u64 11]) (Or.inl ⟨by rfl, by intro w hSw; clear hSw; go_simp⟩) hS3 ?_
      try simp only [Act.put, zq1, zq2, zq3]
      refine wpAnyH_ready (rs := [8]) (by kernel_rfl) (by simp) ?_
      refine AllReadyH.cons (o := { dst := some 84, op := .call { callee := .value (.func 49), args := #[.tmp 81, .tmp 83, .const (Value.int IntKind.i64 13)], argTypes := #[25, 39, 30] }, type := 4, pos := "outright.go:51", after := #[{ on := 5, ground := .data }, { on := 7, ground := .data }, { on := 6, ground := .chain }, { on := 4, ground := .guard }], guard := some (4, true) }) rfl (fun K hK => ?_) AllReadyH.nil
      go_simp
      refine (E3'.out _ (hb4.out.trans hS3)).mono ?_
      rintro e v4 ⟨rfl, kb⟩
      go_wp2_with fail
      refine hK.out _ _ (hS3.trans kb) (fun hS4 => ?_)
      clear hK K
      try simp only [Act.put, zq1, zq2, zq3]
      refine ztk 9 { dst := some 85, op := .pick (.tmp 80) (.tmp 84) (.const (Value.bool false)), type := 4, pos := "outright.go:51", after := #[{ on := 4, ground := .data }, { on := 8, ground := .data }], guard := none } (.bool true) (Or.inl ⟨by rfl, by intro w hSw; clear hSw; go_simp⟩) hS4 ?_
      try simp only [Act.put, zq1, zq2, zq3]
      refine ztk 10 { dst := some 86, op := .move (.tmp 85), type := 4, pos := "outright.go:51", after := #[{ on := 9, ground := .data }, { on := 8, ground := .chain }], guard := none } (.bool true) (Or.inl ⟨by rfl, by intro w hSw; clear hSw; go_simp⟩) hS4 ?_
      try simp only [Act.put, zq1, zq2, zq3]
      refine ztk 11 { dst := some 87, op := .load 25 (.tmp 1), type := 25, pos := "outright.go:51", after := #[{ on := 10, ground := .guard }], guard := some (10, true) } (.agg #[.slice A1 2 c1, .slice A2 3 c2]) (yieldsIf_load_mid (by rfl) _ _ rfl _ _ rfl _ _ (fun w h => rng_bel (rngB (C := [.slice A1 2 c1, .slice A2 3 c2]) VH.out.blk) (hb4.out.trans h)) Tryz.underlying25 rfl info_h) hS4 ?_
      try simp only [Act.put, zq1, zq2, zq3]
      refine wpAnyH_ready (rs := [12]) (by kernel_rfl) (by simp) ?_
      refine AllReadyH.cons (o := { dst := some 88, op := .call { callee := .value (.func 50), args := #[.const (Value.int IntKind.i64 2), .const (Value.int IntKind.i64 5)], argTypes := #[3, 3] }, type := 37, pos := "outright.go:51", after := #[{ on := 10, ground := .chain }, { on := 10, ground := .guard }], guard := some (10, true) }) rfl (fun K hK => ?_) AllReadyH.nil
      go_simp
      refine (AT.out 2 5 _).mono ?_
      rintro e v5 ⟨rfl, kb⟩
      go_wp2_with fail
      refine hK.out _ _ (hS4.trans kb) (fun hS5 => ?_)
      clear hK K
      try simp only [Act.put, zq1, zq2, zq3]
      refine ztk 13 { dst := some 89, op := .build 39 #[(0, .const (Value.int IntKind.i64 1)), (2, .tmp 88)], type := 39, pos := "outright.go:51", after := #[{ on := 12, ground := .data }, { on := 10, ground := .guard }], guard := some (10, true) } (.agg #[.int .i64 1, .int .i64 0, .int .i64 2, .int .i64 5, .int .i64 (-1), .int .i64 0, .int .i64 0, .int .i64 0, .int .u64 0]) (Or.inl ⟨by rfl, by intro w hSw; clear hSw; go_simp⟩) hS5 ?_
      try simp only [Act.put, zq1, zq2, zq3]
      refine wpAnyH_ready (rs := [14]) (by kernel_rfl) (by simp) ?_
      refine AllReadyH.cons (o := { dst := some 90, op := .call { callee := .value (.func 49), args := #[.tmp 87, .tmp 89, .const (Value.int IntKind.i64 14)], argTypes := #[25, 39, 30] }, type := 4, pos := "outright.go:51", after := #[{ on := 11, ground := .data }, { on := 13, ground := .data }, { on := 12, ground := .chain }, { on := 10, ground := .guard }], guard := some (10, true) }) rfl (fun K hK => ?_) AllReadyH.nil
      go_simp
      refine (E4'.out _ (hb4.out.trans hS5)).mono ?_
      rintro e v6 ⟨rfl, kb⟩
      go_wp2_with fail
      refine hK.out _ _ (hS5.trans kb) (fun hS6 => ?_)
      clear hK K
      try simp only [Act.put, zq1, zq2, zq3]
      refine ztk 15 { dst := some 91, op := .pick (.tmp 86) (.tmp 90) (.const (Value.bool false)), type := 4, pos := "outright.go:51", after := #[{ on := 10, ground := .data }, { on := 14, ground := .data }], guard := none } (.bool true) (Or.inl ⟨by rfl, by intro w hSw; clear hSw; go_simp⟩) hS6 ?_
      try simp only [Act.put, zq1, zq2, zq3]
      refine ztk 16 { dst := some 12, op := .assign (.tmp 91), type := 4, pos := "outright.go:51", after := #[{ on := 15, ground := .data }, { on := 14, ground := .chain }, { on := 0, ground := .phase }, { on := 1, ground := .phase }, { on := 2, ground := .phase }, { on := 3, ground := .phase }, { on := 4, ground := .phase }, { on := 5, ground := .phase }, { on := 6, ground := .phase }, { on := 7, ground := .phase }, { on := 8, ground := .phase }, { on := 9, ground := .phase }, { on := 10, ground := .phase }, { on := 11, ground := .phase }, { on := 12, ground := .phase }, { on := 13, ground := .phase }, { on := 14, ground := .phase }, { on := 15, ground := .phase }], guard := none } (.bool true) (Or.inl ⟨by rfl, by intro w hSw; clear hSw; go_simp⟩) hS6 ?_
      try simp only [Act.put, zq1, zq2, zq3]
      refine wpAnyH_done (by kernel_rfl) ?_ _
      go_wp2_with fail
      go_meet
      exact ⟨rfl, Lib.hid (hb4.out.trans hS6)⟩
    case rest =>
      obtain ⟨rfl, hb5⟩ := hcut
      go_upto_region 6 with fail
      obtain ⟨w5, hw5⟩ : ∃ x, wc = x := ⟨_, rfl⟩
      rw [hw5] at hb5 ⊢
      clear hw5
      have LE := Lib.hid (fun U (hU : Bel Z U) => Leave_s A1 2 c1 A2 3 c2 (stC 3) (stP 3) 1 3 6 (-1) 0 7 U (VH.out.hh.bel hU) (by decide) (by decide) (E := 0) (N := 7) (C := kn1C) (P := kn1P) (n1 := 1) (n2 := 2) (by kernel_rfl) (by kernel_rfl) (by kernel_rfl) (by kernel_rfl) rfl rfl)
      go_cut [13, 14, 15] (fun s7 s8 s9 wx => ∃ (q : Nat) (B1 : Option Addr) (d1 : Nat) (B2 : Option Addr) (d2 : Nat), s7 = .pointer (some ⟨q, 0, none⟩) ∧ s8 = .int .u64 7 ∧ s9 = .int .i64 0 ∧ Hid (Vh wx q B1 1 d1 B2 2 d2 kn1C kn1P ∧ Bel Z wx))
      case first =>
        refine wp_region_held_drew (S := fun Vx => Bel w5 Vx) (by kernel_rfl) (Bel.refl _).drew (fun hS0 => ?_)
        obtain ⟨w6, hw6⟩ : ∃ w6, World.drew w5 = w6 := ⟨_, rfl⟩
        rw [hw6] at hS0 ⊢
        clear hw6
        refine ztk 0 { dst := some 93, op := .load 25 (.tmp 1), type := 25, pos := "outright.go:52", after := #[], guard := none } (.agg #[.slice A1 2 c1, .slice A2 3 c2]) (yieldsIf_load_mid (by rfl) _ _ rfl _ _ rfl _ _ (fun w h => rng_bel (rngB (C := [.slice A1 2 c1, .slice A2 3 c2]) VH.out.blk) (hb5.out.trans h)) Tryz.underlying25 rfl info_h) hS0 ?_
        try simp only [Act.put, zq1, zq2, zq3]
        refine wpAnyH_ready (rs := [1, 7]) (by kernel_rfl) (by simp) ?_
        refine AllReadyH.cons (o := { dst := some 94, op := .call { callee := .value (.func 50), args := #[.const (Value.int IntKind.i64 3), .const (Value.int IntKind.i64 6)], argTypes := #[3, 3] }, type := 37, pos := "outright.go:52", after := #[], guard := none }) rfl (fun K hK => ?_) (AllReadyH.cons (o := { dst := some 13, op := .alloc 25, type := 0, pos := "outright.go:52", after := #[], guard := none }) rfl (fun K hK => ?_) AllReadyH.nil)
        · go_simp
          refine (AT.out 3 6 _).mono ?_
          rintro e v1 ⟨rfl, ka⟩
          go_wp2_with fail
          refine hK.out _ _ (hS0.trans ka) (fun hS1 => ?_)
          clear hK K
          try simp only [Act.put, zq1, zq2, zq3]
          refine wpAnyH_ready (rs := [2, 7]) (by kernel_rfl) (by simp) ?_
          refine AllReadyH.cons (o := { dst := some 95, op := .call { callee := .value (.func 51), args := #[.tmp 93, .const (Value.int IntKind.i64 1), .tmp 94, .const (Value.int IntKind.u64 7)], argTypes := #[25, 3, 37, 32] }, type := 80, pos := "outright.go:52", after := #[{ on := 0, ground := .data }, { on := 1, ground := .data }, { on := 1, ground := .chain }], guard := none }) rfl (fun K hK => ?_) (AllReadyH.cons (o := { dst := some 13, op := .alloc 25, type := 0, pos := "outright.go:52", after := #[], guard := none }) rfl (fun K hK => ?_) AllReadyH.nil)
          · go_simp
            refine (LE.out _ (hb5.out.trans hS1)).mono ?_
            rintro e v2 ⟨F1, k1, F2, k2, rfl, own1, own2, kb⟩
            go_wp2_with fail
            refine hK.out _ _ (hS1.trans kb) (fun hS2 => ?_)
            clear hK K
            try simp only [Act.put, zq1, zq2, zq3]
            refine ztk 3 { dst := some 92, op := .move (.tmp 95), type := 80, pos := "outright.go:52", after := #[{ on := 2, ground := .data }], guard := none } (.tuple #[.agg #[.slice F1 1 k1, .slice F2 2 k2], .int .u64 7, .int .i64 0]) (Or.inl ⟨by rfl, by intro w hSw; clear hSw; go_simp⟩) hS2 ?_
            try simp only [Act.put, zq1, zq2, zq3]
            refine ztk 4 { dst := some 96, op := .extract (.tmp 92) 0, type := 25, pos := "outright.go:52", after := #[{ on := 3, ground := .data }], guard := none } (.agg #[.slice F1 1 k1, .slice F2 2 k2]) (Or.inl ⟨by rfl, by intro w hSw; clear hSw; go_simp⟩) hS2 ?_
            try simp only [Act.put, zq1, zq2, zq3]
            refine ztk 5 { dst := some 97, op := .extract (.tmp 92) 1, type := 32, pos := "outright.go:52", after := #[{ on := 3, ground := .data }, { on := 8, ground := .gcOnly .lateStores }], guard := none } (.int .u64 7) (Or.inl ⟨by rfl, by intro w hSw; clear hSw; go_simp⟩) hS2 ?_
            try simp only [Act.put, zq1, zq2, zq3]
            refine ztk 6 { dst := some 98, op := .extract (.tmp 92) 2, type := 30, pos := "outright.go:52", after := #[{ on := 3, ground := .data }, { on := 9, ground := .gcOnly .lateStores }], guard := none } (.int .i64 0) (Or.inl ⟨by rfl, by intro w hSw; clear hSw; go_simp⟩) hS2 ?_
            try simp only [Act.put, zq1, zq2, zq3]
            refine wpAnyH_ready (rs := [7]) (by kernel_rfl) (by simp) ?_
            refine AllReadyH.cons (o := { dst := some 13, op := .alloc 25, type := 0, pos := "outright.go:52", after := #[], guard := none }) rfl (fun K hK => ?_) AllReadyH.nil
            go_simp
            refine hK.out _ _ (hS2.alloc _) (fun hS3 => ?_)
            clear hK K
            try simp only [Act.put, zq1, zq2, zq3]
            have gnb := Blk.new v2 #[.slice none 0 0, .slice none 0 0] 25
            have gnl := Lib.hid (Below.size hS2)
            generalize hvq : World.alloc v2 (Obj.cells #[.slice none 0 0, .slice none 0 0] 25) = v3 at gnb hS3 ⊢
            have gnk : Bel v2 v3 := by rw [← hvq]; exact (Bel.refl _).alloc _
            clear hvq
            obtain ⟨gn, hgq⟩ : ∃ g, (World.heap v2).size = g := ⟨_, rfl⟩
            rw [hgq] at gnb gnl ⊢
            clear hgq
            have gnb := Lib.hid gnb
            refine wpAnyH_ready (rs := [8]) (by kernel_rfl) (by simp) ?_
            refine AllReadyH.cons (o := { dst := none, op := .store 25 (.tmp 13) (.tmp 96), type := 0, pos := "outright.go:52", after := #[{ on := 7, ground := .data }, { on := 4, ground := .data }, { on := 2, ground := .chain }, { on := 0, ground := .phase }, { on := 1, ground := .phase }, { on := 2, ground := .phase }, { on := 3, ground := .phase }, { on := 4, ground := .phase }, { on := 5, ground := .textOnly .lateStores }, { on := 6, ground := .textOnly .lateStores }, { on := 7, ground := .phase }], guard := none }) rfl (fun K hK => ?_) AllReadyH.nil
            have QB : Blk v3 gn #[.slice none 0 0, .slice none 0 0] 25 := by first | exact gnb.out | exact gnb.out.bel kb | exact (gnb.out.bel ka).bel kb
            have OO1 : ∃ base, OwnR cC 90 v3 base (.slice F1 1 k1) kn1C := by first | exact ⟨_, OwnR.bel own1 gnk⟩ | exact ⟨_, own1⟩
            have OO2 : ∃ base, OwnR cP 93 v3 base (.slice F2 2 k2) kn1P := by first | exact ⟨_, OwnR.bel own2 gnk⟩ | exact ⟨_, own2⟩
            have q0 := QB.cell 0 rfl
            have q1 := QB.cell 1 rfl
            have qf0 := QB.frozen 0
            have qf1 := QB.frozen 1
            go_simp
            refine hK.out _ _ ((hS3.set (p := ⟨gn, 0, none⟩) gnl.out _).set (p := ⟨gn, 1, none⟩) gnl.out _) (fun hS4 => ?_)
            clear hK K
            try simp only [Act.put, zq1, zq2, zq3]
            refine ztk 9 { dst := some 14, op := .assign (.tmp 97), type := 32, pos := "outright.go:52", after := #[{ on := 5, ground := .data }, { on := 8, ground := .chain }, { on := 0, ground := .phase }, { on := 1, ground := .phase }, { on := 2, ground := .phase }, { on := 3, ground := .phase }, { on := 4, ground := .phase }, { on := 5, ground := .phase }, { on := 6, ground := .textOnly .lateStores }, { on := 7, ground := .phase }, { on := 8, ground := .phase }], guard := none } (.int .u64 7) (Or.inl ⟨by rfl, by intro w hSw; clear hSw; go_simp⟩) hS4 ?_
            try simp only [Act.put, zq1, zq2, zq3]
            refine ztk 10 { dst := some 15, op := .assign (.tmp 98), type := 30, pos := "outright.go:52", after := #[{ on := 6, ground := .data }, { on := 9, ground := .chain }, { on := 0, ground := .phase }, { on := 1, ground := .phase }, { on := 2, ground := .phase }, { on := 3, ground := .phase }, { on := 4, ground := .phase }, { on := 5, ground := .phase }, { on := 6, ground := .phase }, { on := 7, ground := .phase }, { on := 8, ground := .phase }, { on := 9, ground := .phase }], guard := none } (.int .i64 0) (Or.inl ⟨by rfl, by intro w hSw; clear hSw; go_simp⟩) hS4 ?_
            try simp only [Act.put, zq1, zq2, zq3]
            refine wpAnyH_done (by kernel_rfl) ?_ _
            have KQ : Kep (fun b => b = gn) v3 ((v3.setCell ⟨gn, 0, none⟩ (.slice F1 1 k1)).setCell ⟨gn, 1, none⟩ (.slice F2 2 k2)) := Kep.set (S := fun b => b = gn) (Kep.set (S := fun b => b = gn) (Kep.refl _ _) rfl _) rfl _
            obtain ⟨_, OO1⟩ := OO1
            obtain ⟨_, OO2⟩ := OO2
            go_wp2_with fail
            go_meet
            exact ⟨gn, F1, k1, F2, k2, rfl, rfl, rfl, Lib.hid ⟨⟨(QB.set 0 _).set 1 _, hh_of (own_rsC (OO1.kep KQ (fun i e e' => own_ne OO1 QB (by decide) (e' ▸ e)))) (own_rsP (OO2.kep KQ (fun i e e' => own_ne OO2 QB (by decide) (e' ▸ e)))) (by decide) (by decide) kn1_wd⟩, hb5.out.trans hS4⟩⟩
          · go_simp
            refine hK.out _ _ (hS1.alloc _) (fun hS2 => ?_)
            clear hK K
            try simp only [Act.put, zq1, zq2, zq3]
            have gnb := Blk.new v1 #[.slice none 0 0, .slice none 0 0] 25
            have gnl := Lib.hid (Below.size hS1)
            generalize hvq : World.alloc v1 (Obj.cells #[.slice none 0 0, .slice none 0 0] 25) = v2 at gnb hS2 ⊢
            have gnk : Bel v1 v2 := by rw [← hvq]; exact (Bel.refl _).alloc _
            clear hvq
            obtain ⟨gn, hgq⟩ : ∃ g, (World.heap v1).size = g := ⟨_, rfl⟩
            rw [hgq] at gnb gnl ⊢
            clear hgq
            have gnb := Lib.hid gnb
            refine wpAnyH_ready (rs := [2]) (by kernel_rfl) (by simp) ?_
            refine AllReadyH.cons (o := { dst := some 95, op := .call { callee := .value (.func 51), args := #[.tmp 93, .const (Value.int IntKind.i64 1), .tmp 94, .const (Value.int IntKind.u64 7)], argTypes := #[25, 3, 37, 32] }, type := 80, pos := "outright.go:52", after := #[{ on := 0, ground := .data }, { on := 1, ground := .data }, { on := 1, ground := .chain }], guard := none }) rfl (fun K hK => ?_) AllReadyH.nil
            go_simp
            refine (LE.out _ (hb5.out.trans hS2)).mono ?_
            rintro e v3 ⟨F1, k1, F2, k2, rfl, own1, own2, kb⟩
            go_wp2_with fail
            refine hK.out _ _ (hS2.trans kb) (fun hS3 => ?_)
            clear hK K
            try simp only [Act.put, zq1, zq2, zq3]
            refine ztk 3 { dst := some 92, op := .move (.tmp 95), type := 80, pos := "outright.go:52", after := #[{ on := 2, ground := .data }], guard := none } (.tuple #[.agg #[.slice F1 1 k1, .slice F2 2 k2], .int .u64 7, .int .i64 0]) (Or.inl ⟨by rfl, by intro w hSw; clear hSw; go_simp⟩) hS3 ?_
            try simp only [Act.put, zq1, zq2, zq3]
            refine ztk 4 { dst := some 96, op := .extract (.tmp 92) 0, type := 25, pos := "outright.go:52", after := #[{ on := 3, ground := .data }], guard := none } (.agg #[.slice F1 1 k1, .slice F2 2 k2]) (Or.inl ⟨by rfl, by intro w hSw; clear hSw; go_simp⟩) hS3 ?_
            try simp only [Act.put, zq1, zq2, zq3]
            refine ztk 5 { dst := some 97, op := .extract (.tmp 92) 1, type := 32, pos := "outright.go:52", after := #[{ on := 3, ground := .data }, { on := 8, ground := .gcOnly .lateStores }], guard := none } (.int .u64 7) (Or.inl ⟨by rfl, by intro w hSw; clear hSw; go_simp⟩) hS3 ?_
            try simp only [Act.put, zq1, zq2, zq3]
            refine ztk 6 { dst := some 98, op := .extract (.tmp 92) 2, type := 30, pos := "outright.go:52", after := #[{ on := 3, ground := .data }, { on := 9, ground := .gcOnly .lateStores }], guard := none } (.int .i64 0) (Or.inl ⟨by rfl, by intro w hSw; clear hSw; go_simp⟩) hS3 ?_
            try simp only [Act.put, zq1, zq2, zq3]
            refine wpAnyH_ready (rs := [8]) (by kernel_rfl) (by simp) ?_
            refine AllReadyH.cons (o := { dst := none, op := .store 25 (.tmp 13) (.tmp 96), type := 0, pos := "outright.go:52", after := #[{ on := 7, ground := .data }, { on := 4, ground := .data }, { on := 2, ground := .chain }, { on := 0, ground := .phase }, { on := 1, ground := .phase }, { on := 2, ground := .phase }, { on := 3, ground := .phase }, { on := 4, ground := .phase }, { on := 5, ground := .textOnly .lateStores }, { on := 6, ground := .textOnly .lateStores }, { on := 7, ground := .phase }], guard := none }) rfl (fun K hK => ?_) AllReadyH.nil
            have QB : Blk v3 gn #[.slice none 0 0, .slice none 0 0] 25 := by first | exact gnb.out | exact gnb.out.bel kb | exact (gnb.out.bel ka).bel kb
            have OO1 : ∃ base, OwnR cC 90 v3 base (.slice F1 1 k1) kn1C := by first | exact ⟨_, OwnR.bel own1 gnk⟩ | exact ⟨_, own1⟩
            have OO2 : ∃ base, OwnR cP 93 v3 base (.slice F2 2 k2) kn1P := by first | exact ⟨_, OwnR.bel own2 gnk⟩ | exact ⟨_, own2⟩
            have q0 := QB.cell 0 rfl
            have q1 := QB.cell 1 rfl
            have qf0 := QB.frozen 0
            have qf1 := QB.frozen 1
            go_simp
            refine hK.out _ _ ((hS3.set (p := ⟨gn, 0, none⟩) gnl.out _).set (p := ⟨gn, 1, none⟩) gnl.out _) (fun hS4 => ?_)
            clear hK K
            try simp only [Act.put, zq1, zq2, zq3]
            refine ztk 9 { dst := some 14, op := .assign (.tmp 97), type := 32, pos := "outright.go:52", after := #[{ on := 5, ground := .data }, { on := 8, ground := .chain }, { on := 0, ground := .phase }, { on := 1, ground := .phase }, { on := 2, ground := .phase }, { on := 3, ground := .phase }, { on := 4, ground := .phase }, { on := 5, ground := .phase }, { on := 6, ground := .textOnly .lateStores }, { on := 7, ground := .phase }, { on := 8, ground := .phase }], guard := none } (.int .u64 7) (Or.inl ⟨by rfl, by intro w hSw; clear hSw; go_simp⟩) hS4 ?_
            try simp only [Act.put, zq1, zq2, zq3]
            refine ztk 10 { dst := some 15, op := .assign (.tmp 98), type := 30, pos := "outright.go:52", after := #[{ on := 6, ground := .data }, { on := 9, ground := .chain }, { on := 0, ground := .phase }, { on := 1, ground := .phase }, { on := 2, ground := .phase }, { on := 3, ground := .phase }, { on := 4, ground := .phase }, { on := 5, ground := .phase }, { on := 6, ground := .phase }, { on := 7, ground := .phase }, { on := 8, ground := .phase }, { on := 9, ground := .phase }], guard := none } (.int .i64 0) (Or.inl ⟨by rfl, by intro w hSw; clear hSw; go_simp⟩) hS4 ?_
            try simp only [Act.put, zq1, zq2, zq3]
            refine wpAnyH_done (by kernel_rfl) ?_ _
            have KQ : Kep (fun b => b = gn) v3 ((v3.setCell ⟨gn, 0, none⟩ (.slice F1 1 k1)).setCell ⟨gn, 1, none⟩ (.slice F2 2 k2)) := Kep.set (S := fun b => b = gn) (Kep.set (S := fun b => b = gn) (Kep.refl _ _) rfl _) rfl _
            obtain ⟨_, OO1⟩ := OO1
            obtain ⟨_, OO2⟩ := OO2
            go_wp2_with fail
            go_meet
            exact ⟨gn, F1, k1, F2, k2, rfl, rfl, rfl, Lib.hid ⟨⟨(QB.set 0 _).set 1 _, hh_of (own_rsC (OO1.kep KQ (fun i e e' => own_ne OO1 QB (by decide) (e' ▸ e)))) (own_rsP (OO2.kep KQ (fun i e e' => own_ne OO2 QB (by decide) (e' ▸ e)))) (by decide) (by decide) kn1_wd⟩, hb5.out.trans hS4⟩⟩
        · go_simp
          refine hK.out _ _ (hS0.alloc _) (fun hS1 => ?_)
          clear hK K
          try simp only [Act.put, zq1, zq2, zq3]
          have gnb := Blk.new w6 #[.slice none 0 0, .slice none 0 0] 25
          have gnl := Lib.hid (Below.size hS0)
          generalize hvq : World.alloc w6 (Obj.cells #[.slice none 0 0, .slice none 0 0] 25) = v1 at gnb hS1 ⊢
          have gnk : Bel w6 v1 := by rw [← hvq]; exact (Bel.refl _).alloc _
          clear hvq
          obtain ⟨gn, hgq⟩ : ∃ g, (World.heap w6).size = g := ⟨_, rfl⟩
          rw [hgq] at gnb gnl ⊢
          clear hgq
          have gnb := Lib.hid gnb
          refine wpAnyH_ready (rs := [1]) (by kernel_rfl) (by simp) ?_
          refine AllReadyH.cons (o := { dst := some 94, op := .call { callee := .value (.func 50), args := #[.const (Value.int IntKind.i64 3), .const (Value.int IntKind.i64 6)], argTypes := #[3, 3] }, type := 37, pos := "outright.go:52", after := #[], guard := none }) rfl (fun K hK => ?_) AllReadyH.nil
          go_simp
          refine (AT.out 3 6 _).mono ?_
          rintro e v2 ⟨rfl, ka⟩
          go_wp2_with fail
          refine hK.out _ _ (hS1.trans ka) (fun hS2 => ?_)
          clear hK K
          try simp only [Act.put, zq1, zq2, zq3]
          refine wpAnyH_ready (rs := [2]) (by kernel_rfl) (by simp) ?_
          refine AllReadyH.cons (o := { dst := some 95, op := .call { callee := .value (.func 51), args := #[.tmp 93, .const (Value.int IntKind.i64 1), .tmp 94, .const (Value.int IntKind.u64 7)], argTypes := #[25, 3, 37, 32] }, type := 80, pos := "outright.go:52", after := #[{ on := 0, ground := .data }, { on := 1, ground := .data }, { on := 1, ground := .chain }], guard := none }) rfl (fun K hK => ?_) AllReadyH.nil
          go_simp
          refine (LE.out _ (hb5.out.trans hS2)).mono ?_
          rintro e v3 ⟨F1, k1, F2, k2, rfl, own1, own2, kb⟩
          go_wp2_with fail
          refine hK.out _ _ (hS2.trans kb) (fun hS3 => ?_)
          clear hK K
          try simp only [Act.put, zq1, zq2, zq3]
          refine ztk 3 { dst := some 92, op := .move (.tmp 95), type := 80, pos := "outright.go:52", after := #[{ on := 2, ground := .data }], guard := none } (.tuple #[.agg #[.slice F1 1 k1, .slice F2 2 k2], .int .u64 7, .int .i64 0]) (Or.inl ⟨by rfl, by intro w hSw; clear hSw; go_simp⟩) hS3 ?_
          try simp only [Act.put, zq1, zq2, zq3]
          refine ztk 4 { dst := some 96, op := .extract (.tmp 92) 0, type := 25, pos := "outright.go:52", after := #[{ on := 3, ground := .data }], guard := none } (.agg #[.slice F1 1 k1, .slice F2 2 k2]) (Or.inl ⟨by rfl, by intro w hSw; clear hSw; go_simp⟩) hS3 ?_
          try simp only [Act.put, zq1, zq2, zq3]
          refine ztk 5 { dst := some 97, op := .extract (.tmp 92) 1, type := 32, pos := "outright.go:52", after := #[{ on := 3, ground := .data }, { on := 8, ground := .gcOnly .lateStores }], guard := none } (.int .u64 7) (Or.inl ⟨by rfl, by intro w hSw; clear hSw; go_simp⟩) hS3 ?_
          try simp only [Act.put, zq1, zq2, zq3]
          refine ztk 6 { dst := some 98, op := .extract (.tmp 92) 2, type := 30, pos := "outright.go:52", after := #[{ on := 3, ground := .data }, { on := 9, ground := .gcOnly .lateStores }], guard := none } (.int .i64 0) (Or.inl ⟨by rfl, by intro w hSw; clear hSw; go_simp⟩) hS3 ?_
          try simp only [Act.put, zq1, zq2, zq3]
          refine wpAnyH_ready (rs := [8]) (by kernel_rfl) (by simp) ?_
          refine AllReadyH.cons (o := { dst := none, op := .store 25 (.tmp 13) (.tmp 96), type := 0, pos := "outright.go:52", after := #[{ on := 7, ground := .data }, { on := 4, ground := .data }, { on := 2, ground := .chain }, { on := 0, ground := .phase }, { on := 1, ground := .phase }, { on := 2, ground := .phase }, { on := 3, ground := .phase }, { on := 4, ground := .phase }, { on := 5, ground := .textOnly .lateStores }, { on := 6, ground := .textOnly .lateStores }, { on := 7, ground := .phase }], guard := none }) rfl (fun K hK => ?_) AllReadyH.nil
          have QB : Blk v3 gn #[.slice none 0 0, .slice none 0 0] 25 := by first | exact gnb.out | exact gnb.out.bel kb | exact (gnb.out.bel ka).bel kb
          have OO1 : ∃ base, OwnR cC 90 v3 base (.slice F1 1 k1) kn1C := by first | exact ⟨_, OwnR.bel own1 gnk⟩ | exact ⟨_, own1⟩
          have OO2 : ∃ base, OwnR cP 93 v3 base (.slice F2 2 k2) kn1P := by first | exact ⟨_, OwnR.bel own2 gnk⟩ | exact ⟨_, own2⟩
          have q0 := QB.cell 0 rfl
          have q1 := QB.cell 1 rfl
          have qf0 := QB.frozen 0
          have qf1 := QB.frozen 1
          go_simp
          refine hK.out _ _ ((hS3.set (p := ⟨gn, 0, none⟩) gnl.out _).set (p := ⟨gn, 1, none⟩) gnl.out _) (fun hS4 => ?_)
          clear hK K
          try simp only [Act.put, zq1, zq2, zq3]
          refine ztk 9 { dst := some 14, op := .assign (.tmp 97), type := 32, pos := "outright.go:52", after := #[{ on := 5, ground := .data }, { on := 8, ground := .chain }, { on := 0, ground := .phase }, { on := 1, ground := .phase }, { on := 2, ground := .phase }, { on := 3, ground := .phase }, { on := 4, ground := .phase }, { on := 5, ground := .phase }, { on := 6, ground := .textOnly .lateStores }, { on := 7, ground := .phase }, { on := 8, ground := .phase }], guard := none } (.int .u64 7) (Or.inl ⟨by rfl, by intro w hSw; clear hSw; go_simp⟩) hS4 ?_
          try simp only [Act.put, zq1, zq2, zq3]
          refine ztk 10 { dst := some 15, op := .assign (.tmp 98), type := 30, pos := "outright.go:52", after := #[{ on := 6, ground := .data }, { on := 9, ground := .chain }, { on := 0, ground := .phase }, { on := 1, ground := .phase }, { on := 2, ground := .phase }, { on := 3, ground := .phase }, { on := 4, ground := .phase }, { on := 5, ground := .phase }, { on := 6, ground := .phase }, { on := 7, ground := .phase }, { on := 8, ground := .phase }, { on := 9, ground := .phase }], guard := none } (.int .i64 0) (Or.inl ⟨by rfl, by intro w hSw; clear hSw; go_simp⟩) hS4 ?_
          try simp only [Act.put, zq1, zq2, zq3]
          refine wpAnyH_done (by kernel_rfl) ?_ _
          have KQ : Kep (fun b => b = gn) v3 ((v3.setCell ⟨gn, 0, none⟩ (.slice F1 1 k1)).setCell ⟨gn, 1, none⟩ (.slice F2 2 k2)) := Kep.set (S := fun b => b = gn) (Kep.set (S := fun b => b = gn) (Kep.refl _ _) rfl _) rfl _
          obtain ⟨_, OO1⟩ := OO1
          obtain ⟨_, OO2⟩ := OO2
          go_wp2_with fail
          go_meet
          exact ⟨gn, F1, k1, F2, k2, rfl, rfl, rfl, Lib.hid ⟨⟨(QB.set 0 _).set 1 _, hh_of (own_rsC (OO1.kep KQ (fun i e e' => own_ne OO1 QB (by decide) (e' ▸ e)))) (own_rsP (OO2.kep KQ (fun i e e' => own_ne OO2 QB (by decide) (e' ▸ e)))) (by decide) (by decide) kn1_wd⟩, hb5.out.trans hS4⟩⟩
      case rest =>
        obtain ⟨q, F1, k1, F2, k2, rfl, rfl, rfl, hh⟩ := hcut
        have VF := Lib.hid hh.out.1
        have hb6 := Lib.hid hh.out.2
        clear hh LE
        go_upto_region 7 with fail
        obtain ⟨y6, hy6⟩ : ∃ x, wc = x := ⟨_, rfl⟩
        rw [hy6] at VF hb6 ⊢
        clear hy6
        have SC := Lib.hid (show ∀ U, Bel y6 U → Calls Tryz.prog 38 #[.slice F1 1 k1, .slice A1 1 c1] U fun e w' => e = .returned (.bool true) ∧ Bel U w' from fun U hU => by
          have h := same_classes F1 A1 1 k1 1 c1 kn1C kn1C U (rsC (VF.out.hh.cls.bel hU)) (rsC ((VH.out.hh.cls.bel (hb6.out.trans hU)).part (m := 1) (by decide))) (by decide) (by decide)
          rw [decide_eq_true rfl] at h
          exact h)
        go_cut [12] (fun s11 wx => s11 = .bool true ∧ Hid (Bel Z wx))
        case first =>
          refine wp_region_held_drew (S := fun Vx => Bel y6 Vx) (by kernel_rfl) (Bel.refl _).drew (fun hS0 => ?_)
          obtain ⟨w6, hw6⟩ : ∃ w6, World.drew y6 = w6 := ⟨_, rfl⟩
          rw [hw6] at hS0 ⊢
          clear hw6
          refine ztk 0 { dst := some 99, op := .move (.tmp 12), type := 4, pos := "outright.go:53", after := #[], guard := none } (.bool true) (Or.inl ⟨by rfl, by intro w hSw; clear hSw; go_simp⟩) hS0 ?_
          try simp only [Act.put, zq1, zq2, zq3]
          refine ztk 1 { dst := some 100, op := .move (.tmp 99), type := 4, pos := "outright.go:53", after := #[{ on := 0, ground := .data }], guard := none } (.bool true) (Or.inl ⟨by rfl, by intro w hSw; clear hSw; go_simp⟩) hS0 ?_
          try simp only [Act.put, zq1, zq2, zq3]
          refine ztk 2 { dst := some 101, op := .move (.tmp 15), type := 30, pos := "outright.go:53", after := #[{ on := 1, ground := .guard }], guard := some (1, true) } (.int .i64 0) (Or.inl ⟨by rfl, by intro w hSw; clear hSw; go_simp⟩) hS0 ?_
          try simp only [Act.put, zq1, zq2, zq3]
          refine ztk 3 { dst := some 102, op := .binOp .eql 30 (.tmp 101) (.const (Value.int IntKind.i64 0)) 30, type := 4, pos := "outright.go:53", after := #[{ on := 2, ground := .data }, { on := 1, ground := .guard }], guard := some (1, true) } (.bool true) (Or.inl ⟨by rfl, by intro w hSw; clear hSw; go_simp⟩) hS0 ?_
          try simp only [Act.put, zq1, zq2, zq3]
          refine ztk 4 { dst := some 103, op := .pick (.tmp 100) (.tmp 102) (.const (Value.bool false)), type := 4, pos := "outright.go:53", after := #[{ on := 1, ground := .data }, { on := 3, ground := .data }], guard := none } (.bool true) (Or.inl ⟨by rfl, by intro w hSw; clear hSw; go_simp⟩) hS0 ?_
          try simp only [Act.put, zq1, zq2, zq3]
          refine ztk 5 { dst := some 104, op := .move (.tmp 103), type := 4, pos := "outright.go:53", after := #[{ on := 4, ground := .data }, { on := 1, ground := .chain }], guard := none } (.bool true) (Or.inl ⟨by rfl, by intro w hSw; clear hSw; go_simp⟩) hS0 ?_
          try simp only [Act.put, zq1, zq2, zq3]
          refine ztk 6 { dst := some 105, op := .move (.tmp 14), type := 32, pos := "outright.go:53", after := #[{ on := 5, ground := .guard }], guard := some (5, true) } (.int .u64 7) (Or.inl ⟨by rfl, by intro w hSw; clear hSw; go_simp⟩) hS0 ?_
          try simp only [Act.put, zq1, zq2, zq3]
          refine ztk 7 { dst := some 106, op := .binOp .eql 32 (.tmp 105) (.const (Value.int IntKind.u64 7)) 32, type := 4, pos := "outright.go:53", after := #[{ on := 6, ground := .data }, { on := 5, ground := .guard }], guard := some (5, true) } (.bool true) (Or.inl ⟨by rfl, by intro w hSw; clear hSw; go_simp⟩) hS0 ?_
          try simp only [Act.put, zq1, zq2, zq3]
          refine ztk 8 { dst := some 107, op := .pick (.tmp 104) (.tmp 106) (.const (Value.bool false)), type := 4, pos := "outright.go:53", after := #[{ on := 5, ground := .data }, { on := 7, ground := .data }], guard := none } (.bool true) (Or.inl ⟨by rfl, by intro w hSw; clear hSw; go_simp⟩) hS0 ?_
          try simp only [Act.put, zq1, zq2, zq3]
          refine ztk 9 { dst := some 108, op := .move (.tmp 107), type := 4, pos := "outright.go:53", after := #[{ on := 8, ground := .data }, { on := 5, ground := .chain }], guard := none } (.bool true) (Or.inl ⟨by rfl, by intro w hSw; clear hSw; go_simp⟩) hS0 ?_
          try simp only [Act.put, zq1, zq2, zq3]
          refine ztk 10 { dst := some 109, op := .fieldAddr 25 (.tmp 13) 0, type := 0, pos := "outright.go:53", after := #[{ on := 9, ground := .guard }], guard := some (9, true) } (.pointer (some ⟨q, 0, none⟩)) (Or.inl ⟨by rfl, by intro w hSw; clear hSw; go_simp⟩) hS0 ?_
          try simp only [Act.put, zq1, zq2, zq3]
          refine ztk 11 { dst := some 110, op := .load 22 (.tmp 109), type := 22, pos := "outright.go:53", after := #[{ on := 10, ground := .data }, { on := 9, ground := .guard }], guard := some (9, true) } (.slice F1 1 k1) (Or.inl ⟨by rfl, by intro w h; have hcell := ((VF.out.blk.bel h).cell 0 rfl); clear h; go_simp⟩) hS0 ?_
          try simp only [Act.put, zq1, zq2, zq3]
          refine ztk 12 { dst := some 111, op := .fieldAddr 25 (.tmp 1) 0, type := 0, pos := "outright.go:53", after := #[{ on := 9, ground := .guard }], guard := some (9, true) } (.pointer (some ⟨gh, 0, none⟩)) (Or.inl ⟨by rfl, by intro w hSw; clear hSw; go_simp⟩) hS0 ?_
          try simp only [Act.put, zq1, zq2, zq3]
          refine ztk 13 { dst := some 112, op := .load 22 (.tmp 111), type := 22, pos := "outright.go:53", after := #[{ on := 12, ground := .data }, { on := 9, ground := .guard }], guard := some (9, true) } (.slice A1 2 c1) (Or.inl ⟨by rfl, by intro w h; have hcell := ((VH.out.blk.bel (hb6.out.trans h)).cell 0 rfl); clear h; go_simp⟩) hS0 ?_
          try simp only [Act.put, zq1, zq2, zq3]
          refine ztk 14 { dst := some 113, op := .slice 22 (.tmp 112) none (some (.const (Value.int IntKind.i64 1))) none, type := 22, pos := "outright.go:53", after := #[{ on := 13, ground := .data }, { on := 9, ground := .guard }], guard := some (9, true) } (.slice A1 1 c1) (Or.inl ⟨by rfl, by intro w hSw; clear hSw; go_simp⟩) hS0 ?_
          try simp only [Act.put, zq1, zq2, zq3]
          refine wpAnyH_ready (rs := [15]) (by kernel_rfl) (by simp) ?_
          refine AllReadyH.cons (o := { dst := some 114, op := .call { callee := .value (.func 38), args := #[.tmp 110, .tmp 113], argTypes := #[22, 22] }, type := 4, pos := "outright.go:53", after := #[{ on := 11, ground := .data }, { on := 14, ground := .data }, { on := 9, ground := .chain }, { on := 9, ground := .guard }], guard := some (9, true) }) rfl (fun K hK => ?_) AllReadyH.nil
          go_simp
          refine (SC.out _ hS0).mono ?_
          rintro e v1 ⟨rfl, kb⟩
          go_wp2_with fail
          refine hK.out _ _ (hS0.trans kb) (fun hS1 => ?_)
          clear hK K
          try simp only [Act.put, zq1, zq2, zq3]
          refine ztk 16 { dst := some 115, op := .pick (.tmp 108) (.tmp 114) (.const (Value.bool false)), type := 4, pos := "outright.go:53", after := #[{ on := 9, ground := .data }, { on := 15, ground := .data }], guard := none } (.bool true) (Or.inl ⟨by rfl, by intro w hSw; clear hSw; go_simp⟩) hS1 ?_
          try simp only [Act.put, zq1, zq2, zq3]
          refine ztk 17 { dst := some 12, op := .assign (.tmp 115), type := 4, pos := "outright.go:53", after := #[{ on := 16, ground := .data }, { on := 15, ground := .chain }, { on := 0, ground := .phase }, { on := 1, ground := .phase }, { on := 2, ground := .phase }, { on := 3, ground := .phase }, { on := 4, ground := .phase }, { on := 5, ground := .phase }, { on := 6, ground := .phase }, { on := 7, ground := .phase }, { on := 8, ground := .phase }, { on := 9, ground := .phase }, { on := 10, ground := .phase }, { on := 11, ground := .phase }, { on := 12, ground := .phase }, { on := 13, ground := .phase }, { on := 14, ground := .phase }, { on := 15, ground := .phase }, { on := 16, ground := .phase }], guard := none } (.bool true) (Or.inl ⟨by rfl, by intro w hSw; clear hSw; go_simp⟩) hS1 ?_
          try simp only [Act.put, zq1, zq2, zq3]
          refine wpAnyH_done (by kernel_rfl) ?_ _
          go_wp2_with fail
          go_meet
          exact ⟨rfl, Lib.hid (hb6.out.trans hS1)⟩
        case rest =>
          obtain ⟨rfl, hb7⟩ := hcut
          go_upto_region 8 with fail
          obtain ⟨w7, hw7⟩ : ∃ x, wc = x := ⟨_, rfl⟩
          rw [hw7] at hb7 ⊢
          clear hw7
          go_cut [16] (fun s11 wx => s11 = .bool true ∧ Hid (Bel Z wx))
          case first =>
            refine wp_region_held_drew (S := fun Vx => Bel w7 Vx) (by kernel_rfl) (Bel.refl _).drew (fun hS0 => ?_)
            obtain ⟨w6, hw6⟩ : ∃ w6, World.drew w7 = w6 := ⟨_, rfl⟩
            rw [hw6] at hS0 ⊢
            clear hw6
            refine ztk 0 { dst := some 116, op := .load 25 (.tmp 1), type := 25, pos := "outright.go:54", after := #[], guard := none } (.agg #[.slice A1 2 c1, .slice A2 3 c2]) (yieldsIf_load_mid (by rfl) _ _ rfl _ _ rfl _ _ (fun w h => rng_bel (rngB (C := [.slice A1 2 c1, .slice A2 3 c2]) VH.out.blk) (hb7.out.trans h)) Tryz.underlying25 rfl info_h) hS0 ?_
            try simp only [Act.put, zq1, zq2, zq3]
            refine wpAnyH_ready (rs := [1]) (by kernel_rfl) (by simp) ?_
            refine AllReadyH.cons (o := { dst := some 117, op := .call { callee := .value (.func 50), args := #[.const (Value.int IntKind.i64 2), .const (Value.int IntKind.i64 5)], argTypes := #[3, 3] }, type := 37, pos := "outright.go:54", after := #[], guard := none }) rfl (fun K hK => ?_) AllReadyH.nil
            go_simp
            refine (AT.out 2 5 _).mono ?_
            rintro e v1 ⟨rfl, kb⟩
            go_wp2_with fail
            refine hK.out _ _ (hS0.trans kb) (fun hS1 => ?_)
            clear hK K
            try simp only [Act.put, zq1, zq2, zq3]
            refine ztk 2 { dst := some 118, op := .build 39 #[(1, .const (Value.int IntKind.i64 64)), (2, .tmp 117), (5, .const (Value.int IntKind.u64 1))], type := 39, pos := "outright.go:54", after := #[{ on := 1, ground := .data }], guard := none } (.agg #[.int .i64 0, .int .i64 64, .int .i64 2, .int .i64 5, .int .i64 (-1), .int .i64 0, .int .i64 0, .int .i64 0, .int .u64 1]) (Or.inl ⟨by rfl, by intro w hSw; clear hSw; go_simp⟩) hS1 ?_
            try simp only [Act.put, zq1, zq2, zq3]
            refine wpAnyH_ready (rs := [3]) (by kernel_rfl) (by simp) ?_
            refine AllReadyH.cons (o := { dst := some 119, op := .call { callee := .value (.func 49), args := #[.tmp 116, .tmp 118, .const (Value.int IntKind.i64 3)], argTypes := #[25, 39, 30] }, type := 4, pos := "outright.go:54", after := #[{ on := 0, ground := .data }, { on := 2, ground := .data }, { on := 1, ground := .chain }], guard := none }) rfl (fun K hK => ?_) AllReadyH.nil
            go_simp
            refine (E5'.out _ (hb7.out.trans hS1)).mono ?_
            rintro e v2 ⟨rfl, kb⟩
            go_wp2_with fail
            refine hK.out _ _ (hS1.trans kb) (fun hS2 => ?_)
            clear hK K
            try simp only [Act.put, zq1, zq2, zq3]
            refine ztk 4 { dst := some 120, op := .move (.tmp 119), type := 4, pos := "outright.go:54", after := #[{ on := 3, ground := .data }, { on := 3, ground := .chain }], guard := none } (.bool true) (Or.inl ⟨by rfl, by intro w hSw; clear hSw; go_simp⟩) hS2 ?_
            try simp only [Act.put, zq1, zq2, zq3]
            refine ztk 5 { dst := some 121, op := .load 25 (.tmp 1), type := 25, pos := "outright.go:54", after := #[{ on := 4, ground := .guard }], guard := some (4, true) } (.agg #[.slice A1 2 c1, .slice A2 3 c2]) (yieldsIf_load_mid (by rfl) _ _ rfl _ _ rfl _ _ (fun w h => rng_bel (rngB (C := [.slice A1 2 c1, .slice A2 3 c2]) VH.out.blk) (hb7.out.trans h)) Tryz.underlying25 rfl info_h) hS2 ?_
            try simp only [Act.put, zq1, zq2, zq3]
            refine wpAnyH_ready (rs := [6]) (by kernel_rfl) (by simp) ?_
            refine AllReadyH.cons (o := { dst := some 122, op := .call { callee := .value (.func 50), args := #[.const (Value.int IntKind.i64 2), .const (Value.int IntKind.i64 5)], argTypes := #[3, 3] }, type := 37, pos := "outright.go:54", after := #[{ on := 4, ground := .chain }, { on := 4, ground := .guard }], guard := some (4, true) }) rfl (fun K hK => ?_) AllReadyH.nil
            go_simp
            refine (AT.out 2 5 _).mono ?_
            rintro e v3 ⟨rfl, kb⟩
            go_wp2_with fail
            refine hK.out _ _ (hS2.trans kb) (fun hS3 => ?_)
            clear hK K
            try simp only [Act.put, zq1, zq2, zq3]
            refine ztk 7 { dst := some 123, op := .build 39 #[(2, .tmp 122)], type := 39, pos := "outright.go:54", after := #[{ on := 6, ground := .data }, { on := 4, ground := .guard }], guard := some (4, true) } (.agg #[.int .i64 0, .int .i64 0, .int .i64 2, .int .i64 5, .int .i64 (-1), .int .i64 0, .int .i64 0, .int .i64 0, .int .u64 0]) (Or.inl ⟨by rfl, by intro w hSw; clear hSw; go_simp⟩) hS3 ?_
            try simp only [Act.put, zq1, zq2, zq3]
            refine wpAnyH_ready (rs := [8]) (by kernel_rfl) (by simp) ?_
            refine AllReadyH.cons (o := { dst := some 124, op := .call { callee := .value (.func 49), args := #[.tmp 121, .tmp 123, .const (Value.int IntKind.i64 14)], argTypes := #[25, 39, 30] }, type := 4, pos := "outright.go:54", after := #[{ on := 5, ground := .data }, { on := 7, ground := .data }, { on := 6, ground := .chain }, { on := 4, ground := .guard }], guard := some (4, true) }) rfl (fun K hK => ?_) AllReadyH.nil
            go_simp
            refine (E6'.out _ (hb7.out.trans hS3)).mono ?_
            rintro e v4 ⟨rfl, kb⟩
            go_wp2_with fail
            refine hK.out _ _ (hS3.trans kb) (fun hS4 => ?_)
            clear hK K
            try simp only [Act.put, zq1, zq2, zq3]
            refine ztk 9 { dst := some 125, op := .pick (.tmp 120) (.tmp 124) (.const (Value.bool false)), type := 4, pos := "outright.go:54", after := #[{ on := 4, ground := .data }, { on := 8, ground := .data }], guard := none } (.bool true) (Or.inl ⟨by rfl, by intro w hSw; clear hSw; go_simp⟩) hS4 ?_
            try simp only [Act.put, zq1, zq2, zq3]
            refine ztk 10 { dst := some 126, op := .move (.tmp 125), type := 4, pos := "outright.go:54", after := #[{ on := 9, ground := .data }, { on := 8, ground := .chain }], guard := none } (.bool true) (Or.inl ⟨by rfl, by intro w hSw; clear hSw; go_simp⟩) hS4 ?_
            try simp only [Act.put, zq1, zq2, zq3]
            refine ztk 11 { dst := some 127, op := .load 25 (.tmp 1), type := 25, pos := "outright.go:54", after := #[{ on := 10, ground := .guard }], guard := some (10, true) } (.agg #[.slice A1 2 c1, .slice A2 3 c2]) (yieldsIf_load_mid (by rfl) _ _ rfl _ _ rfl _ _ (fun w h => rng_bel (rngB (C := [.slice A1 2 c1, .slice A2 3 c2]) VH.out.blk) (hb7.out.trans h)) Tryz.underlying25 rfl info_h) hS4 ?_
            try simp only [Act.put, zq1, zq2, zq3]
            refine wpAnyH_ready (rs := [12]) (by kernel_rfl) (by simp) ?_
            refine AllReadyH.cons (o := { dst := some 128, op := .call { callee := .value (.func 50), args := #[.const (Value.int IntKind.i64 2), .const (Value.int IntKind.i64 5)], argTypes := #[3, 3] }, type := 37, pos := "outright.go:54", after := #[{ on := 10, ground := .chain }, { on := 10, ground := .guard }], guard := some (10, true) }) rfl (fun K hK => ?_) AllReadyH.nil
            go_simp
            refine (AT.out 2 5 _).mono ?_
            rintro e v5 ⟨rfl, kb⟩
            go_wp2_with fail
            refine hK.out _ _ (hS4.trans kb) (fun hS5 => ?_)
            clear hK K
            try simp only [Act.put, zq1, zq2, zq3]
            refine ztk 13 { dst := some 129, op := .build 39 #[(2, .tmp 128), (5, .const (Value.int IntKind.u64 4611686018427387904))], type := 39, pos := "outright.go:54", after := #[{ on := 12, ground := .data }, { on := 10, ground := .guard }], guard := some (10, true) } (.agg #[.int .i64 0, .int .i64 0, .int .i64 2, .int .i64 5, .int .i64 (-1), .int .i64 0, .int .i64 0, .int .i64 0, .int .u64 4611686018427387904]) (Or.inl ⟨by rfl, by intro w hSw; clear hSw; go_simp⟩) hS5 ?_
            try simp only [Act.put, zq1, zq2, zq3]
            refine wpAnyH_ready (rs := [14]) (by kernel_rfl) (by simp) ?_
            refine AllReadyH.cons (o := { dst := some 130, op := .call { callee := .value (.func 49), args := #[.tmp 127, .tmp 129, .const (Value.int IntKind.i64 12)], argTypes := #[25, 39, 30] }, type := 4, pos := "outright.go:54", after := #[{ on := 11, ground := .data }, { on := 13, ground := .data }, { on := 12, ground := .chain }, { on := 10, ground := .guard }], guard := some (10, true) }) rfl (fun K hK => ?_) AllReadyH.nil
            go_simp
            refine (E7'.out _ (hb7.out.trans hS5)).mono ?_
            rintro e v6 ⟨rfl, kb⟩
            go_wp2_with fail
            refine hK.out _ _ (hS5.trans kb) (fun hS6 => ?_)
            clear hK K
            try simp only [Act.put, zq1, zq2, zq3]
            refine ztk 15 { dst := some 131, op := .pick (.tmp 126) (.tmp 130) (.const (Value.bool false)), type := 4, pos := "outright.go:54", after := #[{ on := 10, ground := .data }, { on := 14, ground := .data }], guard := none } (.bool true) (Or.inl ⟨by rfl, by intro w hSw; clear hSw; go_simp⟩) hS6 ?_
            try simp only [Act.put, zq1, zq2, zq3]
            refine ztk 16 { dst := some 16, op := .assign (.tmp 131), type := 4, pos := "outright.go:54", after := #[{ on := 15, ground := .data }, { on := 14, ground := .chain }, { on := 0, ground := .phase }, { on := 1, ground := .phase }, { on := 2, ground := .phase }, { on := 3, ground := .phase }, { on := 4, ground := .phase }, { on := 5, ground := .phase }, { on := 6, ground := .phase }, { on := 7, ground := .phase }, { on := 8, ground := .phase }, { on := 9, ground := .phase }, { on := 10, ground := .phase }, { on := 11, ground := .phase }, { on := 12, ground := .phase }, { on := 13, ground := .phase }, { on := 14, ground := .phase }, { on := 15, ground := .phase }], guard := none } (.bool true) (Or.inl ⟨by rfl, by intro w hSw; clear hSw; go_simp⟩) hS6 ?_
            try simp only [Act.put, zq1, zq2, zq3]
            refine wpAnyH_done (by kernel_rfl) ?_ _
            go_wp2_with fail
            go_meet
            exact ⟨rfl, Lib.hid (hb7.out.trans hS6)⟩
          case rest =>
            obtain ⟨rfl, hb8⟩ := hcut
            have TK := Lib.hid (show ∀ U, Bel Z U → Calls Tryz.prog 28 #[.agg #[.slice A1 2 c1, .slice A2 3 c2], .int .i64 2] U fun r w' => r = .returned (.tuple #[.int .u64 20, .int .i64 0]) ∧ Bel U w' from fun U hU => by
              have h := tokens_ A1 2 c1 A2 3 c2 (stC 3) (stP 3) 2 U (VH.out.hh.bel hU)
              rw [show (if chkH (stC 3) (stP 3) = 0 then sumT ((stC 3).filter (fun r => decide (ckV r = 2))) else 0) = 20 by kernel_rfl, show chkH (stC 3) (stP 3) = 0 by kernel_rfl] at h
              exact h)
            have AL := Lib.hid (show ∀ U, Bel Z U → Calls Tryz.prog 30 #[.agg #[.slice A1 2 c1, .slice A2 3 c2]] U fun r w' => r = .returned (.tuple #[.int .u64 27, .int .i64 0]) ∧ Bel U w' from fun U hU => by
              have h := all_ A1 2 c1 A2 3 c2 (stC 3) (stP 3) U (VH.out.hh.bel hU)
              rw [show (if chkH (stC 3) (stP 3) = 0 then sumT (stC 3) else 0) = 27 by kernel_rfl, show chkH (stC 3) (stP 3) = 0 by kernel_rfl] at h
              exact h)
            have EX := Lib.hid (show ∀ U, Bel Z U → Calls Tryz.prog 36 #[.agg #[.slice A1 2 c1, .slice A2 3 c2], .int .i64 2, .int .i64 5] U fun r w' => ∃ B d, r = .returned (.tuple #[.slice B 1 d, .int .i64 0]) ∧ Bel U w' from fun U hU => by
              refine (exposed_ A1 2 c1 A2 3 c2 (stC 3) (stP 3) 2 5 U (VH.out.hh.bel hU)).mono ?_
              rintro r w' ⟨x, rfl, ho, kb⟩
              rw [show (if chkH (stC 3) (stP 3) = 0 ∧ (1 : Int) ≤ 5 ∧ (5 : Int) ≤ 4294967296 then (stC 3).filter (bkR 2 5) else []) = kn1C by kernel_rfl] at ho
              obtain ⟨B, d, e, _⟩ := ho.rs c6C
              subst e
              exact ⟨B, d, by rw [show chkH (stC 3) (stP 3) = 0 by kernel_rfl]; rfl, kb⟩)
            clear E1' E2' E3' E4' E5' E6' E7' SP SC VF VK hsp hsc
            have u0 := (VH.out.blk.bel hb8.out).cell 0 rfl
            have u1 := (VH.out.blk.bel hb8.out).cell 1 rfl
            go_wp2_with fail
            refine (TK.out _ hb8.out).mono ?_
            rintro r U1 ⟨rfl, kb⟩
            have hb9 := Lib.hid (hb8.out.trans kb)
            clear kb u0 u1
            have u0 := (VH.out.blk.bel hb9.out).cell 0 rfl
            have u1 := (VH.out.blk.bel hb9.out).cell 1 rfl
            go_wp2_with fail
            refine (AL.out _ hb9.out).mono ?_
            rintro r U2 ⟨rfl, kb⟩
            have hb10 := Lib.hid (hb9.out.trans kb)
            clear kb u0 u1
            have u0 := (VH.out.blk.bel hb10.out).cell 0 rfl
            have u1 := (VH.out.blk.bel hb10.out).cell 1 rfl
            go_wp2_with fail
            refine (EX.out _ hb10.out).mono ?_
            rintro r U3 ⟨G1, m1, rfl, kb⟩
            have hb11 := Lib.hid (hb10.out.trans kb)
            clear kb u0 u1
            go_wp2_with fail
            refine (AW.out _).mono ?_
            rintro r U4 ⟨rfl, kb⟩
            have hb12 := Lib.hid (KZ.out.trans (hb11.out.trans kb))
            clear kb
            go_wp2_with fail
            go_ret
            exact ⟨rfl, hb12.out⟩
end Ho
end Go.Proofs.YtneajcoiemkfbaaGreat
