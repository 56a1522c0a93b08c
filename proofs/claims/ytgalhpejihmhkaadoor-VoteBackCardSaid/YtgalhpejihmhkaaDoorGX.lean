/-
  The walk of awake: it returns true. No condition.
-/
import Derived.Test.YtgalhpejihmhkaaDoorGW
namespace Go.Proofs.YtgalhpejihmhkaaDoor
open Go.RowKit Go.Shelf
set_option linter.unusedVariables false
namespace Vt
open Kk

theorem two_new (w : World) (xs ys : List Int) :
    Sl ((w.alloc (.cells (xs.map (Value.int .u8)).toArray 5)).alloc (.cells (ys.map (Value.int .u8)).toArray 5)) (some ⟨w.heap.size, 0, none⟩) xs.length xs.length xs ∧
    Sl ((w.alloc (.cells (xs.map (Value.int .u8)).toArray 5)).alloc (.cells (ys.map (Value.int .u8)).toArray 5)) (some ⟨w.heap.size + 1, 0, none⟩) ys.length ys.length ys ∧
    Bel w ((w.alloc (.cells (xs.map (Value.int .u8)).toArray 5)).alloc (.cells (ys.map (Value.int .u8)).toArray 5)) := by
  refine ⟨(sl_lit w xs).bel ((Bel.refl _).alloc _), ?_, ((Bel.refl _).alloc _).alloc _⟩
  have := sl_lit (w.alloc (.cells (xs.map (Value.int .u8)).toArray 5)) ys
  simpa using this
theorem toldA (g1 g2 : Nat) (w : World) (h1 : Sl w (some ⟨g1, 0, none⟩) 4 4 [1, 1, 2, 3]) (h2 : Sl w (some ⟨g2, 0, none⟩) 1 1 [5]) :
    Calls Tryd.prog 39 #[.slice (some ⟨g1, 0, none⟩) 4 4, .slice (some ⟨g2, 0, none⟩) 1 1] w fun e w' => ∃ A c, e = .returned (.slice A 37 c) ∧ Sl w' A 37 c ([1, 1, 2, 3] ++ Z0 ++ [5]) ∧ Bel w w' :=
  told g1 g2 4 1 _ _ w h1 h2 (by decide) (by decide)
theorem toldB (g1 g2 : Nat) (w : World) (h1 : Sl w (some ⟨g1, 0, none⟩) 4 4 [2, 1, 172, 2]) (h2 : Sl w (some ⟨g2, 0, none⟩) 2 2 [128, 1]) :
    Calls Tryd.prog 39 #[.slice (some ⟨g1, 0, none⟩) 4 4, .slice (some ⟨g2, 0, none⟩) 2 2] w fun e w' => ∃ A c, e = .returned (.slice A 38 c) ∧ Sl w' A 38 c ([2, 1, 172, 2] ++ Z0 ++ [128, 1]) ∧ Bel w w' :=
  told g1 g2 4 2 _ _ w h1 h2 (by decide) (by decide)
/-- What a vote that may be has: its bytes, in new memory. -/
theorem EncR.ok {all : List (Int × List Int)} {w w' : World} {u : Value} (h : EncR all w u w') (h0 : errOf all = 0) : ∃ A c, u = .slice A (bytesOf all).length c ∧ Sl w' A (bytesOf all).length c (bytesOf all) ∧ c ≤ maxLen ∧ ∀ x, A = some x → w.heap.size ≤ x.block := by
  rcases h.2 with ⟨h1, _⟩ | ⟨_, h2⟩
  · exact absurd h0 h1
  · obtain ⟨A, c, rfl, hs⟩ := sl_of_own h2
    obtain ⟨A', c', e, _, _, h4⟩ := ints_of_own h2
    injection e with e1 e2 e3
    subst e1
    subst e3
    refine ⟨A, c, rfl, hs, h4, fun x hx => ?_⟩
    subst hx
    rcases h2.2 with ⟨h5, _⟩ | ⟨g, cap, cur, h5, hb, _⟩
    · cases h5
    · injection h5 with h5
      injection h5 with h5
      subst h5
      exact hb
theorem bytes_one (w : World) : Calls Tryd.prog 5 #[.agg (attC 1 2 3 Z0 5).toArray] w fun e w' => ∃ A c, e = .returned (.tuple #[.slice A 37 c, .int .i64 0]) ∧ Sl w' A 37 c ([1, 1, 2, 3] ++ Z0 ++ [5]) ∧ Bel w w' :=
  (bytes 1 2 3 5 Z0 w rfl (by decide) (by decide)).mono fun e w' ⟨u, h, hr⟩ => by
    obtain ⟨A, c, rfl, hs, _⟩ := hr.ok (by decide)
    exact ⟨A, c, h, hs, hr.1⟩
theorem bytes_block (w : World) : Calls Tryd.prog 11 #[.agg (propC 1 300 Z0 128).toArray] w fun e w' => ∃ A c, e = .returned (.tuple #[.slice A 38 c, .int .i64 0]) ∧ Sl w' A 38 c ([2, 1, 172, 2] ++ Z0 ++ [128, 1]) ∧ Bel w w' :=
  (bytesB 1 300 128 Z0 w rfl (by decide) (by decide)).mono fun e w' ⟨u, h, hr⟩ => by
    obtain ⟨A, c, rfl, hs, _⟩ := hr.ok (by decide)
    exact ⟨A, c, h, hs, hr.1⟩

set_option maxRecDepth 100000 in
set_option maxHeartbeats 8000000 in
theorem awake (w : World) : Calls Tryd.prog 19 #[] w fun e w' => e = .returned (.bool true) ∧ Bel w w' := by
  have ONE := Lib.hid (fun W => one W)
  have BLK := Lib.hid (fun W => block W)
  have BO := Lib.hid (fun W => bytes_one W)
  have BB := Lib.hid (fun W => bytes_block W)
  have SU1 := Lib.hid (fun W => show Calls Tryd.prog 21 #[.agg (attC 1 1 4 Z0 0).toArray, .agg (attC 1 2 3 Z0 5).toArray] W fun e w' => e = .returned (.bool true) ∧ Bel W w' from surrounds 1 1 4 0 Z0 1 2 3 5 Z0 W rfl rfl)
  have SU2 := Lib.hid (fun W => show Calls Tryd.prog 21 #[.agg (attC 1 2 3 Z0 5).toArray, .agg (attC 1 1 4 Z0 0).toArray] W fun e w' => e = .returned (.bool false) ∧ Bel W w' from surrounds 1 2 3 5 Z0 1 1 4 0 Z0 W rfl rfl)
  obtain ⟨OC, hOC⟩ : ∃ Y, Y = attC 1 2 3 Z0 5 := ⟨_, rfl⟩
  obtain ⟨PC, hPC⟩ : ∃ Y, Y = propC 1 300 Z0 128 := ⟨_, rfl⟩
  obtain ⟨WC, hWC⟩ : ∃ Y, Y = attC 1 1 4 Z0 0 := ⟨_, rfl⟩
  rw [← hOC] at ONE BO SU1 SU2
  rw [← hPC] at BLK BB
  rw [← hWC] at SU1 SU2
  have HYl := Lib.hid (show WC.length = 36 by rw [hWC]; rfl)
  have HYs := Lib.hid (show WC.toArray.size = 36 by rw [List.size_toArray]; exact HYl.out)
  have HYo := Lib.hid (all_oneCell_toArray (cs := WC) (by rw [hWC]; exact att_cells _ _ _ _ _))
  have HYi := Lib.hid (show (Tryd.prog.info? 26).map (·.size) = some WC.toArray.size by rw [HYs.out]; exact info_att)
  have HY := Lib.hid hWC
  clear hOC hPC hWC
  go_enter Tryd.func19, Tryd.ntmps19
  go_wp2_with fail
  refine (ONE.out _).mono ?_
  rintro e w1 ⟨rfl, k1⟩
  have B1 := Lib.hid (show Bel w w1 from k1)
  clear k1
  go_wp2_with fail
  refine (BO.out _).mono ?_
  rintro e w2 ⟨A1, c1, rfl, s1, k2⟩
  have B2 := Lib.hid (B1.out.trans k2)
  have S1 := Lib.hid s1
  clear k2 s1
  go_wp2_with fail
  refine (BLK.out _).mono ?_
  rintro e w3 ⟨rfl, k3⟩
  have B3 := Lib.hid (B2.out.trans k3)
  have S1 := Lib.hid (S1.out.bel k3)
  clear k3
  go_wp2_with fail
  refine (BB.out _).mono ?_
  rintro e w4 ⟨A2, c2, rfl, s2, k4⟩
  have B4 := Lib.hid (B3.out.trans k4)
  have S1 := Lib.hid (S1.out.bel k4)
  have S2 := Lib.hid s2
  clear k4 s2
  obtain ⟨W, hW⟩ : ∃ W, w4.alloc Z36 = W := ⟨_, rfl⟩
  obtain ⟨h, hh⟩ : ∃ h, h = w4.heap.size := ⟨_, rfl⟩
  have TH := Lib.hid (show W.there h 0 WC.toArray.size by rw [HYs.out, ← hW, hh]; exact there_newK (by decide))
  have B5 := Lib.hid (show Bel w4 W by rw [← hW]; exact (Bel.refl w4).alloc _)
  have HW := Lib.hid hW
  have HH := Lib.hid hh
  clear hW hh
  go_upto_region 4 with (refine wpList_store_mid rfl 26 (.tmp 5) (.tmp 16) rfl w4.heap.size 0 WC.toArray rfl (by rw [HY.out]; rfl) (by rw [HW.out, ← HH.out]; exact TH.out) HYi.out HYo.out ?_)
  rw [HW.out, ← HH.out]
  obtain ⟨w5, hw5⟩ : ∃ w5, W.setCells h 0 WC = w5 := ⟨_, rfl⟩
  have RE : w5.rangeAt h 0 WC := by rw [← hw5]; exact World.rangeAt_setCells_same _ _ _ _ (by have := TH.out; rw [HYs.out] at this; rw [HYl.out]; exact this)
  have B6 : Bel w4 w5 := by rw [← hw5]; exact Kep.bel B5.out (kep_setCellsK h WC 0 _) (fun i hi => by have := HH.out; omega)
  have hlt : h < w5.heap.size := by
    have h1 : w5.heap.size = W.heap.size := by rw [← hw5, size_setCells]
    have h2 : W.heap.size = w4.heap.size + 1 := by rw [← HW.out]; simp
    have := HH.out
    omega
  have S0 : w5.rangeAt h 0 WC ∧ h < w5.heap.size ∧ Sl w5 A1 37 c1 ([1, 1, 2, 3] ++ Z0 ++ [5]) ∧ Sl w5 A2 38 c2 ([2, 1, 172, 2] ++ Z0 ++ [128, 1]) ∧ Bel w w5 := ⟨RE, hlt, S1.out.bel B6, S2.out.bel B6, B4.out.trans B6⟩
  have KEEP := Lib.hid (show ∀ W W' : World, (W.rangeAt h 0 WC ∧ h < W.heap.size ∧ Sl W A1 37 c1 ([1, 1, 2, 3] ++ Z0 ++ [5]) ∧ Sl W A2 38 c2 ([2, 1, 172, 2] ++ Z0 ++ [128, 1]) ∧ Bel w W) → Bel W W' → (W'.rangeAt h 0 WC ∧ h < W'.heap.size ∧ Sl W' A1 37 c1 ([1, 1, 2, 3] ++ Z0 ++ [5]) ∧ Sl W' A2 38 c2 ([2, 1, 172, 2] ++ Z0 ++ [128, 1]) ∧ Bel w W') from
    fun W W' h hb => ⟨range_up h.1 hb h.2.1, Nat.lt_of_lt_of_le h.2.1 (Below.size hb), h.2.2.1.bel hb, h.2.2.2.1.bel hb, h.2.2.2.2.trans hb⟩)
  have S0d := KEEP.out _ _ S0 (Bel.refl w5).drew
  have uA := Tryd.underlying26
  have iA : (Tryd.prog.info? 26).map (·.size) = some WC.length := by rw [HYl.out]; exact info_att
  rw [hw5]
  clear hw5 RE B6 hlt S1 S2 B1 B2 B3 B4 HY TH B5
  refine wp_region_held_drew (S := fun W => W.rangeAt h 0 WC ∧ h < W.heap.size ∧ Sl W A1 37 c1 ([1, 1, 2, 3] ++ Z0 ++ [5]) ∧ Sl W A2 38 c2 ([2, 1, 172, 2] ++ Z0 ++ [128, 1]) ∧ Bel w W) (by kernel_rfl) S0d (fun hS0 => ?_)
  obtain ⟨w6, hw6⟩ : ∃ w6, w5.drew = w6 := ⟨_, rfl⟩
  rw [hw6] at hS0 ⊢
  clear hw6 S0d S0
  refine wpAnyH_take (i := 0) (oi := { dst := some 17, op := .move (.tmp 2), type := 31, pos := "outright.go:26", after := #[], guard := none }) (v := .int .i64 0) rfl (by kernel_rfl) (by kernel_rfl) (by kernel_rfl) (fun _ _ _ h => h) (Or.inl ⟨by rfl, by intro w hSw; clear hSw; go_simp⟩) hS0 ?_
  try simp only [Act.put, List.setIfInBounds_toArray, List.set_cons_zero, List.set_cons_succ]
  refine wpAnyH_take (i := 1) (oi := { dst := some 18, op := .binOp .eql 31 (.tmp 17) (.const (Value.int IntKind.i64 0)) 31, type := 4, pos := "outright.go:26", after := #[{ on := 0, ground := .data }], guard := none }) (v := .bool true) rfl (by kernel_rfl) (by kernel_rfl) (by kernel_rfl) (fun _ _ _ h => h) (Or.inl ⟨by rfl, by intro w hSw; clear hSw; go_simp⟩) hS0 ?_
  try simp only [Act.put, List.setIfInBounds_toArray, List.set_cons_zero, List.set_cons_succ]
  refine wpAnyH_take (i := 2) (oi := { dst := some 19, op := .move (.tmp 18), type := 4, pos := "outright.go:26", after := #[{ on := 1, ground := .data }], guard := none }) (v := .bool true) rfl (by kernel_rfl) (by kernel_rfl) (by kernel_rfl) (fun _ _ _ h => h) (Or.inl ⟨by rfl, by intro w hSw; clear hSw; go_simp⟩) hS0 ?_
  try simp only [Act.put, List.setIfInBounds_toArray, List.set_cons_zero, List.set_cons_succ]
  refine wpAnyH_take (i := 3) (oi := { dst := some 20, op := .move (.tmp 4), type := 31, pos := "outright.go:26", after := #[{ on := 2, ground := .guard }], guard := some (2, true) }) (v := .int .i64 0) rfl (by kernel_rfl) (by kernel_rfl) (by kernel_rfl) (fun _ _ _ h => h) (Or.inl ⟨by rfl, by intro w hSw; clear hSw; go_simp⟩) hS0 ?_
  try simp only [Act.put, List.setIfInBounds_toArray, List.set_cons_zero, List.set_cons_succ]
  refine wpAnyH_take (i := 4) (oi := { dst := some 21, op := .binOp .eql 31 (.tmp 20) (.const (Value.int IntKind.i64 0)) 31, type := 4, pos := "outright.go:26", after := #[{ on := 3, ground := .data }, { on := 2, ground := .guard }], guard := some (2, true) }) (v := .bool true) rfl (by kernel_rfl) (by kernel_rfl) (by kernel_rfl) (fun _ _ _ h => h) (Or.inl ⟨by rfl, by intro w hSw; clear hSw; go_simp⟩) hS0 ?_
  try simp only [Act.put, List.setIfInBounds_toArray, List.set_cons_zero, List.set_cons_succ]
  refine wpAnyH_take (i := 5) (oi := { dst := some 22, op := .pick (.tmp 19) (.tmp 21) (.const (Value.bool false)), type := 4, pos := "outright.go:26", after := #[{ on := 2, ground := .data }, { on := 4, ground := .data }], guard := none }) (v := .bool true) rfl (by kernel_rfl) (by kernel_rfl) (by kernel_rfl) (fun _ _ _ h => h) (Or.inl ⟨by rfl, by intro w hSw; clear hSw; go_simp⟩) hS0 ?_
  try simp only [Act.put, List.setIfInBounds_toArray, List.set_cons_zero, List.set_cons_succ]
  refine wpAnyH_take (i := 6) (oi := { dst := some 23, op := .move (.tmp 22), type := 4, pos := "outright.go:26", after := #[{ on := 5, ground := .data }, { on := 2, ground := .chain }], guard := none }) (v := .bool true) rfl (by kernel_rfl) (by kernel_rfl) (by kernel_rfl) (fun _ _ _ h => h) (Or.inl ⟨by rfl, by intro w hSw; clear hSw; go_simp⟩) hS0 ?_
  try simp only [Act.put, List.setIfInBounds_toArray, List.set_cons_zero, List.set_cons_succ]
  refine wpAnyH_take (i := 7) (oi := { dst := some 24, op := .move (.tmp 1), type := 29, pos := "outright.go:26", after := #[{ on := 6, ground := .guard }], guard := some (6, true) }) (v := .slice A1 37 c1) rfl (by kernel_rfl) (by kernel_rfl) (by kernel_rfl) (fun _ _ _ h => h) (Or.inl ⟨by rfl, by intro w hSw; clear hSw; go_simp⟩) hS0 ?_
  try simp only [Act.put, List.setIfInBounds_toArray, List.set_cons_zero, List.set_cons_succ]
  refine wpAnyH_ready (rs := [8, 9]) (by kernel_rfl) (by simp) ?_
  refine AllReadyH.cons (o := { dst := some 25, op := .buildSlice 29 4 #[(0, .const (Value.int IntKind.u8 1)), (1, .const (Value.int IntKind.u8 1)), (2, .const (Value.int IntKind.u8 2)), (3, .const (Value.int IntKind.u8 3))], type := 29, pos := "outright.go:26", after := #[{ on := 6, ground := .guard }], guard := some (6, true) }) rfl (fun K hK => ?_) (AllReadyH.cons (o := { dst := some 26, op := .buildSlice 29 1 #[(0, .const (Value.int IntKind.u8 5))], type := 29, pos := "outright.go:26", after := #[{ on := 6, ground := .guard }], guard := some (6, true) }) rfl (fun K hK => ?_) AllReadyH.nil)
  all_goals first
  | (
    go_simp
    refine hK.out _ _ (KEEP.out _ _ hS0 ((Bel.refl _).alloc _)) (fun hSa => ?_)
    clear hK K
    try simp only [Act.put, List.setIfInBounds_toArray, List.set_cons_zero, List.set_cons_succ]
    refine wpAnyH_ready (rs := [9]) (by kernel_rfl) (by simp) ?_
    refine AllReadyH.cons (o := { dst := some 26, op := .buildSlice 29 1 #[(0, .const (Value.int IntKind.u8 5))], type := 29, pos := "outright.go:26", after := #[{ on := 6, ground := .guard }], guard := some (6, true) }) rfl (fun K hK => ?_) AllReadyH.nil
    go_simp
    refine hK.out _ _ (KEEP.out _ _ hSa ((Bel.refl _).alloc _)) (fun hS1 => ?_)
    clear hK K hSa
    try simp only [Act.put, List.setIfInBounds_toArray, List.set_cons_zero, List.set_cons_succ]
    obtain ⟨g1, hg1⟩ : ∃ g, g = w6.heap.size := ⟨_, rfl⟩
    obtain ⟨g2, hg2⟩ : ∃ g, g = w6.heap.size + 1 := ⟨_, rfl⟩
    obtain ⟨v1, hv⟩ : ∃ v, (w6.alloc (.cells #[Value.int .u8 1, .int .u8 1, .int .u8 2, .int .u8 3] 5)).alloc (.cells #[Value.int .u8 5] 5) = v := ⟨_, rfl⟩
    rw [hv, ← hg2, ← hg1]
    rw [hv] at hS1
    have hN1 : Sl v1 (some ⟨g1, 0, none⟩) 4 4 [1, 1, 2, 3] := by rw [← hv, hg1]; exact (two_new w6 [1, 1, 2, 3] [5]).1
    have hN2 : Sl v1 (some ⟨g2, 0, none⟩) 1 1 [5] := by rw [← hv, hg2]; exact (two_new w6 [1, 1, 2, 3] [5]).2.1
    clear hg1 hg2 hv
    )
  | (
    go_simp
    refine hK.out _ _ (KEEP.out _ _ hS0 ((Bel.refl _).alloc _)) (fun hSa => ?_)
    clear hK K
    try simp only [Act.put, List.setIfInBounds_toArray, List.set_cons_zero, List.set_cons_succ]
    refine wpAnyH_ready (rs := [8]) (by kernel_rfl) (by simp) ?_
    refine AllReadyH.cons (o := { dst := some 25, op := .buildSlice 29 4 #[(0, .const (Value.int IntKind.u8 1)), (1, .const (Value.int IntKind.u8 1)), (2, .const (Value.int IntKind.u8 2)), (3, .const (Value.int IntKind.u8 3))], type := 29, pos := "outright.go:26", after := #[{ on := 6, ground := .guard }], guard := some (6, true) }) rfl (fun K hK => ?_) AllReadyH.nil
    go_simp
    refine hK.out _ _ (KEEP.out _ _ hSa ((Bel.refl _).alloc _)) (fun hS1 => ?_)
    clear hK K hSa
    try simp only [Act.put, List.setIfInBounds_toArray, List.set_cons_zero, List.set_cons_succ]
    obtain ⟨g2, hg1⟩ : ∃ g, g = w6.heap.size := ⟨_, rfl⟩
    obtain ⟨g1, hg2⟩ : ∃ g, g = w6.heap.size + 1 := ⟨_, rfl⟩
    obtain ⟨v1, hv⟩ : ∃ v, (w6.alloc (.cells #[Value.int .u8 5] 5)).alloc (.cells #[Value.int .u8 1, .int .u8 1, .int .u8 2, .int .u8 3] 5) = v := ⟨_, rfl⟩
    rw [hv, ← hg2, ← hg1]
    rw [hv] at hS1
    have hN2 : Sl v1 (some ⟨g2, 0, none⟩) 1 1 [5] := by rw [← hv, hg1]; exact (two_new w6 [5] [1, 1, 2, 3]).1
    have hN1 : Sl v1 (some ⟨g1, 0, none⟩) 4 4 [1, 1, 2, 3] := by rw [← hv, hg2]; exact (two_new w6 [5] [1, 1, 2, 3]).2.1
    clear hg1 hg2 hv
    )
  all_goals
    refine wpAnyH_ready (rs := [10]) (by kernel_rfl) (by simp) ?_
    refine AllReadyH.cons (o := { dst := some 27, op := .call { callee := .value (.func 39), args := #[.tmp 25, .tmp 26], argTypes := #[29, 29] }, type := 29, pos := "outright.go:26", after := #[{ on := 8, ground := .data }, { on := 9, ground := .data }, { on := 6, ground := .chain }, { on := 6, ground := .guard }], guard := some (6, true) }) rfl (fun K hK => ?_) AllReadyH.nil
    go_simp
    refine (toldA g1 g2 _ hN1 hN2).mono ?_
    rintro e v2 ⟨A3, c3, rfl, hs3, k3⟩
    go_wp2_with fail
    refine hK.out _ _ (KEEP.out _ _ hS1 k3) (fun hS2 => ?_)
    clear hK K
    try simp only [Act.put, List.setIfInBounds_toArray, List.set_cons_zero, List.set_cons_succ]
    refine wpAnyH_ready (rs := [11]) (by kernel_rfl) (by simp) ?_
    refine AllReadyH.cons (o := { dst := some 28, op := .call { callee := .value (.func 13), args := #[.tmp 24, .tmp 27], argTypes := #[29, 29] }, type := 4, pos := "outright.go:26", after := #[{ on := 7, ground := .data }, { on := 10, ground := .data }, { on := 10, ground := .chain }, { on := 6, ground := .guard }], guard := some (6, true) }) rfl (fun K hK => ?_) AllReadyH.nil
    go_simp
    refine (same A1 A3 37 c1 37 c3 _ _ hS2.2.2.1.ints hs3.ints).mono ?_
    rintro e v3 ⟨rfl, rfl⟩
    go_wp2_with fail
    refine hK.out _ _ (hS2) (fun hS3 => ?_)
    clear hK K
    try simp only [Act.put, List.setIfInBounds_toArray, List.set_cons_zero, List.set_cons_succ]
    clear hN1 hN2 hs3 k3
    refine wpAnyH_take (i := 12) (oi := { dst := some 29, op := .pick (.tmp 23) (.tmp 28) (.const (Value.bool false)), type := 4, pos := "outright.go:26", after := #[{ on := 6, ground := .data }, { on := 11, ground := .data }], guard := none }) (v := .bool true) rfl (by kernel_rfl) (by kernel_rfl) (by kernel_rfl) (fun _ _ _ h => h) (Or.inl ⟨by rfl, by intro w hSw; clear hSw; go_simp⟩) hS3 ?_
    try simp only [Act.put, List.setIfInBounds_toArray, List.set_cons_zero, List.set_cons_succ]
    refine wpAnyH_take (i := 13) (oi := { dst := some 30, op := .move (.tmp 29), type := 4, pos := "outright.go:26", after := #[{ on := 12, ground := .data }, { on := 11, ground := .chain }], guard := none }) (v := .bool true) rfl (by kernel_rfl) (by kernel_rfl) (by kernel_rfl) (fun _ _ _ h => h) (Or.inl ⟨by rfl, by intro w hSw; clear hSw; go_simp⟩) hS3 ?_
    try simp only [Act.put, List.setIfInBounds_toArray, List.set_cons_zero, List.set_cons_succ]
    refine wpAnyH_take (i := 14) (oi := { dst := some 31, op := .move (.tmp 3), type := 29, pos := "outright.go:26", after := #[{ on := 13, ground := .guard }], guard := some (13, true) }) (v := .slice A2 38 c2) rfl (by kernel_rfl) (by kernel_rfl) (by kernel_rfl) (fun _ _ _ h => h) (Or.inl ⟨by rfl, by intro w hSw; clear hSw; go_simp⟩) hS3 ?_
    try simp only [Act.put, List.setIfInBounds_toArray, List.set_cons_zero, List.set_cons_succ]
    refine wpAnyH_ready (rs := [15, 16]) (by kernel_rfl) (by simp) ?_
    refine AllReadyH.cons (o := { dst := some 32, op := .buildSlice 29 4 #[(0, .const (Value.int IntKind.u8 2)), (1, .const (Value.int IntKind.u8 1)), (2, .const (Value.int IntKind.u8 172)), (3, .const (Value.int IntKind.u8 2))], type := 29, pos := "outright.go:26", after := #[{ on := 13, ground := .guard }], guard := some (13, true) }) rfl (fun K hK => ?_) (AllReadyH.cons (o := { dst := some 33, op := .buildSlice 29 2 #[(0, .const (Value.int IntKind.u8 128)), (1, .const (Value.int IntKind.u8 1))], type := 29, pos := "outright.go:26", after := #[{ on := 13, ground := .guard }], guard := some (13, true) }) rfl (fun K hK => ?_) AllReadyH.nil)
    all_goals first
    | (
      go_simp
      refine hK.out _ _ (KEEP.out _ _ hS3 ((Bel.refl _).alloc _)) (fun hSa => ?_)
      clear hK K
      try simp only [Act.put, List.setIfInBounds_toArray, List.set_cons_zero, List.set_cons_succ]
      refine wpAnyH_ready (rs := [16]) (by kernel_rfl) (by simp) ?_
      refine AllReadyH.cons (o := { dst := some 33, op := .buildSlice 29 2 #[(0, .const (Value.int IntKind.u8 128)), (1, .const (Value.int IntKind.u8 1))], type := 29, pos := "outright.go:26", after := #[{ on := 13, ground := .guard }], guard := some (13, true) }) rfl (fun K hK => ?_) AllReadyH.nil
      go_simp
      refine hK.out _ _ (KEEP.out _ _ hSa ((Bel.refl _).alloc _)) (fun hS4 => ?_)
      clear hK K hSa
      try simp only [Act.put, List.setIfInBounds_toArray, List.set_cons_zero, List.set_cons_succ]
      obtain ⟨g1, hg1⟩ : ∃ g, g = v2.heap.size := ⟨_, rfl⟩
      obtain ⟨g2, hg2⟩ : ∃ g, g = v2.heap.size + 1 := ⟨_, rfl⟩
      obtain ⟨v4, hv⟩ : ∃ v, (v2.alloc (.cells #[Value.int .u8 2, .int .u8 1, .int .u8 172, .int .u8 2] 5)).alloc (.cells #[Value.int .u8 128, .int .u8 1] 5) = v := ⟨_, rfl⟩
      rw [hv, ← hg2, ← hg1]
      rw [hv] at hS4
      have hN1 : Sl v4 (some ⟨g1, 0, none⟩) 4 4 [2, 1, 172, 2] := by rw [← hv, hg1]; exact (two_new v2 [2, 1, 172, 2] [128, 1]).1
      have hN2 : Sl v4 (some ⟨g2, 0, none⟩) 2 2 [128, 1] := by rw [← hv, hg2]; exact (two_new v2 [2, 1, 172, 2] [128, 1]).2.1
      clear hg1 hg2 hv
      )
    | (
      go_simp
      refine hK.out _ _ (KEEP.out _ _ hS3 ((Bel.refl _).alloc _)) (fun hSa => ?_)
      clear hK K
      try simp only [Act.put, List.setIfInBounds_toArray, List.set_cons_zero, List.set_cons_succ]
      refine wpAnyH_ready (rs := [15]) (by kernel_rfl) (by simp) ?_
      refine AllReadyH.cons (o := { dst := some 32, op := .buildSlice 29 4 #[(0, .const (Value.int IntKind.u8 2)), (1, .const (Value.int IntKind.u8 1)), (2, .const (Value.int IntKind.u8 172)), (3, .const (Value.int IntKind.u8 2))], type := 29, pos := "outright.go:26", after := #[{ on := 13, ground := .guard }], guard := some (13, true) }) rfl (fun K hK => ?_) AllReadyH.nil
      go_simp
      refine hK.out _ _ (KEEP.out _ _ hSa ((Bel.refl _).alloc _)) (fun hS4 => ?_)
      clear hK K hSa
      try simp only [Act.put, List.setIfInBounds_toArray, List.set_cons_zero, List.set_cons_succ]
      obtain ⟨g2, hg1⟩ : ∃ g, g = v2.heap.size := ⟨_, rfl⟩
      obtain ⟨g1, hg2⟩ : ∃ g, g = v2.heap.size + 1 := ⟨_, rfl⟩
      obtain ⟨v4, hv⟩ : ∃ v, (v2.alloc (.cells #[Value.int .u8 128, .int .u8 1] 5)).alloc (.cells #[Value.int .u8 2, .int .u8 1, .int .u8 172, .int .u8 2] 5) = v := ⟨_, rfl⟩
      rw [hv, ← hg2, ← hg1]
      rw [hv] at hS4
      have hN2 : Sl v4 (some ⟨g2, 0, none⟩) 2 2 [128, 1] := by rw [← hv, hg1]; exact (two_new v2 [128, 1] [2, 1, 172, 2]).1
      have hN1 : Sl v4 (some ⟨g1, 0, none⟩) 4 4 [2, 1, 172, 2] := by rw [← hv, hg2]; exact (two_new v2 [128, 1] [2, 1, 172, 2]).2.1
      clear hg1 hg2 hv
      )
    all_goals
      refine wpAnyH_ready (rs := [17]) (by kernel_rfl) (by simp) ?_
      refine AllReadyH.cons (o := { dst := some 34, op := .call { callee := .value (.func 39), args := #[.tmp 32, .tmp 33], argTypes := #[29, 29] }, type := 29, pos := "outright.go:26", after := #[{ on := 15, ground := .data }, { on := 16, ground := .data }, { on := 13, ground := .chain }, { on := 13, ground := .guard }], guard := some (13, true) }) rfl (fun K hK => ?_) AllReadyH.nil
      go_simp
      refine (toldB g1 g2 _ hN1 hN2).mono ?_
      rintro e v5 ⟨A3, c3, rfl, hs3, k3⟩
      go_wp2_with fail
      refine hK.out _ _ (KEEP.out _ _ hS4 k3) (fun hS5 => ?_)
      clear hK K
      try simp only [Act.put, List.setIfInBounds_toArray, List.set_cons_zero, List.set_cons_succ]
      refine wpAnyH_ready (rs := [18]) (by kernel_rfl) (by simp) ?_
      refine AllReadyH.cons (o := { dst := some 35, op := .call { callee := .value (.func 13), args := #[.tmp 31, .tmp 34], argTypes := #[29, 29] }, type := 4, pos := "outright.go:26", after := #[{ on := 14, ground := .data }, { on := 17, ground := .data }, { on := 17, ground := .chain }, { on := 13, ground := .guard }], guard := some (13, true) }) rfl (fun K hK => ?_) AllReadyH.nil
      go_simp
      refine (same A2 A3 38 c2 38 c3 _ _ hS5.2.2.2.1.ints hs3.ints).mono ?_
      rintro e v6 ⟨rfl, rfl⟩
      go_wp2_with fail
      refine hK.out _ _ (hS5) (fun hS6 => ?_)
      clear hK K
      try simp only [Act.put, List.setIfInBounds_toArray, List.set_cons_zero, List.set_cons_succ]
      clear hN1 hN2 hs3 k3
      refine wpAnyH_take (i := 19) (oi := { dst := some 36, op := .pick (.tmp 30) (.tmp 35) (.const (Value.bool false)), type := 4, pos := "outright.go:26", after := #[{ on := 13, ground := .data }, { on := 18, ground := .data }], guard := none }) (v := .bool true) rfl (by kernel_rfl) (by kernel_rfl) (by kernel_rfl) (fun _ _ _ h => h) (Or.inl ⟨by rfl, by intro w hSw; clear hSw; go_simp⟩) hS6 ?_
      try simp only [Act.put, List.setIfInBounds_toArray, List.set_cons_zero, List.set_cons_succ]
      refine wpAnyH_take (i := 20) (oi := { dst := some 37, op := .move (.tmp 36), type := 4, pos := "outright.go:26", after := #[{ on := 19, ground := .data }, { on := 18, ground := .chain }], guard := none }) (v := .bool true) rfl (by kernel_rfl) (by kernel_rfl) (by kernel_rfl) (fun _ _ _ h => h) (Or.inl ⟨by rfl, by intro w hSw; clear hSw; go_simp⟩) hS6 ?_
      try simp only [Act.put, List.setIfInBounds_toArray, List.set_cons_zero, List.set_cons_succ]
      refine wpAnyH_take (i := 21) (oi := { dst := some 38, op := .load 26 (.tmp 5), type := 26, pos := "outright.go:26", after := #[{ on := 20, ground := .guard }], guard := some (20, true) }) (v := .agg WC.toArray) rfl (by kernel_rfl) (by kernel_rfl) (by kernel_rfl) (fun _ _ _ h => h) (yieldsIf_load_mid (by rfl) _ _ rfl _ _ rfl _ _ (fun w h => h.1) uA rfl iA) hS6 ?_
      try simp only [Act.put, List.setIfInBounds_toArray, List.set_cons_zero, List.set_cons_succ]
      refine wpAnyH_ready (rs := [22]) (by kernel_rfl) (by simp) ?_
      refine AllReadyH.cons (o := { dst := some 39, op := .call { callee := .value (.func 14), args := #[], argTypes := #[] }, type := 26, pos := "outright.go:26", after := #[{ on := 20, ground := .chain }, { on := 20, ground := .guard }], guard := some (20, true) }) rfl (fun K hK => ?_) AllReadyH.nil
      go_simp
      refine (ONE.out _).mono ?_
      rintro e v7 ⟨rfl, k7⟩
      go_wp2_with fail
      refine hK.out _ _ (KEEP.out _ _ hS6 k7) (fun hS7 => ?_)
      clear hK K
      try simp only [Act.put, List.setIfInBounds_toArray, List.set_cons_zero, List.set_cons_succ]
      refine wpAnyH_ready (rs := [23]) (by kernel_rfl) (by simp) ?_
      refine AllReadyH.cons (o := { dst := some 40, op := .call { callee := .value (.func 21), args := #[.tmp 38, .tmp 39], argTypes := #[26, 26] }, type := 4, pos := "outright.go:26", after := #[{ on := 21, ground := .data }, { on := 22, ground := .data }, { on := 22, ground := .chain }, { on := 20, ground := .guard }], guard := some (20, true) }) rfl (fun K hK => ?_) AllReadyH.nil
      go_simp
      refine (SU1.out _).mono ?_
      rintro e v8 ⟨rfl, k8⟩
      go_wp2_with fail
      refine hK.out _ _ (KEEP.out _ _ hS7 k8) (fun hS8 => ?_)
      clear hK K
      try simp only [Act.put, List.setIfInBounds_toArray, List.set_cons_zero, List.set_cons_succ]
      refine wpAnyH_take (i := 24) (oi := { dst := some 41, op := .pick (.tmp 37) (.tmp 40) (.const (Value.bool false)), type := 4, pos := "outright.go:26", after := #[{ on := 20, ground := .data }, { on := 23, ground := .data }], guard := none }) (v := .bool true) rfl (by kernel_rfl) (by kernel_rfl) (by kernel_rfl) (fun _ _ _ h => h) (Or.inl ⟨by rfl, by intro w hSw; clear hSw; go_simp⟩) hS8 ?_
      try simp only [Act.put, List.setIfInBounds_toArray, List.set_cons_zero, List.set_cons_succ]
      refine wpAnyH_take (i := 25) (oi := { dst := some 42, op := .move (.tmp 41), type := 4, pos := "outright.go:26", after := #[{ on := 24, ground := .data }, { on := 23, ground := .chain }], guard := none }) (v := .bool true) rfl (by kernel_rfl) (by kernel_rfl) (by kernel_rfl) (fun _ _ _ h => h) (Or.inl ⟨by rfl, by intro w hSw; clear hSw; go_simp⟩) hS8 ?_
      try simp only [Act.put, List.setIfInBounds_toArray, List.set_cons_zero, List.set_cons_succ]
      refine wpAnyH_take (i := 27) (oi := { dst := some 44, op := .load 26 (.tmp 5), type := 26, pos := "outright.go:26", after := #[{ on := 25, ground := .guard }], guard := some (25, true) }) (v := .agg WC.toArray) rfl (by kernel_rfl) (by kernel_rfl) (by kernel_rfl) (fun _ _ _ h => h) (yieldsIf_load_mid (by rfl) _ _ rfl _ _ rfl _ _ (fun w h => h.1) uA rfl iA) hS8 ?_
      try simp only [Act.put, List.setIfInBounds_toArray, List.set_cons_zero, List.set_cons_succ]
      refine wpAnyH_ready (rs := [26]) (by kernel_rfl) (by simp) ?_
      refine AllReadyH.cons (o := { dst := some 43, op := .call { callee := .value (.func 14), args := #[], argTypes := #[] }, type := 26, pos := "outright.go:26", after := #[{ on := 25, ground := .chain }, { on := 25, ground := .guard }], guard := some (25, true) }) rfl (fun K hK => ?_) AllReadyH.nil
      go_simp
      refine (ONE.out _).mono ?_
      rintro e v9 ⟨rfl, k9⟩
      go_wp2_with fail
      refine hK.out _ _ (KEEP.out _ _ hS8 k9) (fun hS9 => ?_)
      clear hK K
      try simp only [Act.put, List.setIfInBounds_toArray, List.set_cons_zero, List.set_cons_succ]
      refine wpAnyH_ready (rs := [28]) (by kernel_rfl) (by simp) ?_
      refine AllReadyH.cons (o := { dst := some 45, op := .call { callee := .value (.func 21), args := #[.tmp 43, .tmp 44], argTypes := #[26, 26] }, type := 4, pos := "outright.go:26", after := #[{ on := 26, ground := .data }, { on := 27, ground := .data }, { on := 26, ground := .chain }, { on := 25, ground := .guard }], guard := some (25, true) }) rfl (fun K hK => ?_) AllReadyH.nil
      go_simp
      refine (SU2.out _).mono ?_
      rintro e v10 ⟨rfl, k10⟩
      go_wp2_with fail
      refine hK.out _ _ (KEEP.out _ _ hS9 k10) (fun hS10 => ?_)
      clear hK K
      try simp only [Act.put, List.setIfInBounds_toArray, List.set_cons_zero, List.set_cons_succ]
      refine wpAnyH_take (i := 29) (oi := { dst := some 46, op := .unOp .not 4 (.tmp 45), type := 4, pos := "outright.go:26", after := #[{ on := 28, ground := .data }, { on := 25, ground := .guard }], guard := some (25, true) }) (v := .bool true) rfl (by kernel_rfl) (by kernel_rfl) (by kernel_rfl) (fun _ _ _ h => h) (Or.inl ⟨by rfl, by intro w hSw; clear hSw; go_simp⟩) hS10 ?_
      try simp only [Act.put, List.setIfInBounds_toArray, List.set_cons_zero, List.set_cons_succ]
      refine wpAnyH_take (i := 30) (oi := { dst := some 47, op := .pick (.tmp 42) (.tmp 46) (.const (Value.bool false)), type := 4, pos := "outright.go:26", after := #[{ on := 25, ground := .data }, { on := 29, ground := .data }], guard := none }) (v := .bool true) rfl (by kernel_rfl) (by kernel_rfl) (by kernel_rfl) (fun _ _ _ h => h) (Or.inl ⟨by rfl, by intro w hSw; clear hSw; go_simp⟩) hS10 ?_
      try simp only [Act.put, List.setIfInBounds_toArray, List.set_cons_zero, List.set_cons_succ]
      refine wpAnyH_take (i := 31) (oi := { dst := some 0, op := .assign (.tmp 47), type := 4, pos := "outright.go:26", after := #[{ on := 30, ground := .data }, { on := 28, ground := .chain }, { on := 0, ground := .phase }, { on := 1, ground := .phase }, { on := 2, ground := .phase }, { on := 3, ground := .phase }, { on := 4, ground := .phase }, { on := 5, ground := .phase }, { on := 6, ground := .phase }, { on := 7, ground := .phase }, { on := 8, ground := .phase }, { on := 9, ground := .phase }, { on := 10, ground := .phase }, { on := 11, ground := .phase }, { on := 12, ground := .phase }, { on := 13, ground := .phase }, { on := 14, ground := .phase }, { on := 15, ground := .phase }, { on := 16, ground := .phase }, { on := 17, ground := .phase }, { on := 18, ground := .phase }, { on := 19, ground := .phase }, { on := 20, ground := .phase }, { on := 21, ground := .phase }, { on := 22, ground := .phase }, { on := 23, ground := .phase }, { on := 24, ground := .phase }, { on := 25, ground := .phase }, { on := 26, ground := .phase }, { on := 27, ground := .phase }, { on := 28, ground := .phase }, { on := 29, ground := .phase }, { on := 30, ground := .phase }], guard := none }) (v := .bool true) rfl (by kernel_rfl) (by kernel_rfl) (by kernel_rfl) (fun _ _ _ h => h) (Or.inl ⟨by rfl, by intro w hSw; clear hSw; go_simp⟩) hS10 ?_
      try simp only [Act.put, List.setIfInBounds_toArray, List.set_cons_zero]
      refine wpAnyH_done (by kernel_rfl) ?_ _
      go_wp2
      go_ret
      exact ⟨rfl, hS10.2.2.2.2⟩
end Vt
end Go.Proofs.YtgalhpejihmhkaaDoor
