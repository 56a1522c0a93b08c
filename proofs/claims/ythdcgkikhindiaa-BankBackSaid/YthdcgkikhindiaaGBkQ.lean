/-
  The law's back. No condition.
-/
import Derived.Test.YthdcgkikhindiaaGBkM
namespace Go.Proofs.Ythdcgkikhindiaa
open Go.RowKit Go.Shelf
set_option linter.unusedVariables false
namespace Bk
open Pm

theorem act_one (a f t m : Int) : (#[.int .i64 a, .int .i64 f, .int .i64 t, .int .u64 m] : Array Value).all (·.oneCell') = true := by simp; exact ⟨rfl, rfl, rfl, rfl⟩
theorem act_infoA (a f t m : Int) : (Try.prog.info? 41).map (·.size) = some (#[.int .i64 a, .int .i64 f, .int .i64 t, .int .u64 m] : Array Value).size := info_act
theorem act_res {W : World} {b : Nat} {a f t m : Int} (h : Kk.Blk W b [.int .i64 a, .int .i64 f, .int .i64 t, .int .u64 m].toArray 41) : (loadVar 41 ⟨b, 0, none⟩).run Try.prog W = .ok (actV a f t m) W := load_b h Try.underlying41 rfl info_act

set_option maxRecDepth 10000 in
set_option maxHeartbeats 4000000 in
theorem back (a f t m : Int) (w : World) :
    Calls Try.prog 40 #[actV a f t m] w fun e w' => e = .returned (.tuple #[actV (bkA a) (bkF a f t) (bkT a f t) m, .bool (bkIs a t)]) ∧ Kk.Bel w w' := by
  obtain ⟨W0, hW0⟩ : ∃ W0, w.alloc (.cells #[.int .i64 a, .int .i64 f, .int .i64 t, .int .u64 m] 41) = W0 := ⟨_, rfl⟩
  obtain ⟨W1, hW1⟩ : ∃ W1, W0.alloc (.cells #[.int .i64 0, .int .i64 0, .int .i64 0, .int .u64 0] 41) = W1 := ⟨_, rfl⟩
  obtain ⟨p, hp⟩ : ∃ p, w.heap.size = p := ⟨_, rfl⟩
  have hs0 : W0.heap.size = p + 1 := by rw [← hW0, ← hp, World.size_alloc]
  have B1 := Lib.hid (show Kk.Bel w W1 by rw [← hW1, ← hW0]; exact ((Kk.Bel.refl w).alloc _).alloc _)
  have B01 := Lib.hid (show Kk.Bel W0 W1 by rw [← hW1]; exact (Kk.Bel.refl W0).alloc _)
  have A1 := Lib.hid (show Kk.Blk W1 p #[.int .i64 a, .int .i64 f, .int .i64 t, .int .u64 m] 41 by rw [← hW1, ← hp, ← hW0]; exact (Kk.Blk.new w _ _).alloc _)
  have Q1 := Lib.hid (show Kk.Blk W1 (p + 1) [.int .i64 0, .int .i64 0, .int .i64 0, .int .u64 0].toArray 41 by rw [← hW1, ← hs0]; exact Kk.Blk.new W0 _ _)
  have ca := A1.out.cell 0 (v := .int .i64 a) rfl
  have cf := A1.out.cell 1 (v := .int .i64 f) rfl
  have ct := A1.out.cell 2 (v := .int .i64 t) rfl
  have cm := A1.out.cell 3 (v := .int .u64 m) rfl
  have HP := Lib.hid hp
  have HW0 := Lib.hid hW0
  have HW1 := Lib.hid hW1
  have HS0 := Lib.hid hs0
  have uA := Try.underlying41
  clear hp hW0 hW1 hs0
  by_cases h0 : a = 0
  · subst h0
    have EE : Hid (bkA 0 = 0 ∧ bkF 0 f t = t ∧ bkT 0 f t = f) := ⟨rfl, rfl, rfl⟩
    rw [EE.out.1, EE.out.2.1, EE.out.2.2]
    have T1 := Lib.hid (show W1.there (p + 1) 0 (#[.int .i64 0, .int .i64 t, .int .i64 f, .int .u64 m] : Array Value).size from bthere Q1.out 0 _ (Nat.le_refl 4))
    have I1 := Lib.hid (act_infoA 0 t f m)
    have O1 := Lib.hid (act_one 0 t f m)
    have QE : Kk.Blk (W1.setCells (p + 1) 0 [.int .i64 0, .int .i64 t, .int .i64 f, .int .u64 m]) (p + 1) [.int .i64 0, .int .i64 t, .int .i64 f, .int .u64 m].toArray 41 := bwhole Q1.out rfl
    have BE := bel_setCells B1.out (g := p + 1) (by rw [HP.out]; omega) 0 [.int .i64 0, .int .i64 t, .int .i64 f, .int .u64 m]
    have QE := Lib.hid QE
    have BE := Lib.hid BE
    clear EE
    rw [show bkIs 0 t = true from by unfold bkIs; simp]
    go_enter Try.func40, Try.ntmps40
    go_upto_region 1 with fail
    rw [HW0.out, HP.out, HW1.out]
    go_wp2_with ((with_reducible refine wpList_store_mid ?_ 41 (.tmp 2) (.tmp 14) ?_ (p + 1) 0 #[.int .i64 0, .int .i64 t, .int .i64 f, .int .u64 m] ?_ ?_ T1.out I1.out O1.out ?_); rfl; rfl; rfl; rfl)
    exact bodyPost_ret (res_ci Try.results40 _ _ ⟨p + 1, 0, none⟩ (actV 0 t f m) (.bool true) rfl rfl (act_res QE.out)) rfl ⟨rfl, BE.out⟩
  have h0' : (a == 0) = false := by simpa using h0
  by_cases h1 : a = 1
  · subst h1
    have EE : Hid (bkA 1 = 2 ∧ bkF 1 f t = t ∧ bkT 1 f t = f) := ⟨rfl, rfl, rfl⟩
    rw [EE.out.1, EE.out.2.1, EE.out.2.2]
    have T1 := Lib.hid (show W1.there (p + 1) 0 (#[.int .i64 2, .int .i64 t, .int .i64 f, .int .u64 m] : Array Value).size from bthere Q1.out 0 _ (Nat.le_refl 4))
    have I1 := Lib.hid (act_infoA 2 t f m)
    have O1 := Lib.hid (act_one 2 t f m)
    have QE : Kk.Blk (W1.setCells (p + 1) 0 [.int .i64 2, .int .i64 t, .int .i64 f, .int .u64 m]) (p + 1) [.int .i64 2, .int .i64 t, .int .i64 f, .int .u64 m].toArray 41 := bwhole Q1.out rfl
    have BE := bel_setCells B1.out (g := p + 1) (by rw [HP.out]; omega) 0 [.int .i64 2, .int .i64 t, .int .i64 f, .int .u64 m]
    have QE := Lib.hid QE
    have BE := Lib.hid BE
    clear EE
    rw [show bkIs 1 t = true from by unfold bkIs; simp]
    go_enter Try.func40, Try.ntmps40
    go_upto_region 1 with fail
    rw [HW0.out, HP.out, HW1.out]
    go_wp2_with ((with_reducible refine wpList_store_mid ?_ 41 (.tmp 2) (.tmp 23) ?_ (p + 1) 0 #[.int .i64 2, .int .i64 t, .int .i64 f, .int .u64 m] ?_ ?_ T1.out I1.out O1.out ?_); rfl; rfl; rfl; rfl)
    exact bodyPost_ret (res_ci Try.results40 _ _ ⟨p + 1, 0, none⟩ (actV 2 t f m) (.bool true) rfl rfl (act_res QE.out)) rfl ⟨rfl, BE.out⟩
  have h1' : (a == 1) = false := by simpa using h1
  by_cases h2 : a = 2
  · subst h2
    have EE : Hid (bkA 2 = 1 ∧ bkF 2 f t = t ∧ bkT 2 f t = f) := ⟨rfl, rfl, rfl⟩
    rw [EE.out.1, EE.out.2.1, EE.out.2.2]
    have T1 := Lib.hid (show W1.there (p + 1) 0 (#[.int .i64 1, .int .i64 t, .int .i64 f, .int .u64 m] : Array Value).size from bthere Q1.out 0 _ (Nat.le_refl 4))
    have I1 := Lib.hid (act_infoA 1 t f m)
    have O1 := Lib.hid (act_one 1 t f m)
    have QE : Kk.Blk (W1.setCells (p + 1) 0 [.int .i64 1, .int .i64 t, .int .i64 f, .int .u64 m]) (p + 1) [.int .i64 1, .int .i64 t, .int .i64 f, .int .u64 m].toArray 41 := bwhole Q1.out rfl
    have BE := bel_setCells B1.out (g := p + 1) (by rw [HP.out]; omega) 0 [.int .i64 1, .int .i64 t, .int .i64 f, .int .u64 m]
    have QE := Lib.hid QE
    have BE := Lib.hid BE
    clear EE
    obtain ⟨bb, hbb⟩ : ∃ bb, bkIs 2 t = bb := ⟨_, rfl⟩
    have hne : (t != 2) = bb := by rw [← hbb]; unfold bkIs; by_cases e : t = 2 <;> simp [e]
    rw [hbb]
    clear hbb
    go_enter Try.func40, Try.ntmps40
    go_upto_region 1 with fail
    rw [HW0.out, HP.out, HW1.out]
    go_upto_region 7 with fail
    refine wp_region_held_drew (S := fun V => Kk.Bel W0 V) (by kernel_rfl) B01.out.drew (fun hS0 => ?_)
    have q6 := Q1.out.bel (Kk.Bel.refl W1).drew
    have b6 := B1.out.drew
    obtain ⟨w6, hw6⟩ : ∃ w6, World.drew W1 = w6 := ⟨_, rfl⟩
    rw [hw6] at hS0 q6 b6 ⊢
    clear hw6
    have RA := Lib.hid (show W0.rangeAt p 0 [.int .i64 2, .int .i64 f, .int .i64 t, .int .u64 m] by rw [← HW0.out, ← HP.out]; exact rngB (C := [.int .i64 2, .int .i64 f, .int .i64 t, .int .u64 m]) (Kk.Blk.new w _ _))
    refine wpAnyH_take (i := 0) (oi := { dst := some 26, op := .fieldAddr 41 (.tmp 1) 2, type := 0, pos := "outright.go:119", after := #[], guard := none }) (v := .pointer (some ⟨p, 2, none⟩)) rfl (by kernel_rfl) (by kernel_rfl) (by kernel_rfl) (fun _ _ _ h => h) (Or.inl ⟨by rfl, by intro w hSw; clear hSw; go_simp⟩) hS0 ?_
    try simp only [Act.put, List.setIfInBounds_toArray, List.set_cons_zero, List.set_cons_succ]
    refine wpAnyH_take (i := 1) (oi := { dst := some 27, op := .load 3 (.tmp 26), type := 3, pos := "outright.go:119", after := #[{ on := 0, ground := .data }], guard := none }) (v := .int .i64 t) rfl (by kernel_rfl) (by kernel_rfl) (by kernel_rfl) (fun _ _ _ h => h) (Or.inl ⟨by rfl, by intro w h; have hcell := (cell_bel (RA.out 2 _ rfl) h); clear h; go_simp⟩) hS0 ?_
    try simp only [Act.put, List.setIfInBounds_toArray, List.set_cons_zero, List.set_cons_succ]
    refine wpAnyH_take (i := 2) (oi := { dst := some 28, op := .fieldAddr 41 (.tmp 1) 1, type := 0, pos := "outright.go:119", after := #[], guard := none }) (v := .pointer (some ⟨p, 1, none⟩)) rfl (by kernel_rfl) (by kernel_rfl) (by kernel_rfl) (fun _ _ _ h => h) (Or.inl ⟨by rfl, by intro w hSw; clear hSw; go_simp⟩) hS0 ?_
    try simp only [Act.put, List.setIfInBounds_toArray, List.set_cons_zero, List.set_cons_succ]
    refine wpAnyH_take (i := 3) (oi := { dst := some 29, op := .load 3 (.tmp 28), type := 3, pos := "outright.go:119", after := #[{ on := 2, ground := .data }], guard := none }) (v := .int .i64 f) rfl (by kernel_rfl) (by kernel_rfl) (by kernel_rfl) (fun _ _ _ h => h) (Or.inl ⟨by rfl, by intro w h; have hcell := (cell_bel (RA.out 1 _ rfl) h); clear h; go_simp⟩) hS0 ?_
    try simp only [Act.put, List.setIfInBounds_toArray, List.set_cons_zero, List.set_cons_succ]
    refine wpAnyH_take (i := 4) (oi := { dst := some 30, op := .fieldAddr 41 (.tmp 1) 3, type := 0, pos := "outright.go:119", after := #[], guard := none }) (v := .pointer (some ⟨p, 3, none⟩)) rfl (by kernel_rfl) (by kernel_rfl) (by kernel_rfl) (fun _ _ _ h => h) (Or.inl ⟨by rfl, by intro w hSw; clear hSw; go_simp⟩) hS0 ?_
    try simp only [Act.put, List.setIfInBounds_toArray, List.set_cons_zero, List.set_cons_succ]
    refine wpAnyH_take (i := 5) (oi := { dst := some 31, op := .load 23 (.tmp 30), type := 23, pos := "outright.go:119", after := #[{ on := 4, ground := .data }], guard := none }) (v := .int .u64 m) rfl (by kernel_rfl) (by kernel_rfl) (by kernel_rfl) (fun _ _ _ h => h) (Or.inl ⟨by rfl, by intro w h; have hcell := (cell_bel (RA.out 3 _ rfl) h); clear h; go_simp⟩) hS0 ?_
    try simp only [Act.put, List.setIfInBounds_toArray, List.set_cons_zero, List.set_cons_succ]
    refine wpAnyH_take (i := 6) (oi := { dst := some 32, op := .build 41 #[(0, .const (Value.int IntKind.i64 1)), (1, .tmp 27), (2, .tmp 29), (3, .tmp 31)], type := 41, pos := "outright.go:119", after := #[{ on := 1, ground := .data }, { on := 3, ground := .data }, { on := 5, ground := .data }], guard := none }) (v := .agg #[.int .i64 1, .int .i64 t, .int .i64 f, .int .u64 m]) rfl (by kernel_rfl) (by kernel_rfl) (by kernel_rfl) (fun _ _ _ h => h) (Or.inl ⟨by rfl, by intro w hSw; clear hSw; go_simp⟩) hS0 ?_
    try simp only [Act.put, List.setIfInBounds_toArray, List.set_cons_zero, List.set_cons_succ]
    refine wpAnyH_take (i := 7) (oi := { dst := some 33, op := .fieldAddr 41 (.tmp 1) 2, type := 0, pos := "outright.go:119", after := #[{ on := 10, ground := .gcOnly .lateStores }], guard := none }) (v := .pointer (some ⟨p, 2, none⟩)) rfl (by kernel_rfl) (by kernel_rfl) (by kernel_rfl) (fun _ _ _ h => h) (Or.inl ⟨by rfl, by intro w hSw; clear hSw; go_simp⟩) hS0 ?_
    try simp only [Act.put, List.setIfInBounds_toArray, List.set_cons_zero, List.set_cons_succ]
    refine wpAnyH_take (i := 8) (oi := { dst := some 34, op := .load 3 (.tmp 33), type := 3, pos := "outright.go:119", after := #[{ on := 7, ground := .data }, { on := 10, ground := .gcOnly .lateStores }], guard := none }) (v := .int .i64 t) rfl (by kernel_rfl) (by kernel_rfl) (by kernel_rfl) (fun _ _ _ h => h) (Or.inl ⟨by rfl, by intro w h; have hcell := (cell_bel (RA.out 2 _ rfl) h); clear h; go_simp⟩) hS0 ?_
    try simp only [Act.put, List.setIfInBounds_toArray, List.set_cons_zero, List.set_cons_succ]
    refine wpAnyH_take (i := 9) (oi := { dst := some 35, op := .binOp .neq 3 (.tmp 34) (.const (Value.int IntKind.i64 2)) 3, type := 4, pos := "outright.go:119", after := #[{ on := 8, ground := .data }, { on := 10, ground := .gcOnly .lateStores }], guard := none }) (v := .bool bb) rfl (by kernel_rfl) (by kernel_rfl) (by kernel_rfl) (fun _ _ _ h => h) (Or.inl ⟨by rfl, by intro w hSw; clear hSw; go_simp⟩) hS0 ?_
    try simp only [Act.put, List.setIfInBounds_toArray, List.set_cons_zero, List.set_cons_succ]
    refine wpAnyH_ready (rs := [10]) (by kernel_rfl) (by simp) ?_
    refine AllReadyH.cons (o := { dst := none, op := .store 41 (.tmp 2) (.tmp 32), type := 0, pos := "outright.go:119", after := #[{ on := 6, ground := .data }, { on := 0, ground := .phase }, { on := 1, ground := .phase }, { on := 2, ground := .phase }, { on := 3, ground := .phase }, { on := 4, ground := .phase }, { on := 5, ground := .phase }, { on := 6, ground := .phase }, { on := 7, ground := .textOnly .lateStores }, { on := 8, ground := .textOnly .lateStores }, { on := 9, ground := .textOnly .lateStores }], guard := none }) rfl (fun K hK => ?_) AllReadyH.nil
    rw [if_pos (by rfl)]
    refine wp_store_mid 41 (.tmp 2) (.tmp 32) rfl (p + 1) 0 #[.int .i64 1, .int .i64 t, .int .i64 f, .int .u64 m] rfl rfl (bthere q6 0 _ (Nat.le_refl 4)) I1.out O1.out ?_
    have hS1 := bel_setCells hS0 (g := p + 1) (by rw [HS0.out]; exact Nat.le_refl _) 0 [.int .i64 1, .int .i64 t, .int .i64 f, .int .u64 m]
    have QX : Kk.Blk (World.setCells w6 (p + 1) 0 [.int .i64 1, .int .i64 t, .int .i64 f, .int .u64 m]) (p + 1) [.int .i64 1, .int .i64 t, .int .i64 f, .int .u64 m].toArray 41 := bwhole q6 rfl
    have BX := bel_setCells b6 (g := p + 1) (by rw [HP.out]; omega) 0 [.int .i64 1, .int .i64 t, .int .i64 f, .int .u64 m]
    refine hK.out _ _ hS1 (fun hS1 => ?_)
    clear hK K
    refine wpAnyH_take (i := 11) (oi := { dst := some 3, op := .assign (.tmp 35), type := 4, pos := "outright.go:119", after := #[{ on := 9, ground := .data }, { on := 10, ground := .chain }, { on := 0, ground := .phase }, { on := 1, ground := .phase }, { on := 2, ground := .phase }, { on := 3, ground := .phase }, { on := 4, ground := .phase }, { on := 5, ground := .phase }, { on := 6, ground := .phase }, { on := 7, ground := .phase }, { on := 8, ground := .phase }, { on := 9, ground := .phase }, { on := 10, ground := .phase }], guard := none }) (v := .bool bb) rfl (by kernel_rfl) (by kernel_rfl) (by kernel_rfl) (fun _ _ _ h => h) (Or.inl ⟨by rfl, by intro w hSw; clear hSw; go_simp⟩) hS1 ?_
    try simp only [Act.put, List.setIfInBounds_toArray, List.set_cons_zero, List.set_cons_succ]
    refine wpAnyH_done (by kernel_rfl) ?_ _
    go_wp2_with fail
    exact bodyPost_ret (res_ci Try.results40 _ _ ⟨p + 1, 0, none⟩ (actV 1 t f m) (.bool bb) rfl rfl (act_res QX)) rfl ⟨rfl, BX⟩
  have h2' : (a == 2) = false := by simpa using h2
  by_cases h3 : a = 3
  · subst h3
    have EE : Hid (bkA 3 = 3 ∧ bkF 3 f t = t ∧ bkT 3 f t = f) := ⟨rfl, rfl, rfl⟩
    rw [EE.out.1, EE.out.2.1, EE.out.2.2]
    have T1 := Lib.hid (show W1.there (p + 1) 0 (#[.int .i64 3, .int .i64 t, .int .i64 f, .int .u64 m] : Array Value).size from bthere Q1.out 0 _ (Nat.le_refl 4))
    have I1 := Lib.hid (act_infoA 3 t f m)
    have O1 := Lib.hid (act_one 3 t f m)
    have QE : Kk.Blk (W1.setCells (p + 1) 0 [.int .i64 3, .int .i64 t, .int .i64 f, .int .u64 m]) (p + 1) [.int .i64 3, .int .i64 t, .int .i64 f, .int .u64 m].toArray 41 := bwhole Q1.out rfl
    have BE := bel_setCells B1.out (g := p + 1) (by rw [HP.out]; omega) 0 [.int .i64 3, .int .i64 t, .int .i64 f, .int .u64 m]
    have QE := Lib.hid QE
    have BE := Lib.hid BE
    clear EE
    obtain ⟨bb, hbb⟩ : ∃ bb, bkIs 3 t = bb := ⟨_, rfl⟩
    have hne : (t != 2) = bb := by rw [← hbb]; unfold bkIs; by_cases e : t = 2 <;> simp [e]
    rw [hbb]
    clear hbb
    go_enter Try.func40, Try.ntmps40
    go_upto_region 1 with fail
    rw [HW0.out, HP.out, HW1.out]
    go_upto_region 9 with fail
    refine wp_region_held_drew (S := fun V => Kk.Bel W0 V) (by kernel_rfl) B01.out.drew (fun hS0 => ?_)
    have q6 := Q1.out.bel (Kk.Bel.refl W1).drew
    have b6 := B1.out.drew
    obtain ⟨w6, hw6⟩ : ∃ w6, World.drew W1 = w6 := ⟨_, rfl⟩
    rw [hw6] at hS0 q6 b6 ⊢
    clear hw6
    have RA := Lib.hid (show W0.rangeAt p 0 [.int .i64 3, .int .i64 f, .int .i64 t, .int .u64 m] by rw [← HW0.out, ← HP.out]; exact rngB (C := [.int .i64 3, .int .i64 f, .int .i64 t, .int .u64 m]) (Kk.Blk.new w _ _))
    refine wpAnyH_take (i := 0) (oi := { dst := some 38, op := .fieldAddr 41 (.tmp 1) 2, type := 0, pos := "outright.go:121", after := #[], guard := none }) (v := .pointer (some ⟨p, 2, none⟩)) rfl (by kernel_rfl) (by kernel_rfl) (by kernel_rfl) (fun _ _ _ h => h) (Or.inl ⟨by rfl, by intro w hSw; clear hSw; go_simp⟩) hS0 ?_
    try simp only [Act.put, List.setIfInBounds_toArray, List.set_cons_zero, List.set_cons_succ]
    refine wpAnyH_take (i := 1) (oi := { dst := some 39, op := .load 3 (.tmp 38), type := 3, pos := "outright.go:121", after := #[{ on := 0, ground := .data }], guard := none }) (v := .int .i64 t) rfl (by kernel_rfl) (by kernel_rfl) (by kernel_rfl) (fun _ _ _ h => h) (Or.inl ⟨by rfl, by intro w h; have hcell := (cell_bel (RA.out 2 _ rfl) h); clear h; go_simp⟩) hS0 ?_
    try simp only [Act.put, List.setIfInBounds_toArray, List.set_cons_zero, List.set_cons_succ]
    refine wpAnyH_take (i := 2) (oi := { dst := some 40, op := .fieldAddr 41 (.tmp 1) 1, type := 0, pos := "outright.go:121", after := #[], guard := none }) (v := .pointer (some ⟨p, 1, none⟩)) rfl (by kernel_rfl) (by kernel_rfl) (by kernel_rfl) (fun _ _ _ h => h) (Or.inl ⟨by rfl, by intro w hSw; clear hSw; go_simp⟩) hS0 ?_
    try simp only [Act.put, List.setIfInBounds_toArray, List.set_cons_zero, List.set_cons_succ]
    refine wpAnyH_take (i := 3) (oi := { dst := some 41, op := .load 3 (.tmp 40), type := 3, pos := "outright.go:121", after := #[{ on := 2, ground := .data }], guard := none }) (v := .int .i64 f) rfl (by kernel_rfl) (by kernel_rfl) (by kernel_rfl) (fun _ _ _ h => h) (Or.inl ⟨by rfl, by intro w h; have hcell := (cell_bel (RA.out 1 _ rfl) h); clear h; go_simp⟩) hS0 ?_
    try simp only [Act.put, List.setIfInBounds_toArray, List.set_cons_zero, List.set_cons_succ]
    refine wpAnyH_take (i := 4) (oi := { dst := some 42, op := .fieldAddr 41 (.tmp 1) 3, type := 0, pos := "outright.go:121", after := #[], guard := none }) (v := .pointer (some ⟨p, 3, none⟩)) rfl (by kernel_rfl) (by kernel_rfl) (by kernel_rfl) (fun _ _ _ h => h) (Or.inl ⟨by rfl, by intro w hSw; clear hSw; go_simp⟩) hS0 ?_
    try simp only [Act.put, List.setIfInBounds_toArray, List.set_cons_zero, List.set_cons_succ]
    refine wpAnyH_take (i := 5) (oi := { dst := some 43, op := .load 23 (.tmp 42), type := 23, pos := "outright.go:121", after := #[{ on := 4, ground := .data }], guard := none }) (v := .int .u64 m) rfl (by kernel_rfl) (by kernel_rfl) (by kernel_rfl) (fun _ _ _ h => h) (Or.inl ⟨by rfl, by intro w h; have hcell := (cell_bel (RA.out 3 _ rfl) h); clear h; go_simp⟩) hS0 ?_
    try simp only [Act.put, List.setIfInBounds_toArray, List.set_cons_zero, List.set_cons_succ]
    refine wpAnyH_take (i := 6) (oi := { dst := some 44, op := .build 41 #[(0, .const (Value.int IntKind.i64 3)), (1, .tmp 39), (2, .tmp 41), (3, .tmp 43)], type := 41, pos := "outright.go:121", after := #[{ on := 1, ground := .data }, { on := 3, ground := .data }, { on := 5, ground := .data }], guard := none }) (v := .agg #[.int .i64 3, .int .i64 t, .int .i64 f, .int .u64 m]) rfl (by kernel_rfl) (by kernel_rfl) (by kernel_rfl) (fun _ _ _ h => h) (Or.inl ⟨by rfl, by intro w hSw; clear hSw; go_simp⟩) hS0 ?_
    try simp only [Act.put, List.setIfInBounds_toArray, List.set_cons_zero, List.set_cons_succ]
    refine wpAnyH_take (i := 7) (oi := { dst := some 45, op := .fieldAddr 41 (.tmp 1) 2, type := 0, pos := "outright.go:121", after := #[{ on := 10, ground := .gcOnly .lateStores }], guard := none }) (v := .pointer (some ⟨p, 2, none⟩)) rfl (by kernel_rfl) (by kernel_rfl) (by kernel_rfl) (fun _ _ _ h => h) (Or.inl ⟨by rfl, by intro w hSw; clear hSw; go_simp⟩) hS0 ?_
    try simp only [Act.put, List.setIfInBounds_toArray, List.set_cons_zero, List.set_cons_succ]
    refine wpAnyH_take (i := 8) (oi := { dst := some 46, op := .load 3 (.tmp 45), type := 3, pos := "outright.go:121", after := #[{ on := 7, ground := .data }, { on := 10, ground := .gcOnly .lateStores }], guard := none }) (v := .int .i64 t) rfl (by kernel_rfl) (by kernel_rfl) (by kernel_rfl) (fun _ _ _ h => h) (Or.inl ⟨by rfl, by intro w h; have hcell := (cell_bel (RA.out 2 _ rfl) h); clear h; go_simp⟩) hS0 ?_
    try simp only [Act.put, List.setIfInBounds_toArray, List.set_cons_zero, List.set_cons_succ]
    refine wpAnyH_take (i := 9) (oi := { dst := some 47, op := .binOp .neq 3 (.tmp 46) (.const (Value.int IntKind.i64 2)) 3, type := 4, pos := "outright.go:121", after := #[{ on := 8, ground := .data }, { on := 10, ground := .gcOnly .lateStores }], guard := none }) (v := .bool bb) rfl (by kernel_rfl) (by kernel_rfl) (by kernel_rfl) (fun _ _ _ h => h) (Or.inl ⟨by rfl, by intro w hSw; clear hSw; go_simp⟩) hS0 ?_
    try simp only [Act.put, List.setIfInBounds_toArray, List.set_cons_zero, List.set_cons_succ]
    refine wpAnyH_ready (rs := [10]) (by kernel_rfl) (by simp) ?_
    refine AllReadyH.cons (o := { dst := none, op := .store 41 (.tmp 2) (.tmp 44), type := 0, pos := "outright.go:121", after := #[{ on := 6, ground := .data }, { on := 0, ground := .phase }, { on := 1, ground := .phase }, { on := 2, ground := .phase }, { on := 3, ground := .phase }, { on := 4, ground := .phase }, { on := 5, ground := .phase }, { on := 6, ground := .phase }, { on := 7, ground := .textOnly .lateStores }, { on := 8, ground := .textOnly .lateStores }, { on := 9, ground := .textOnly .lateStores }], guard := none }) rfl (fun K hK => ?_) AllReadyH.nil
    rw [if_pos (by rfl)]
    refine wp_store_mid 41 (.tmp 2) (.tmp 44) rfl (p + 1) 0 #[.int .i64 3, .int .i64 t, .int .i64 f, .int .u64 m] rfl rfl (bthere q6 0 _ (Nat.le_refl 4)) I1.out O1.out ?_
    have hS1 := bel_setCells hS0 (g := p + 1) (by rw [HS0.out]; exact Nat.le_refl _) 0 [.int .i64 3, .int .i64 t, .int .i64 f, .int .u64 m]
    have QX : Kk.Blk (World.setCells w6 (p + 1) 0 [.int .i64 3, .int .i64 t, .int .i64 f, .int .u64 m]) (p + 1) [.int .i64 3, .int .i64 t, .int .i64 f, .int .u64 m].toArray 41 := bwhole q6 rfl
    have BX := bel_setCells b6 (g := p + 1) (by rw [HP.out]; omega) 0 [.int .i64 3, .int .i64 t, .int .i64 f, .int .u64 m]
    refine hK.out _ _ hS1 (fun hS1 => ?_)
    clear hK K
    refine wpAnyH_take (i := 11) (oi := { dst := some 3, op := .assign (.tmp 47), type := 4, pos := "outright.go:121", after := #[{ on := 9, ground := .data }, { on := 10, ground := .chain }, { on := 0, ground := .phase }, { on := 1, ground := .phase }, { on := 2, ground := .phase }, { on := 3, ground := .phase }, { on := 4, ground := .phase }, { on := 5, ground := .phase }, { on := 6, ground := .phase }, { on := 7, ground := .phase }, { on := 8, ground := .phase }, { on := 9, ground := .phase }, { on := 10, ground := .phase }], guard := none }) (v := .bool bb) rfl (by kernel_rfl) (by kernel_rfl) (by kernel_rfl) (fun _ _ _ h => h) (Or.inl ⟨by rfl, by intro w hSw; clear hSw; go_simp⟩) hS1 ?_
    try simp only [Act.put, List.setIfInBounds_toArray, List.set_cons_zero, List.set_cons_succ]
    refine wpAnyH_done (by kernel_rfl) ?_ _
    go_wp2_with fail
    exact bodyPost_ret (res_ci Try.results40 _ _ ⟨p + 1, 0, none⟩ (actV 3 t f m) (.bool bb) rfl rfl (act_res QX)) rfl ⟨rfl, BX⟩
  have h3' : (a == 3) = false := by simpa using h3
  have EE : Hid (bkA a = a ∧ bkF a f t = f ∧ bkT a f t = t ∧ bkIs a t = false) := by
    refine ⟨?_, ?_, ?_, ?_⟩
    · unfold bkA; rw [if_neg h0, if_neg h1, if_neg h2, if_neg h3]
    · unfold bkF; rw [if_neg (by omega)]
    · unfold bkT; rw [if_neg (by omega)]
    · unfold bkIs; exact decide_eq_false (by omega)
  rw [EE.out.1, EE.out.2.1, EE.out.2.2.1, EE.out.2.2.2]
  clear EE
  have RA := Lib.hid (show W1.rangeAt p 0 [.int .i64 a, .int .i64 f, .int .i64 t, .int .u64 m] from rngB (C := [.int .i64 a, .int .i64 f, .int .i64 t, .int .u64 m]) A1.out)
  have iA := Lib.hid (show (Try.prog.info? 41).map (·.size) = some ([.int .i64 a, .int .i64 f, .int .i64 t, .int .u64 m] : List Value).length from info_act)
  have T1 := Lib.hid (show W1.there (p + 1) 0 (#[.int .i64 a, .int .i64 f, .int .i64 t, .int .u64 m] : Array Value).size from bthere Q1.out 0 _ (Nat.le_refl 4))
  have I1 := Lib.hid (act_infoA a f t m)
  have O1 := Lib.hid (act_one a f t m)
  have QE : Hid (Kk.Blk (W1.setCells (p + 1) 0 [.int .i64 a, .int .i64 f, .int .i64 t, .int .u64 m]) (p + 1) [.int .i64 a, .int .i64 f, .int .i64 t, .int .u64 m].toArray 41) := Lib.hid (bwhole Q1.out rfl)
  have BE := Lib.hid (bel_setCells B1.out (g := p + 1) (by rw [HP.out]; omega) 0 [.int .i64 a, .int .i64 f, .int .i64 t, .int .u64 m])
  go_enter Try.func40, Try.ntmps40
  go_upto_region 1 with fail
  rw [HW0.out, HP.out, HW1.out]
  go_wp2_with (first | ((with_reducible refine wpList_load_mid ?_ 41 (.tmp 1) ?_ p 0 ?_ _ _ RA.out uA ?_ iA.out ?_); rfl; rfl; rfl; rfl) | ((with_reducible refine wpList_store_mid ?_ 41 (.tmp 2) (.tmp 48) ?_ (p + 1) 0 #[.int .i64 a, .int .i64 f, .int .i64 t, .int .u64 m] ?_ ?_ T1.out I1.out O1.out ?_); rfl; rfl; rfl; rfl))
  exact bodyPost_ret (res_ci Try.results40 _ _ ⟨p + 1, 0, none⟩ (actV a f t m) (.bool false) rfl rfl (act_res QE.out)) rfl ⟨rfl, BE.out⟩
end Bk
end Go.Proofs.Ythdcgkikhindiaa
