/-
  What a bag's Push and Pop, and container/heap's Push and Pop, answer of a ranking. Conditions: at most a million validators.
-/
import Derived.Test.YtmbodfmdaocppaaAc2
import Derived.Test.YtmbodfmdaocppaaAc0
namespace Go.Proofs.Ytmbodfmdaocppaa
open Go.RowKit Go.Shelf
set_option linter.unusedVariables false
set_option linter.unusedSimpArgs false
namespace Ac
open Kk Pm Ro

theorem under_bag : Try.prog.underlying 54 = some (.slice 3) := by kernel_rfl
theorem elem_bag : Try.prog.elem 54 = 3 := by kernel_rfl
theorem ta_ (x : Int) (w : World) : (Instr.typeAssert (.iface 3 (.int .i64 x)) 20 3 false).run Try.prog w = .ok (.int .i64 x) w := by kernel_rfl
set_option maxRecDepth 100000 in
set_option maxHeartbeats 2000000 in
theorem bpush {w0 : World} {p : Nat} {v : Value} {T : Option Addr} {tn tc : Nat} {t : List Int} {f : Nat → Nat} {n : Nat} (x : Nat) (w : World) (h : Ro_ w0 w p v T tn tc t f n) (hx : x < tn) (hn : n < 1000000) :
    Calls Try.prog 72 #[.pointer (some ⟨p, 0, none⟩), .iface 3 (.int .i64 x)] w fun e w' => e = .returned (.tuple #[]) ∧ ∃ v', Ro_ w0 w' p v' T tn tc t (snc f n x) (n + 1) := by
  have c0 := h.blk.cell 0 rfl
  have hvv : v.oneCell' = true := h.own.one
  have hta := ta_ x
  have HH := Lib.hid h
  clear h
  go_enter Try.func72, Try.ntmps72
  refine wp_region_held_drew (S := fun Vx => Bel w0 Vx) (by kernel_rfl) (HH.out.bel.drew) (fun hS0 => ?_)
  have c0 : (World.drew w).cell? ⟨p, 0, none⟩ = some v := c0
  have HO := Lib.hid (HH.out.own.bel ((Bel.refl w).drew))
  have HBK := Lib.hid (HH.out.blk.bel ((Bel.refl w).drew))
  obtain ⟨w6, hw6⟩ : ∃ w6, World.drew w = w6 := ⟨_, rfl⟩
  rw [hw6] at hS0 c0 HO HBK ⊢
  clear hw6
  refine wpAnyH_take (i := 0) (oi := { dst := some 4, op := .move (.tmp 0), type := 96, pos := "heap.go:10", after := #[], guard := none }) (v := .pointer (some ⟨p, 0, none⟩)) rfl (by kernel_rfl) (by kernel_rfl) (by kernel_rfl) (fun _ _ _ h => h) (Or.inl ⟨by rfl, by intro w hSw; clear hSw; go_simp⟩) hS0 ?_
  try simp only [Act.put, List.setIfInBounds_toArray, List.set_cons_zero, List.set_cons_succ]
  refine wpAnyH_take (i := 1) (oi := { dst := some 5, op := .move (.tmp 0), type := 96, pos := "heap.go:10", after := #[], guard := none }) (v := .pointer (some ⟨p, 0, none⟩)) rfl (by kernel_rfl) (by kernel_rfl) (by kernel_rfl) (fun _ _ _ h => h) (Or.inl ⟨by rfl, by intro w hSw; clear hSw; go_simp⟩) hS0 ?_
  try simp only [Act.put, List.setIfInBounds_toArray, List.set_cons_zero, List.set_cons_succ]
  refine wpAnyH_take (i := 2) (oi := { dst := some 6, op := Op.nilCheck (.tmp 5), type := 0, pos := "heap.go:10", after := #[{ on := 1, ground := .data }], guard := none }) (v := .pointer (some ⟨p, 0, none⟩)) rfl (by kernel_rfl) (by kernel_rfl) (by kernel_rfl) (fun _ _ _ h => h) (Or.inl ⟨by rfl, by intro w hSw; clear hSw; go_simp⟩) hS0 ?_
  try simp only [Act.put, List.setIfInBounds_toArray, List.set_cons_zero, List.set_cons_succ]
  refine wpAnyH_take (i := 4) (oi := { dst := some 8, op := .move (.tmp 1), type := 20, pos := "heap.go:10", after := #[], guard := none }) (v := .iface 3 (.int .i64 x)) rfl (by kernel_rfl) (by kernel_rfl) (by kernel_rfl) (fun _ _ _ h => h) (Or.inl ⟨by rfl, by intro w hSw; clear hSw; go_simp⟩) hS0 ?_
  try simp only [Act.put, List.setIfInBounds_toArray, List.set_cons_zero, List.set_cons_succ]
  refine wpAnyH_take (i := 5) (oi := { dst := some 9, op := Op.typeAssert (.tmp 8) 20 3 false, type := 3, pos := "heap.go:10", after := #[{ on := 4, ground := .data }], guard := none }) (v := .int .i64 x) rfl (by kernel_rfl) (by kernel_rfl) (by kernel_rfl) (fun _ _ _ h => h) (Or.inl ⟨by rfl, by intro w hSw; clear hSw; go_simp⟩) hS0 ?_
  try simp only [Act.put, List.setIfInBounds_toArray, List.set_cons_zero, List.set_cons_succ]
  refine wpAnyH_ready (rs := [3, 6]) (by kernel_rfl) (by simp) ?_
  refine AllReadyH.cons (o := { dst := some 7, op := .load 54 (.tmp 6), type := 54, pos := "heap.go:10", after := #[{ on := 2, ground := .data }], guard := none }) rfl (fun K hK => ?_) (AllReadyH.cons (o := { dst := some 10, op := .buildSlice 54 1 #[(0, .tmp 9)], type := 54, pos := "heap.go:10", after := #[{ on := 5, ground := .data }], guard := none }) rfl (fun K hK => ?_) AllReadyH.nil)
  · have c0 : World.cell? w6 ⟨p, 0, none⟩ = some v := by first | exact c0 | exact cell_bel c0 gbk
    go_simp
    refine hK.out _ _ (hS0) (fun hS1 => ?_)
    clear hK K
    try simp only [Act.put, List.setIfInBounds_toArray, List.set_cons_zero, List.set_cons_succ]
    refine wpAnyH_ready (rs := [6]) (by kernel_rfl) (by simp) ?_
    refine AllReadyH.cons (o := { dst := some 10, op := .buildSlice 54 1 #[(0, .tmp 9)], type := 54, pos := "heap.go:10", after := #[{ on := 5, ground := .data }], guard := none }) rfl (fun K hK => ?_) AllReadyH.nil
    go_simp
    refine hK.out _ _ (hS1.alloc _) (fun hS2 => ?_)
    clear hK K
    try simp only [Act.put, List.setIfInBounds_toArray, List.set_cons_zero, List.set_cons_succ]
    have gbb := Blk.new w6 #[.int .i64 x] 3
    have gbl := Lib.hid (Below.size hS1)
    generalize hvq : World.alloc w6 (Obj.cells #[.int .i64 x] 3) = v2 at gbb hS2 ⊢
    have gbk : Bel w6 v2 := by rw [← hvq]; exact (Bel.refl _).alloc _
    clear hvq
    obtain ⟨gb, hgq⟩ : ∃ g, (World.heap w6).size = g := ⟨_, rfl⟩
    rw [hgq] at gbb gbl ⊢
    clear hgq
    have gbb := Lib.hid gbb
    refine wpAnyH_ready (rs := [7]) (by kernel_rfl) (by simp) ?_
    refine AllReadyH.cons (o := { dst := some 11, op := .call { callee := .builtin .append, args := #[.tmp 7, .tmp 10], argTypes := #[54, 54] }, type := 54, pos := "heap.go:10", after := #[{ on := 3, ground := .data }, { on := 6, ground := .data }], guard := none }) rfl (fun K hK => ?_) AllReadyH.nil
    have HO4 := Lib.hid (show OwnI v2 w0.heap.size v (fl f n) from HO.out.bel gbk)
    have HX4 := Lib.hid (show Rw.RS iR v2 (some ⟨gb, 0, none⟩) 1 1 [x] from Rw.rs_one iR gbb.out)
    obtain ⟨v9, W9, hAP, hOW, hgr⟩ := run_append_i 54 54 under_bag HO4.out HX4.out (by omega) (by rw [fl_len]; omega) (Below.size (show Bel w0 v2 from hS2))
    obtain ⟨A9, c9, e9, _⟩ := Rw.OwnR.rs iR hOW
    obtain ⟨n9, hn9⟩ : ∃ n9, (fl f n ++ [x]).length = n9 := ⟨_, rfl⟩
    rw [hn9] at e9
    subst e9
    have HB9 := Lib.hid (show Bel w0 W9 from Kk.Bel.grown hS2 hgr (fun k hk => (HO4.out.lt k hk).1))
    have HBK9 := Lib.hid (blk_row (show Blk v2 p #[v, .slice T tn tc] 56 from HBK.out.bel gbk) hgr (Rw.own_ne HO4.out (show Blk v2 p #[v, .slice T tn tc] 56 from HBK.out.bel gbk) (by decide)))
    have HAP := Lib.hid hAP
    have HOW := Lib.hid hOW
    clear hAP hOW hgr
    refine Rw.step_append_run rfl (.tmp 7) (.tmp 10) 54 54 rfl _ _ (by simp [Act.eval, Act.put]) (by simp [Act.eval, Act.put]) HAP.out ?_
    refine hK.out _ _ (HB9.out) (fun hS3 => ?_)
    clear hK K
    try simp only [Act.put, List.setIfInBounds_toArray, List.set_cons_zero, List.set_cons_succ]
    refine wpAnyH_take (i := 8) (oi := { dst := some 12, op := Op.nilCheck (.tmp 4), type := 0, pos := "heap.go:10", after := #[{ on := 0, ground := .data }, { on := 0, ground := .phase }, { on := 1, ground := .phase }, { on := 2, ground := .phase }, { on := 3, ground := .phase }, { on := 4, ground := .phase }, { on := 5, ground := .phase }, { on := 6, ground := .phase }, { on := 7, ground := .phase }], guard := none }) (v := .pointer (some ⟨p, 0, none⟩)) rfl (by kernel_rfl) (by kernel_rfl) (by kernel_rfl) (fun _ _ _ h => h) (Or.inl ⟨by rfl, by intro w hSw; clear hSw; go_simp⟩) hS3 ?_
    try simp only [Act.put, List.setIfInBounds_toArray, List.set_cons_zero, List.set_cons_succ]
    refine wpAnyH_ready (rs := [9]) (by kernel_rfl) (by simp) ?_
    refine AllReadyH.cons (o := { dst := none, op := .store 54 (.tmp 12) (.tmp 11), type := 0, pos := "heap.go:10", after := #[{ on := 8, ground := .data }, { on := 7, ground := .data }, { on := 7, ground := .chain }, { on := 0, ground := .phase }, { on := 1, ground := .phase }, { on := 2, ground := .phase }, { on := 3, ground := .phase }, { on := 4, ground := .phase }, { on := 5, ground := .phase }, { on := 6, ground := .phase }, { on := 7, ground := .phase }], guard := none }) rfl (fun K hK => ?_) AllReadyH.nil
    have d0 := HBK9.out.cell 0 rfl
    have df := HBK9.out.frozen 0
    go_simp
    refine hK.out _ _ (Bel.set hS3 (p := ⟨p, 0, none⟩) HH.out.new _) (fun hS4 => ?_)
    clear hK K
    try simp only [Act.put, List.setIfInBounds_toArray, List.set_cons_zero, List.set_cons_succ]
    refine wpAnyH_done (by kernel_rfl) ?_ _
    go_wp2_with fail
    go_end0
    have hbk := HBK9.out.set 0 (.slice A9 n9 c9)
    refine ⟨rfl, _, hS4, HH.out.new, hbk, ?_, HH.out.tok, fun k hk => ?_, by omega⟩
    rotate_left
    unfold snc
    split
    exact hx
    exact HH.out.lts k (by omega)
    have ho := HOW.out
    rw [fl_snc] at ho
    exact ho.kep (S := fun i => i = p) (Kep.set_self (Kep.refl _ _) _ _) (fun i e e' => Rw.own_ne ho HBK9.out (by decide) (by rw [e, e']))
  · go_simp
    refine hK.out _ _ (hS0.alloc _) (fun hS1 => ?_)
    clear hK K
    try simp only [Act.put, List.setIfInBounds_toArray, List.set_cons_zero, List.set_cons_succ]
    have gbb := Blk.new w6 #[.int .i64 x] 3
    have gbl := Lib.hid (Below.size hS0)
    generalize hvq : World.alloc w6 (Obj.cells #[.int .i64 x] 3) = v1 at gbb hS1 ⊢
    have gbk : Bel w6 v1 := by rw [← hvq]; exact (Bel.refl _).alloc _
    clear hvq
    obtain ⟨gb, hgq⟩ : ∃ g, (World.heap w6).size = g := ⟨_, rfl⟩
    rw [hgq] at gbb gbl ⊢
    clear hgq
    have gbb := Lib.hid gbb
    refine wpAnyH_ready (rs := [3]) (by kernel_rfl) (by simp) ?_
    refine AllReadyH.cons (o := { dst := some 7, op := .load 54 (.tmp 6), type := 54, pos := "heap.go:10", after := #[{ on := 2, ground := .data }], guard := none }) rfl (fun K hK => ?_) AllReadyH.nil
    have c0 : World.cell? v1 ⟨p, 0, none⟩ = some v := by first | exact c0 | exact cell_bel c0 gbk
    go_simp
    refine hK.out _ _ (hS1) (fun hS2 => ?_)
    clear hK K
    try simp only [Act.put, List.setIfInBounds_toArray, List.set_cons_zero, List.set_cons_succ]
    refine wpAnyH_ready (rs := [7]) (by kernel_rfl) (by simp) ?_
    refine AllReadyH.cons (o := { dst := some 11, op := .call { callee := .builtin .append, args := #[.tmp 7, .tmp 10], argTypes := #[54, 54] }, type := 54, pos := "heap.go:10", after := #[{ on := 3, ground := .data }, { on := 6, ground := .data }], guard := none }) rfl (fun K hK => ?_) AllReadyH.nil
    have HO4 := Lib.hid (show OwnI v1 w0.heap.size v (fl f n) from HO.out.bel gbk)
    have HX4 := Lib.hid (show Rw.RS iR v1 (some ⟨gb, 0, none⟩) 1 1 [x] from Rw.rs_one iR gbb.out)
    obtain ⟨v9, W9, hAP, hOW, hgr⟩ := run_append_i 54 54 under_bag HO4.out HX4.out (by omega) (by rw [fl_len]; omega) (Below.size (show Bel w0 v1 from hS2))
    obtain ⟨A9, c9, e9, _⟩ := Rw.OwnR.rs iR hOW
    obtain ⟨n9, hn9⟩ : ∃ n9, (fl f n ++ [x]).length = n9 := ⟨_, rfl⟩
    rw [hn9] at e9
    subst e9
    have HB9 := Lib.hid (show Bel w0 W9 from Kk.Bel.grown hS2 hgr (fun k hk => (HO4.out.lt k hk).1))
    have HBK9 := Lib.hid (blk_row (show Blk v1 p #[v, .slice T tn tc] 56 from HBK.out.bel gbk) hgr (Rw.own_ne HO4.out (show Blk v1 p #[v, .slice T tn tc] 56 from HBK.out.bel gbk) (by decide)))
    have HAP := Lib.hid hAP
    have HOW := Lib.hid hOW
    clear hAP hOW hgr
    refine Rw.step_append_run rfl (.tmp 7) (.tmp 10) 54 54 rfl _ _ (by simp [Act.eval, Act.put]) (by simp [Act.eval, Act.put]) HAP.out ?_
    refine hK.out _ _ (HB9.out) (fun hS3 => ?_)
    clear hK K
    try simp only [Act.put, List.setIfInBounds_toArray, List.set_cons_zero, List.set_cons_succ]
    refine wpAnyH_take (i := 8) (oi := { dst := some 12, op := Op.nilCheck (.tmp 4), type := 0, pos := "heap.go:10", after := #[{ on := 0, ground := .data }, { on := 0, ground := .phase }, { on := 1, ground := .phase }, { on := 2, ground := .phase }, { on := 3, ground := .phase }, { on := 4, ground := .phase }, { on := 5, ground := .phase }, { on := 6, ground := .phase }, { on := 7, ground := .phase }], guard := none }) (v := .pointer (some ⟨p, 0, none⟩)) rfl (by kernel_rfl) (by kernel_rfl) (by kernel_rfl) (fun _ _ _ h => h) (Or.inl ⟨by rfl, by intro w hSw; clear hSw; go_simp⟩) hS3 ?_
    try simp only [Act.put, List.setIfInBounds_toArray, List.set_cons_zero, List.set_cons_succ]
    refine wpAnyH_ready (rs := [9]) (by kernel_rfl) (by simp) ?_
    refine AllReadyH.cons (o := { dst := none, op := .store 54 (.tmp 12) (.tmp 11), type := 0, pos := "heap.go:10", after := #[{ on := 8, ground := .data }, { on := 7, ground := .data }, { on := 7, ground := .chain }, { on := 0, ground := .phase }, { on := 1, ground := .phase }, { on := 2, ground := .phase }, { on := 3, ground := .phase }, { on := 4, ground := .phase }, { on := 5, ground := .phase }, { on := 6, ground := .phase }, { on := 7, ground := .phase }], guard := none }) rfl (fun K hK => ?_) AllReadyH.nil
    have d0 := HBK9.out.cell 0 rfl
    have df := HBK9.out.frozen 0
    go_simp
    refine hK.out _ _ (Bel.set hS3 (p := ⟨p, 0, none⟩) HH.out.new _) (fun hS4 => ?_)
    clear hK K
    try simp only [Act.put, List.setIfInBounds_toArray, List.set_cons_zero, List.set_cons_succ]
    refine wpAnyH_done (by kernel_rfl) ?_ _
    go_wp2_with fail
    go_end0
    have hbk := HBK9.out.set 0 (.slice A9 n9 c9)
    refine ⟨rfl, _, hS4, HH.out.new, hbk, ?_, HH.out.tok, fun k hk => ?_, by omega⟩
    rotate_left
    unfold snc
    split
    exact hx
    exact HH.out.lts k (by omega)
    have ho := HOW.out
    rw [fl_snc] at ho
    exact ho.kep (S := fun i => i = p) (Kep.set_self (Kep.refl _ _) _ _) (fun i e e' => Rw.own_ne ho HBK9.out (by decide) (by rw [e, e']))

theorem slice_bag (g N c k : Nat) (h : k ≤ c) (w : World) : (Instr.slice 54 (.slice (some ⟨g, 0, none⟩) N c) none (some (.int .i64 k)) none).run Try.prog w = .ok (.slice (some ⟨g, 0, none⟩) k c) w := by
  rw [run_slice_h (P := Try.prog) (w := w) (t := 54) (a := some ⟨g, 0, none⟩) (len := N) (cap := c) (by rw [elem_bag]; exact under_bag) .i64 k (by omega) (by omega)]
  rw [elem_bag]
  simp [Try.sizeOf3, Result.andThen, sliced, Rw.add_at]
theorem rg_out {w : World} {p g cap : Nat} {T : Option Addr} {tn tc : Nat} {t : List Int} {f : Nat → Nat} {n : Nat} (h : Rg w p g cap T tn tc t f (n + 1)) : Rg (w.setCell ⟨p, 0, none⟩ (.slice (some ⟨g, 0, none⟩) n cap)) p g cap T tn tc t f n := by
  have hk : Kep (fun b => b = p) w (w.setCell ⟨p, 0, none⟩ (.slice (some ⟨g, 0, none⟩) n cap)) := Kep.set_self (Kep.refl _ _) _ _
  have hr := h.row.kep hk h.ne
  refine ⟨h.blk.set 0 _, ?_, h.tok.kep hk (fun x hx => (h.far x hx).2), h.far, fun k hk => h.lts k (by omega), h.cap, by have := h.few; omega⟩
  obtain ⟨cur, h1, h2, h3⟩ := hr.blk
  refine ⟨⟨cur, h1, ?_, h3⟩, by have := hr.cap; rw [fl_len] at this ⊢; omega⟩
  rw [fl_len] at h2 ⊢
  have e : cur.toList.take (n * iR.z) = (cur.toList.take ((n + 1) * iR.z)).take (n * iR.z) := by
    rw [List.take_take, Nat.min_eq_left (Nat.mul_le_mul_right _ (by omega))]
  rw [e, h2, Rw.flat_take, fl_take]
set_option maxRecDepth 100000 in
set_option maxHeartbeats 2000000 in
theorem bpop {p g cap : Nat} {T : Option Addr} {tn tc : Nat} {t : List Int} {f : Nat → Nat} {n : Nat} (w : World) (h : Rg w p g cap T tn tc t f (n + 1)) :
    Calls Try.prog 71 #[.pointer (some ⟨p, 0, none⟩)] w fun e w' => e = .returned (.iface 3 (.int .i64 (f n))) ∧ Rg w' p g cap T tn tc t f n ∧ Kep (fun b => b = p) w w' := by
  have c0 := h.blk.cell 0 rfl
  have fz := h.blk.frozen 0
  have cn := h.at (show n < n + 1 by omega)
  have hfew := h.few
  have hcap : n ≤ cap := by have := h.row.cap; rw [fl_len] at this; omega
  have hsl := slice_bag g (n + 1) cap n hcap
  have HP := Lib.hid (rg_out h)
  have HK := Lib.hid (show Kep (fun b => b = p) w (w.setCell ⟨p, 0, none⟩ (.slice (some ⟨g, 0, none⟩) n cap)) from Kep.set_self (Kep.refl _ _) _ _)
  have hw1 : IntKind.i64.wrap (((n + 1 : Nat) : Int) - 1) = (n : Int) := by rw [IntWalk.i64_in _ (by omega)]; omega
  have n3 : (n : Int) < ((n + 1 : Nat) : Int) := by omega
  have n0 : (0 : Int) ≤ n := by omega
  clear h hcap
  generalize n + 1 = N at *
  go_enter Try.func71, Try.ntmps71
  go_wp2
  go_ret
  exact ⟨rfl, HP.out, HK.out⟩

set_option maxRecDepth 100000 in
set_option maxHeartbeats 2000000 in
/-- The richest one taken out. -/
theorem hpop {p g cap : Nat} {T : Option Addr} {tn tc : Nat} {t : List Int} {f : Nat → Nat} {n : Nat} {S : Nat → Prop} (w : World) (h : Rg w p g cap T tn tc t f (n + 1)) (hB : Bag S f (n + 1)) (hH : Heap t f (n + 1)) (ht : tn ≤ 1000000000) :
    Calls Try.prog 45 #[.iface 51 (.pointer (some ⟨p, 0, none⟩))] w fun e w' => e = .returned (.iface 3 (.int .i64 (f 0))) ∧ ∃ f', Rg w' p g cap T tn tc t f' n ∧ Bag (fun x => S x ∧ x ≠ f 0) f' n ∧ Heap t f' n ∧ Kep (fun b => b = g ∨ b = p) w w' := by
  have ML := m_len (h.blk.cell 0 rfl)
  have MS := m_swap (h.blk.cell 0 rfl)
  have MP := m_pop p
  have CS := Lib.hid (swapR 0 n w h (by omega) (by omega))
  have hfew := h.few
  have NB := Lib.hid (hB.sw (i := 0) (j := n) (by omega) (by omega))
  have ND := Lib.hid hH.dn
  have hsn : sw f 0 n n = f 0 := sw_j f 0 n
  have hw1 : IntKind.i64.wrap (((n + 1 : Nat) : Int) - 1) = (n : Int) := by rw [IntWalk.i64_in _ (by omega)]; omega
  have CL := Lib.hid (len_ (some ⟨g, 0, none⟩) (n + 1) cap w)
  have HS := Lib.hid hsn
  clear h hB hH hsn
  go_enter Try.func45, Try.ntmps45
  go_wp2_with fail
  refine CL.out.mono ?_
  rintro e w1 ⟨rfl, rfl⟩
  go_wp2_with fail
  refine CS.out.mono ?_
  rintro e w2 ⟨rfl, hr, kb⟩
  have CD := Lib.hid (down_ w2 hr NB.out ND.out HS.out ht)
  have K2 := Lib.hid (show Kep (fun b => b = g ∨ b = p) w w2 from kb.mono (fun k _ h => .inl h))
  clear hr kb CS ML MS NB ND HS
  go_wp2_with fail
  refine CD.out.mono ?_
  rintro e w3 ⟨b, rfl, f', hr, hb, hh, hx, kb⟩
  have CP := Lib.hid (bpop w3 hr)
  rw [hx] at CP
  have HB := Lib.hid (show Bag (fun x => S x ∧ x ≠ f 0) f' n by rw [← hx]; exact hb.pop)
  have HH := Lib.hid hh
  have K3 := Lib.hid (K2.out.trans (show Kep (fun b => b = g ∨ b = p) w2 w3 from kb.mono (fun k _ h => .inl h)))
  clear hr hb hh hx kb K2 CD
  go_wp2_with fail
  refine CP.out.mono ?_
  rintro e w4 ⟨rfl, hr, kb⟩
  have HR := Lib.hid hr
  have K4 := Lib.hid (K3.out.trans (show Kep (fun b => b = g ∨ b = p) w3 w4 from kb.mono (fun k _ h => .inr h)))
  clear hr kb K3 CP
  go_wp2_with fail
  go_ret
  exact ⟨rfl, f', HR.out, HB.out, HH.out, K4.out⟩
set_option maxRecDepth 100000 in
set_option maxHeartbeats 2000000 in
theorem next_ {p g cap : Nat} {T : Option Addr} {tn tc : Nat} {t : List Int} {f : Nat → Nat} {n : Nat} {S : Nat → Prop} (w : World) (h : Rg w p g cap T tn tc t f (n + 1)) (hB : Bag S f (n + 1)) (hH : Heap t f (n + 1)) (ht : tn ≤ 1000000000) :
    Calls Try.prog 35 #[.pointer (some ⟨p, 0, none⟩)] w fun e w' => e = .returned (.int .i64 (f 0)) ∧ ∃ f', Rg w' p g cap T tn tc t f' n ∧ Bag (fun x => S x ∧ x ≠ f 0) f' n ∧ Heap t f' n ∧ Kep (fun b => b = g ∨ b = p) w w' := by
  have CP := Lib.hid (hpop w h hB hH ht)
  have hta := ta_ (f 0 : Int)
  clear h hB hH
  generalize f 0 = y at *
  go_enter Try.func35, Try.ntmps35
  go_wp2_with fail
  refine CP.out.mono ?_
  rintro e w1 ⟨rfl, hh⟩
  have HH := Lib.hid hh
  clear hh CP
  go_wp2_with fail
  go_ret
  exact ⟨rfl, HH.out⟩
set_option maxRecDepth 100000 in
set_option maxHeartbeats 2000000 in
theorem hpush {w0 : World} {p : Nat} {v : Value} {T : Option Addr} {tn tc : Nat} {t : List Int} {f : Nat → Nat} {n : Nat} {S : Nat → Prop} (x : Nat) (w : World) (h : Ro_ w0 w p v T tn tc t f n) (hB : Bag S f n) (hH : Heap t f n) (hS : ¬ S x) (hx : x < tn) (hn : n < 1000000) (ht : tn ≤ 1000000000) :
    Calls Try.prog 44 #[.iface 51 (.pointer (some ⟨p, 0, none⟩)), .iface 3 (.int .i64 x)] w fun e w' => e = .returned (.tuple #[]) ∧ ∃ v' f', Ro_ w0 w' p v' T tn tc t f' (n + 1) ∧ Bag (fun y => S y ∨ y = x) f' (n + 1) ∧ Heap t f' (n + 1) := by
  have MP := m_push p
  have CP := Lib.hid (bpush x w h hx hn)
  have NB := Lib.hid (hB.push hS)
  have NU := Lib.hid (hH.push (v := x))
  have hw1 : IntKind.i64.wrap (((n + 1 : Nat) : Int) - 1) = (n : Int) := by rw [IntWalk.i64_in _ (by omega)]; omega
  clear h hB hH hS
  go_enter Try.func44, Try.ntmps44
  go_wp2_with fail
  refine CP.out.mono ?_
  rintro e w1 ⟨rfl, v', hr⟩
  obtain ⟨g, cap, rfl, hg, hrg⟩ := hr.rg (by omega) (by omega)
  have ML := m_len (hrg.blk.cell 0 rfl)
  have CL := Lib.hid (len_ (some ⟨g, 0, none⟩) (n + 1) cap w1)
  have CU := Lib.hid (up_ w1 hrg NB.out NU.out (by omega) ht)
  have HR := Lib.hid hr
  have HG := Lib.hid hg
  clear hr hrg CP NB NU hg
  go_wp2_with fail
  refine CL.out.mono ?_
  rintro e w2 ⟨rfl, rfl⟩
  go_wp2_with fail
  refine CU.out.mono ?_
  rintro e w2 ⟨rfl, f', hr, hb, hh, kb⟩
  have HF := Lib.hid (show Ro_ w0 w2 p (.slice (some ⟨g, 0, none⟩) (n + 1) cap) T tn tc t f' (n + 1) from own_rg hr (Kep.bel HR.out.bel kb (fun k h => by rw [h]; exact HG.out)) HR.out.new HG.out HR.out.tok)
  have HB := Lib.hid hb
  have HH := Lib.hid hh
  clear hr hb hh kb CU HR
  go_wp2_with fail
  go_end0
  exact ⟨rfl, _, f', HF.out, HB.out, HH.out⟩
end Ac
end Go.Proofs.Ytmbodfmdaocppaa
