/-
  What the law's small functions answer: lists side by side, copied, written over; what is at a place. Conditions: at most a billion elements.
-/
import Derived.Test.YtmbodfmdaocppaaAc7
namespace Go.Proofs.Ytmbodfmdaocppaa
open Go.RowKit Go.Shelf
set_option linter.unusedVariables false
set_option linter.unusedSimpArgs false
namespace Ac
open Kk Pm Ro

theorem wat {w : World} {A : Option Addr} {n c : Nat} {l : List Int} (h : Rw.RS uR w A n c l) {i : Nat} (hi : i < n) : ∃ b o x, A = some ⟨b, o, none⟩ ∧ b < w.heap.size ∧ l[i]? = some x ∧ w.cell? ⟨b, o + i, none⟩ = some (.int .u64 x) := by
  obtain ⟨x, hx⟩ := h.get hi
  obtain ⟨b, o, e, hb, hr⟩ := h.at hi hx
  have := hr 0 (.int .u64 x) rfl
  exact ⟨b, o, x, e, hb, hx, by simpa [uR] using this⟩
theorem iat {w : World} {A : Option Addr} {n c : Nat} {l : List Nat} (h : Rw.RS iR w A n c l) {i : Nat} (hi : i < n) : ∃ (b o x : Nat), A = some ⟨b, o, none⟩ ∧ b < w.heap.size ∧ l[i]? = some x ∧ w.cell? ⟨b, o + i, none⟩ = some (.int .i64 x) := by
  obtain ⟨x, hx⟩ := h.get hi
  obtain ⟨b, o, e, hb, hc⟩ := int_at h hx
  exact ⟨b, o, x, e, hb, hx, hc⟩
set_option maxRecDepth 100000 in
set_option maxHeartbeats 4000000 in
theorem same_b (A B : Option Addr) (n c m d : Nat) (l1 l2 : List Bool) (w : World) (ha : Rw.RS bR w A n c l1) (hb : Rw.RS bR w B m d l2) (hn : n ≤ 1000000000) (hm : m ≤ 1000000000) :
    Calls Try.prog 15 #[.slice A n c, .slice B m d] w fun e w' => e = .returned (.bool (decide (l1 = l2))) ∧ Bel w w' := by
  have HA := Lib.hid ha
  have HB := Lib.hid hb
  have HLA := Lib.hid ha.len
  have HLB := Lib.hid hb.len
  clear ha hb
  by_cases hnm : n = m
  · subst hnm
    have hbb : ((n : Int) == n) = true := by simp
    go_enter Try.func15, Try.ntmps15
    go_wp2_with fail
    go_loopw [5, 6] (fun s i wr => ∃ k : Nat, k ≤ n ∧ i = .int .i64 k ∧ Bel w wr ∧ ∃ b : Bool, s = .bool b ∧ (b = true → l1.take k = l2.take k) ∧ (b = false → l1 ≠ l2)) (fun _ i _ => n - (intOf i).toNat)
    case atStart => exact ⟨0, Nat.zero_le _, rfl, Bel.refl _, true, rfl, fun _ => rfl, fun h => by cases h⟩
    case round =>
      obtain ⟨k, hk, rfl, hbel, b, rfl, ht, hf⟩ := hrel
      cases b with
      | false =>
        have HD := Lib.hid (show decide (l1 = l2) = false from decide_eq_false (hf rfl))
        have HBE := Lib.hid hbel
        clear ht hf hbel
        go_wp2
        go_ret
        exact ⟨by rw [HD.out]; rfl, HBE.out⟩
      | true =>
        have HT := Lib.hid (ht rfl)
        clear ht hf
        by_cases hlt : k < n
        · obtain ⟨g1, o1, x, rfl, _, hr1, c1⟩ := bool_at (HA.out.bel hbel) hlt
          obtain ⟨g2, o2, y, rfl, _, hr2, c2⟩ := bool_at (HB.out.bel hbel) hlt
          have HC1 := Lib.hid c1
          have HC2 := Lib.hid c2
          have HBE := Lib.hid hbel
          have HNX := Lib.hid (show ∀ z : Bool, (x == y) = z → (z = true → l1.take (k + 1) = l2.take (k + 1)) ∧ (z = false → l1 ≠ l2) from fun z hz => by
            refine ⟨fun h => ?_, fun h e => ?_⟩
            · rw [List.take_add_one, List.take_add_one, hr1, hr2, HT.out, beq_iff_eq.1 (hz.trans h)]
            · subst e
              have e := Option.some.inj (hr1.symm.trans hr2)
              rw [e, beq_self_eq_true] at hz
              rw [← hz] at h
              cases h)
          have hlt3 : (k : Int) < n := by omega
          have hlt0 : (0 : Int) ≤ k := by omega
          clear hr1 hr2 c1 c2 hbel
          go_upto_region 5 with fail
          refine wp_region_held_drew (S := fun Vx => Bel wr Vx) (by kernel_rfl) (Bel.refl _).drew (fun hS0 => ?_)
          obtain ⟨w6, hw6⟩ : ∃ w6, World.drew wr = w6 := ⟨_, rfl⟩
          rw [hw6] at hS0 ⊢
          clear hw6
          refine wpAnyH_take (i := 0) (oi := { dst := some 21, op := .move (.tmp 0), type := 23, pos := "law.go:14", after := #[], guard := none }) (v := .slice (some ⟨g1, o1, none⟩) n c) rfl (by kernel_rfl) (by kernel_rfl) (by kernel_rfl) (fun _ _ _ h => h) (Or.inl ⟨by rfl, by intro w hSw; clear hSw; go_simp⟩) hS0 ?_
          try simp only [Act.put, List.setIfInBounds_toArray, List.set_cons_zero, List.set_cons_succ]
          refine wpAnyH_take (i := 1) (oi := { dst := some 22, op := .move (.tmp 6), type := 3, pos := "law.go:14", after := #[], guard := none }) (v := .int .i64 k) rfl (by kernel_rfl) (by kernel_rfl) (by kernel_rfl) (fun _ _ _ h => h) (Or.inl ⟨by rfl, by intro w hSw; clear hSw; go_simp⟩) hS0 ?_
          try simp only [Act.put, List.setIfInBounds_toArray, List.set_cons_zero, List.set_cons_succ]
          refine wpAnyH_take (i := 2) (oi := { dst := some 23, op := .indexAddr 23 (.tmp 21) (.tmp 22), type := 0, pos := "law.go:14", after := #[{ on := 0, ground := .data }, { on := 1, ground := .data }], guard := none }) (v := .pointer (some ⟨g1, o1 + k, none⟩)) rfl (by kernel_rfl) (by kernel_rfl) (by kernel_rfl) (fun _ _ _ h => h) (Or.inl ⟨by rfl, by intro w hSw; clear hSw; go_simp⟩) hS0 ?_
          try simp only [Act.put, List.setIfInBounds_toArray, List.set_cons_zero, List.set_cons_succ]
          refine wpAnyH_take (i := 3) (oi := { dst := some 24, op := .load 4 (.tmp 23), type := 4, pos := "law.go:14", after := #[{ on := 2, ground := .data }], guard := none }) (v := .bool x) rfl (by kernel_rfl) (by kernel_rfl) (by kernel_rfl) (fun _ _ _ h => h) (Or.inl ⟨by rfl, by intro w h; have hcell := (cell_bel HC1.out h); clear h; go_simp⟩) hS0 ?_
          try simp only [Act.put, List.setIfInBounds_toArray, List.set_cons_zero, List.set_cons_succ]
          refine wpAnyH_take (i := 4) (oi := { dst := some 25, op := .move (.tmp 1), type := 23, pos := "law.go:14", after := #[], guard := none }) (v := .slice (some ⟨g2, o2, none⟩) n d) rfl (by kernel_rfl) (by kernel_rfl) (by kernel_rfl) (fun _ _ _ h => h) (Or.inl ⟨by rfl, by intro w hSw; clear hSw; go_simp⟩) hS0 ?_
          try simp only [Act.put, List.setIfInBounds_toArray, List.set_cons_zero, List.set_cons_succ]
          refine wpAnyH_take (i := 5) (oi := { dst := some 26, op := .move (.tmp 6), type := 3, pos := "law.go:14", after := #[], guard := none }) (v := .int .i64 k) rfl (by kernel_rfl) (by kernel_rfl) (by kernel_rfl) (fun _ _ _ h => h) (Or.inl ⟨by rfl, by intro w hSw; clear hSw; go_simp⟩) hS0 ?_
          try simp only [Act.put, List.setIfInBounds_toArray, List.set_cons_zero, List.set_cons_succ]
          refine wpAnyH_take (i := 6) (oi := { dst := some 27, op := .indexAddr 23 (.tmp 25) (.tmp 26), type := 0, pos := "law.go:14", after := #[{ on := 4, ground := .data }, { on := 5, ground := .data }], guard := none }) (v := .pointer (some ⟨g2, o2 + k, none⟩)) rfl (by kernel_rfl) (by kernel_rfl) (by kernel_rfl) (fun _ _ _ h => h) (Or.inl ⟨by rfl, by intro w hSw; clear hSw; go_simp⟩) hS0 ?_
          try simp only [Act.put, List.setIfInBounds_toArray, List.set_cons_zero, List.set_cons_succ]
          refine wpAnyH_take (i := 7) (oi := { dst := some 28, op := .load 4 (.tmp 27), type := 4, pos := "law.go:14", after := #[{ on := 6, ground := .data }], guard := none }) (v := .bool y) rfl (by kernel_rfl) (by kernel_rfl) (by kernel_rfl) (fun _ _ _ h => h) (Or.inl ⟨by rfl, by intro w h; have hcell := (cell_bel HC2.out h); clear h; go_simp⟩) hS0 ?_
          try simp only [Act.put, List.setIfInBounds_toArray, List.set_cons_zero, List.set_cons_succ]
          refine wpAnyH_take (i := 8) (oi := { dst := some 29, op := .binOp .eql 4 (.tmp 24) (.tmp 28) 4, type := 4, pos := "law.go:14", after := #[{ on := 3, ground := .data }, { on := 7, ground := .data }], guard := none }) (v := .bool (x == y)) rfl (by kernel_rfl) (by kernel_rfl) (by kernel_rfl) (fun _ _ _ h => h) (Or.inl ⟨by rfl, by intro w hSw; clear hSw; go_simp⟩) hS0 ?_
          try simp only [Act.put, List.setIfInBounds_toArray, List.set_cons_zero, List.set_cons_succ]
          refine wpAnyH_take (i := 9) (oi := { dst := some 5, op := .assign (.tmp 29), type := 4, pos := "law.go:14", after := #[{ on := 8, ground := .data }, { on := 0, ground := .phase }, { on := 1, ground := .phase }, { on := 2, ground := .phase }, { on := 3, ground := .phase }, { on := 4, ground := .phase }, { on := 5, ground := .phase }, { on := 6, ground := .phase }, { on := 7, ground := .phase }, { on := 8, ground := .phase }], guard := none }) (v := .bool (x == y)) rfl (by kernel_rfl) (by kernel_rfl) (by kernel_rfl) (fun _ _ _ h => h) (Or.inl ⟨by rfl, by intro w hSw; clear hSw; go_simp⟩) hS0 ?_
          try simp only [Act.put, List.setIfInBounds_toArray, List.set_cons_zero, List.set_cons_succ]
          refine wpAnyH_done (by kernel_rfl) ?_ _
          have HE := Lib.hid (HBE.out.trans hS0)
          clear HC1 HC2 HBE
          go_wp2_with fail
          go_roundw
          case rel => exact ⟨k + 1, by omega, by go_num, HE.out, _, rfl, (HNX.out _ rfl).1, (HNX.out _ rfl).2⟩
          case measure => simp [intOf]; omega
        · obtain rfl : k = n := by omega
          have HD := Lib.hid (show decide (l1 = l2) = true from decide_eq_true (by
            have h := HT.out
            rwa [List.take_of_length_le (by rw [HLA.out]; exact Nat.le_refl _), List.take_of_length_le (by rw [HLB.out]; exact Nat.le_refl _)] at h))
          have HBE := Lib.hid hbel
          clear hbel
          go_wp2
          go_ret
          exact ⟨by rw [HD.out]; rfl, HBE.out⟩
  · have HD := Lib.hid (show decide (l1 = l2) = false from decide_eq_false (fun e => hnm (by
      have := congrArg List.length e
      rw [HLA.out, HLB.out] at this
      exact this)))
    have hbb : ((n : Int) == m) = false := by simp; omega
    clear hnm
    go_enter Try.func15, Try.ntmps15
    go_wp2_with fail
    go_loop [5] (fun s => s = .bool false) (fun _ => 0)
    case atStart => rfl
    case round =>
      subst hrel
      go_wp2
      go_ret
      exact ⟨by rw [HD.out]; rfl, Bel.refl _⟩
set_option maxRecDepth 100000 in
set_option maxHeartbeats 4000000 in
theorem same_w (A B : Option Addr) (n c m d : Nat) (l1 l2 : List Int) (w : World) (ha : Rw.RS uR w A n c l1) (hb : Rw.RS uR w B m d l2) (hn : n ≤ 1000000000) (hm : m ≤ 1000000000) :
    Calls Try.prog 19 #[.slice A n c, .slice B m d] w fun e w' => e = .returned (.bool (decide (l1 = l2))) ∧ Bel w w' := by
  have HA := Lib.hid ha
  have HB := Lib.hid hb
  have HLA := Lib.hid ha.len
  have HLB := Lib.hid hb.len
  clear ha hb
  by_cases hnm : n = m
  · subst hnm
    have hbb : ((n : Int) == n) = true := by simp
    go_enter Try.func19, Try.ntmps19
    go_wp2_with fail
    go_loopw [5, 6] (fun s i wr => ∃ k : Nat, k ≤ n ∧ i = .int .i64 k ∧ Bel w wr ∧ ∃ b : Bool, s = .bool b ∧ (b = true → l1.take k = l2.take k) ∧ (b = false → l1 ≠ l2)) (fun _ i _ => n - (intOf i).toNat)
    case atStart => exact ⟨0, Nat.zero_le _, rfl, Bel.refl _, true, rfl, fun _ => rfl, fun h => by cases h⟩
    case round =>
      obtain ⟨k, hk, rfl, hbel, b, rfl, ht, hf⟩ := hrel
      cases b with
      | false =>
        have HD := Lib.hid (show decide (l1 = l2) = false from decide_eq_false (hf rfl))
        have HBE := Lib.hid hbel
        clear ht hf hbel
        go_wp2
        go_ret
        exact ⟨by rw [HD.out]; rfl, HBE.out⟩
      | true =>
        have HT := Lib.hid (ht rfl)
        clear ht hf
        by_cases hlt : k < n
        · obtain ⟨g1, o1, x, rfl, _, hr1, c1⟩ := wat (HA.out.bel hbel) hlt
          obtain ⟨g2, o2, y, rfl, _, hr2, c2⟩ := wat (HB.out.bel hbel) hlt
          have HC1 := Lib.hid c1
          have HC2 := Lib.hid c2
          have HBE := Lib.hid hbel
          have HNX := Lib.hid (show ∀ z : Bool, (x == y) = z → (z = true → l1.take (k + 1) = l2.take (k + 1)) ∧ (z = false → l1 ≠ l2) from fun z hz => by
            refine ⟨fun h => ?_, fun h e => ?_⟩
            · rw [List.take_add_one, List.take_add_one, hr1, hr2, HT.out, beq_iff_eq.1 (hz.trans h)]
            · subst e
              have e := Option.some.inj (hr1.symm.trans hr2)
              rw [e, beq_self_eq_true] at hz
              rw [← hz] at h
              cases h)
          have hlt3 : (k : Int) < n := by omega
          have hlt0 : (0 : Int) ≤ k := by omega
          clear hr1 hr2 c1 c2 hbel
          go_upto_region 5 with fail
          refine wp_region_held_drew (S := fun Vx => Bel wr Vx) (by kernel_rfl) (Bel.refl _).drew (fun hS0 => ?_)
          obtain ⟨w6, hw6⟩ : ∃ w6, World.drew wr = w6 := ⟨_, rfl⟩
          rw [hw6] at hS0 ⊢
          clear hw6
          refine wpAnyH_take (i := 0) (oi := { dst := some 21, op := .move (.tmp 0), type := 22, pos := "banks.go:9", after := #[], guard := none }) (v := .slice (some ⟨g1, o1, none⟩) n c) rfl (by kernel_rfl) (by kernel_rfl) (by kernel_rfl) (fun _ _ _ h => h) (Or.inl ⟨by rfl, by intro w hSw; clear hSw; go_simp⟩) hS0 ?_
          try simp only [Act.put, List.setIfInBounds_toArray, List.set_cons_zero, List.set_cons_succ]
          refine wpAnyH_take (i := 1) (oi := { dst := some 22, op := .move (.tmp 6), type := 3, pos := "banks.go:9", after := #[], guard := none }) (v := .int .i64 k) rfl (by kernel_rfl) (by kernel_rfl) (by kernel_rfl) (fun _ _ _ h => h) (Or.inl ⟨by rfl, by intro w hSw; clear hSw; go_simp⟩) hS0 ?_
          try simp only [Act.put, List.setIfInBounds_toArray, List.set_cons_zero, List.set_cons_succ]
          refine wpAnyH_take (i := 2) (oi := { dst := some 23, op := .indexAddr 22 (.tmp 21) (.tmp 22), type := 0, pos := "banks.go:9", after := #[{ on := 0, ground := .data }, { on := 1, ground := .data }], guard := none }) (v := .pointer (some ⟨g1, o1 + k, none⟩)) rfl (by kernel_rfl) (by kernel_rfl) (by kernel_rfl) (fun _ _ _ h => h) (Or.inl ⟨by rfl, by intro w hSw; clear hSw; go_simp⟩) hS0 ?_
          try simp only [Act.put, List.setIfInBounds_toArray, List.set_cons_zero, List.set_cons_succ]
          refine wpAnyH_take (i := 3) (oi := { dst := some 24, op := .load 36 (.tmp 23), type := 36, pos := "banks.go:9", after := #[{ on := 2, ground := .data }], guard := none }) (v := .int .u64 x) rfl (by kernel_rfl) (by kernel_rfl) (by kernel_rfl) (fun _ _ _ h => h) (Or.inl ⟨by rfl, by intro w h; have hcell := (cell_bel HC1.out h); clear h; go_simp⟩) hS0 ?_
          try simp only [Act.put, List.setIfInBounds_toArray, List.set_cons_zero, List.set_cons_succ]
          refine wpAnyH_take (i := 4) (oi := { dst := some 25, op := .move (.tmp 1), type := 22, pos := "banks.go:9", after := #[], guard := none }) (v := .slice (some ⟨g2, o2, none⟩) n d) rfl (by kernel_rfl) (by kernel_rfl) (by kernel_rfl) (fun _ _ _ h => h) (Or.inl ⟨by rfl, by intro w hSw; clear hSw; go_simp⟩) hS0 ?_
          try simp only [Act.put, List.setIfInBounds_toArray, List.set_cons_zero, List.set_cons_succ]
          refine wpAnyH_take (i := 5) (oi := { dst := some 26, op := .move (.tmp 6), type := 3, pos := "banks.go:9", after := #[], guard := none }) (v := .int .i64 k) rfl (by kernel_rfl) (by kernel_rfl) (by kernel_rfl) (fun _ _ _ h => h) (Or.inl ⟨by rfl, by intro w hSw; clear hSw; go_simp⟩) hS0 ?_
          try simp only [Act.put, List.setIfInBounds_toArray, List.set_cons_zero, List.set_cons_succ]
          refine wpAnyH_take (i := 6) (oi := { dst := some 27, op := .indexAddr 22 (.tmp 25) (.tmp 26), type := 0, pos := "banks.go:9", after := #[{ on := 4, ground := .data }, { on := 5, ground := .data }], guard := none }) (v := .pointer (some ⟨g2, o2 + k, none⟩)) rfl (by kernel_rfl) (by kernel_rfl) (by kernel_rfl) (fun _ _ _ h => h) (Or.inl ⟨by rfl, by intro w hSw; clear hSw; go_simp⟩) hS0 ?_
          try simp only [Act.put, List.setIfInBounds_toArray, List.set_cons_zero, List.set_cons_succ]
          refine wpAnyH_take (i := 7) (oi := { dst := some 28, op := .load 36 (.tmp 27), type := 36, pos := "banks.go:9", after := #[{ on := 6, ground := .data }], guard := none }) (v := .int .u64 y) rfl (by kernel_rfl) (by kernel_rfl) (by kernel_rfl) (fun _ _ _ h => h) (Or.inl ⟨by rfl, by intro w h; have hcell := (cell_bel HC2.out h); clear h; go_simp⟩) hS0 ?_
          try simp only [Act.put, List.setIfInBounds_toArray, List.set_cons_zero, List.set_cons_succ]
          refine wpAnyH_take (i := 8) (oi := { dst := some 29, op := .binOp .eql 36 (.tmp 24) (.tmp 28) 36, type := 4, pos := "banks.go:9", after := #[{ on := 3, ground := .data }, { on := 7, ground := .data }], guard := none }) (v := .bool (x == y)) rfl (by kernel_rfl) (by kernel_rfl) (by kernel_rfl) (fun _ _ _ h => h) (Or.inl ⟨by rfl, by intro w hSw; clear hSw; go_simp⟩) hS0 ?_
          try simp only [Act.put, List.setIfInBounds_toArray, List.set_cons_zero, List.set_cons_succ]
          refine wpAnyH_take (i := 9) (oi := { dst := some 5, op := .assign (.tmp 29), type := 4, pos := "banks.go:9", after := #[{ on := 8, ground := .data }, { on := 0, ground := .phase }, { on := 1, ground := .phase }, { on := 2, ground := .phase }, { on := 3, ground := .phase }, { on := 4, ground := .phase }, { on := 5, ground := .phase }, { on := 6, ground := .phase }, { on := 7, ground := .phase }, { on := 8, ground := .phase }], guard := none }) (v := .bool (x == y)) rfl (by kernel_rfl) (by kernel_rfl) (by kernel_rfl) (fun _ _ _ h => h) (Or.inl ⟨by rfl, by intro w hSw; clear hSw; go_simp⟩) hS0 ?_
          try simp only [Act.put, List.setIfInBounds_toArray, List.set_cons_zero, List.set_cons_succ]
          refine wpAnyH_done (by kernel_rfl) ?_ _
          have HE := Lib.hid (HBE.out.trans hS0)
          clear HC1 HC2 HBE
          go_wp2_with fail
          go_roundw
          case rel => exact ⟨k + 1, by omega, by go_num, HE.out, _, rfl, (HNX.out _ rfl).1, (HNX.out _ rfl).2⟩
          case measure => simp [intOf]; omega
        · obtain rfl : k = n := by omega
          have HD := Lib.hid (show decide (l1 = l2) = true from decide_eq_true (by
            have h := HT.out
            rwa [List.take_of_length_le (by rw [HLA.out]; exact Nat.le_refl _), List.take_of_length_le (by rw [HLB.out]; exact Nat.le_refl _)] at h))
          have HBE := Lib.hid hbel
          clear hbel
          go_wp2
          go_ret
          exact ⟨by rw [HD.out]; rfl, HBE.out⟩
  · have HD := Lib.hid (show decide (l1 = l2) = false from decide_eq_false (fun e => hnm (by
      have := congrArg List.length e
      rw [HLA.out, HLB.out] at this
      exact this)))
    have hbb : ((n : Int) == m) = false := by simp; omega
    clear hnm
    go_enter Try.func19, Try.ntmps19
    go_wp2_with fail
    go_loop [5] (fun s => s = .bool false) (fun _ => 0)
    case atStart => rfl
    case round =>
      subst hrel
      go_wp2
      go_ret
      exact ⟨by rw [HD.out]; rfl, Bel.refl _⟩
set_option maxRecDepth 100000 in
set_option maxHeartbeats 4000000 in
theorem same_i (A B : Option Addr) (n c m d : Nat) (l1 l2 : List Nat) (w : World) (ha : Rw.RS iR w A n c l1) (hb : Rw.RS iR w B m d l2) (hn : n ≤ 1000000000) (hm : m ≤ 1000000000) :
    Calls Try.prog 13 #[.slice A n c, .slice B m d] w fun e w' => e = .returned (.bool (decide (l1 = l2))) ∧ Bel w w' := by
  have HA := Lib.hid ha
  have HB := Lib.hid hb
  have HLA := Lib.hid ha.len
  have HLB := Lib.hid hb.len
  clear ha hb
  by_cases hnm : n = m
  · subst hnm
    have hbb : ((n : Int) == n) = true := by simp
    go_enter Try.func13, Try.ntmps13
    go_wp2_with fail
    go_loopw [5, 6] (fun s i wr => ∃ k : Nat, k ≤ n ∧ i = .int .i64 k ∧ Bel w wr ∧ ∃ b : Bool, s = .bool b ∧ (b = true → l1.take k = l2.take k) ∧ (b = false → l1 ≠ l2)) (fun _ i _ => n - (intOf i).toNat)
    case atStart => exact ⟨0, Nat.zero_le _, rfl, Bel.refl _, true, rfl, fun _ => rfl, fun h => by cases h⟩
    case round =>
      obtain ⟨k, hk, rfl, hbel, b, rfl, ht, hf⟩ := hrel
      cases b with
      | false =>
        have HD := Lib.hid (show decide (l1 = l2) = false from decide_eq_false (hf rfl))
        have HBE := Lib.hid hbel
        clear ht hf hbel
        go_wp2
        go_ret
        exact ⟨by rw [HD.out]; rfl, HBE.out⟩
      | true =>
        have HT := Lib.hid (ht rfl)
        clear ht hf
        by_cases hlt : k < n
        · obtain ⟨g1, o1, x, rfl, _, hr1, c1⟩ := iat (HA.out.bel hbel) hlt
          obtain ⟨g2, o2, y, rfl, _, hr2, c2⟩ := iat (HB.out.bel hbel) hlt
          have HC1 := Lib.hid c1
          have HC2 := Lib.hid c2
          have HBE := Lib.hid hbel
          have HNX := Lib.hid (show ∀ z : Bool, ((x : Int) == (y : Int)) = z → (z = true → l1.take (k + 1) = l2.take (k + 1)) ∧ (z = false → l1 ≠ l2) from fun z hz => by
            refine ⟨fun h => ?_, fun h e => ?_⟩
            · rw [List.take_add_one, List.take_add_one, hr1, hr2, HT.out, Int.ofNat.inj (beq_iff_eq.1 (hz.trans h))]
            · subst e
              have e := Option.some.inj (hr1.symm.trans hr2)
              rw [e, beq_self_eq_true] at hz
              rw [← hz] at h
              cases h)
          have hlt3 : (k : Int) < n := by omega
          have hlt0 : (0 : Int) ≤ k := by omega
          clear hr1 hr2 c1 c2 hbel
          go_upto_region 5 with fail
          refine wp_region_held_drew (S := fun Vx => Bel wr Vx) (by kernel_rfl) (Bel.refl _).drew (fun hS0 => ?_)
          obtain ⟨w6, hw6⟩ : ∃ w6, World.drew wr = w6 := ⟨_, rfl⟩
          rw [hw6] at hS0 ⊢
          clear hw6
          refine wpAnyH_take (i := 0) (oi := { dst := some 21, op := .move (.tmp 0), type := 27, pos := "kit.go:20", after := #[], guard := none }) (v := .slice (some ⟨g1, o1, none⟩) n c) rfl (by kernel_rfl) (by kernel_rfl) (by kernel_rfl) (fun _ _ _ h => h) (Or.inl ⟨by rfl, by intro w hSw; clear hSw; go_simp⟩) hS0 ?_
          try simp only [Act.put, List.setIfInBounds_toArray, List.set_cons_zero, List.set_cons_succ]
          refine wpAnyH_take (i := 1) (oi := { dst := some 22, op := .move (.tmp 6), type := 3, pos := "kit.go:20", after := #[], guard := none }) (v := .int .i64 k) rfl (by kernel_rfl) (by kernel_rfl) (by kernel_rfl) (fun _ _ _ h => h) (Or.inl ⟨by rfl, by intro w hSw; clear hSw; go_simp⟩) hS0 ?_
          try simp only [Act.put, List.setIfInBounds_toArray, List.set_cons_zero, List.set_cons_succ]
          refine wpAnyH_take (i := 2) (oi := { dst := some 23, op := .indexAddr 27 (.tmp 21) (.tmp 22), type := 0, pos := "kit.go:20", after := #[{ on := 0, ground := .data }, { on := 1, ground := .data }], guard := none }) (v := .pointer (some ⟨g1, o1 + k, none⟩)) rfl (by kernel_rfl) (by kernel_rfl) (by kernel_rfl) (fun _ _ _ h => h) (Or.inl ⟨by rfl, by intro w hSw; clear hSw; go_simp⟩) hS0 ?_
          try simp only [Act.put, List.setIfInBounds_toArray, List.set_cons_zero, List.set_cons_succ]
          refine wpAnyH_take (i := 3) (oi := { dst := some 24, op := .load 3 (.tmp 23), type := 3, pos := "kit.go:20", after := #[{ on := 2, ground := .data }], guard := none }) (v := .int .i64 x) rfl (by kernel_rfl) (by kernel_rfl) (by kernel_rfl) (fun _ _ _ h => h) (Or.inl ⟨by rfl, by intro w h; have hcell := (cell_bel HC1.out h); clear h; go_simp⟩) hS0 ?_
          try simp only [Act.put, List.setIfInBounds_toArray, List.set_cons_zero, List.set_cons_succ]
          refine wpAnyH_take (i := 4) (oi := { dst := some 25, op := .move (.tmp 1), type := 27, pos := "kit.go:20", after := #[], guard := none }) (v := .slice (some ⟨g2, o2, none⟩) n d) rfl (by kernel_rfl) (by kernel_rfl) (by kernel_rfl) (fun _ _ _ h => h) (Or.inl ⟨by rfl, by intro w hSw; clear hSw; go_simp⟩) hS0 ?_
          try simp only [Act.put, List.setIfInBounds_toArray, List.set_cons_zero, List.set_cons_succ]
          refine wpAnyH_take (i := 5) (oi := { dst := some 26, op := .move (.tmp 6), type := 3, pos := "kit.go:20", after := #[], guard := none }) (v := .int .i64 k) rfl (by kernel_rfl) (by kernel_rfl) (by kernel_rfl) (fun _ _ _ h => h) (Or.inl ⟨by rfl, by intro w hSw; clear hSw; go_simp⟩) hS0 ?_
          try simp only [Act.put, List.setIfInBounds_toArray, List.set_cons_zero, List.set_cons_succ]
          refine wpAnyH_take (i := 6) (oi := { dst := some 27, op := .indexAddr 27 (.tmp 25) (.tmp 26), type := 0, pos := "kit.go:20", after := #[{ on := 4, ground := .data }, { on := 5, ground := .data }], guard := none }) (v := .pointer (some ⟨g2, o2 + k, none⟩)) rfl (by kernel_rfl) (by kernel_rfl) (by kernel_rfl) (fun _ _ _ h => h) (Or.inl ⟨by rfl, by intro w hSw; clear hSw; go_simp⟩) hS0 ?_
          try simp only [Act.put, List.setIfInBounds_toArray, List.set_cons_zero, List.set_cons_succ]
          refine wpAnyH_take (i := 7) (oi := { dst := some 28, op := .load 3 (.tmp 27), type := 3, pos := "kit.go:20", after := #[{ on := 6, ground := .data }], guard := none }) (v := .int .i64 y) rfl (by kernel_rfl) (by kernel_rfl) (by kernel_rfl) (fun _ _ _ h => h) (Or.inl ⟨by rfl, by intro w h; have hcell := (cell_bel HC2.out h); clear h; go_simp⟩) hS0 ?_
          try simp only [Act.put, List.setIfInBounds_toArray, List.set_cons_zero, List.set_cons_succ]
          refine wpAnyH_take (i := 8) (oi := { dst := some 29, op := .binOp .eql 3 (.tmp 24) (.tmp 28) 3, type := 4, pos := "kit.go:20", after := #[{ on := 3, ground := .data }, { on := 7, ground := .data }], guard := none }) (v := .bool ((x : Int) == (y : Int))) rfl (by kernel_rfl) (by kernel_rfl) (by kernel_rfl) (fun _ _ _ h => h) (Or.inl ⟨by rfl, by intro w hSw; clear hSw; go_simp⟩) hS0 ?_
          try simp only [Act.put, List.setIfInBounds_toArray, List.set_cons_zero, List.set_cons_succ]
          refine wpAnyH_take (i := 9) (oi := { dst := some 5, op := .assign (.tmp 29), type := 4, pos := "kit.go:20", after := #[{ on := 8, ground := .data }, { on := 0, ground := .phase }, { on := 1, ground := .phase }, { on := 2, ground := .phase }, { on := 3, ground := .phase }, { on := 4, ground := .phase }, { on := 5, ground := .phase }, { on := 6, ground := .phase }, { on := 7, ground := .phase }, { on := 8, ground := .phase }], guard := none }) (v := .bool ((x : Int) == (y : Int))) rfl (by kernel_rfl) (by kernel_rfl) (by kernel_rfl) (fun _ _ _ h => h) (Or.inl ⟨by rfl, by intro w hSw; clear hSw; go_simp⟩) hS0 ?_
          try simp only [Act.put, List.setIfInBounds_toArray, List.set_cons_zero, List.set_cons_succ]
          refine wpAnyH_done (by kernel_rfl) ?_ _
          have HE := Lib.hid (HBE.out.trans hS0)
          clear HC1 HC2 HBE
          go_wp2_with fail
          go_roundw
          case rel => exact ⟨k + 1, by omega, by go_num, HE.out, _, rfl, (HNX.out _ rfl).1, (HNX.out _ rfl).2⟩
          case measure => simp [intOf]; omega
        · obtain rfl : k = n := by omega
          have HD := Lib.hid (show decide (l1 = l2) = true from decide_eq_true (by
            have h := HT.out
            rwa [List.take_of_length_le (by rw [HLA.out]; exact Nat.le_refl _), List.take_of_length_le (by rw [HLB.out]; exact Nat.le_refl _)] at h))
          have HBE := Lib.hid hbel
          clear hbel
          go_wp2
          go_ret
          exact ⟨by rw [HD.out]; rfl, HBE.out⟩
  · have HD := Lib.hid (show decide (l1 = l2) = false from decide_eq_false (fun e => hnm (by
      have := congrArg List.length e
      rw [HLA.out, HLB.out] at this
      exact this)))
    have hbb : ((n : Int) == m) = false := by simp; omega
    clear hnm
    go_enter Try.func13, Try.ntmps13
    go_wp2_with fail
    go_loop [5] (fun s => s = .bool false) (fun _ => 0)
    case atStart => rfl
    case round =>
      subst hrel
      go_wp2
      go_ret
      exact ⟨by rw [HD.out]; rfl, Bel.refl _⟩

set_option maxHeartbeats 1000000 in
theorem copy_w (A : Option Addr) (n c : Nat) (l : List Int) (w : World) (hi : Rw.RS uR w A n c l) (hn : n ≤ 1000000000) :
    Calls Try.prog 9 #[.slice A n c] w fun e w' => ∃ v, e = .returned v ∧ OwnW w' w.heap.size v l ∧ Bel w w' := by
  have HS := Lib.hid (hi.bel ((Bel.refl w).alloc (.cells #[] 36)))
  have HE := Lib.hid (Rw.own_empty uR 36 w)
  clear hi
  go_enter Try.func9, Try.ntmps9
  go_wp2_with (at_builtin; refine append_w rfl _ _ 22 rfl Try.underlying22 w.heap.size _ [] rfl HE.out A n c l rfl HS.out (by simp; omega) (by simp) ?_; intro v' w1 hown' hgrow)
  have HO := Lib.hid hown'
  have hb : Bel w w1 := Bel.grown ((Bel.refl w).alloc _) hgrow (fun k hk => (HE.out.lt k hk).1)
  clear hown' hgrow
  go_wp2
  go_ret
  exact ⟨_, rfl, HO.out, hb⟩

set_option maxHeartbeats 1000000 in
theorem copy_b (A : Option Addr) (n c : Nat) (l : List Bool) (w : World) (hi : Rw.RS bR w A n c l) (hn : n ≤ 1000000000) :
    Calls Try.prog 10 #[.slice A n c] w fun e w' => ∃ v, e = .returned v ∧ OwnB w' w.heap.size v l ∧ Bel w w' := by
  have HS := Lib.hid (hi.bel ((Bel.refl w).alloc (.cells #[] 4)))
  have HE := Lib.hid (Rw.own_empty bR 4 w)
  clear hi
  go_enter Try.func10, Try.ntmps10
  go_wp2_with (at_builtin; refine append_bs rfl _ _ 23 rfl Try.underlying23 w.heap.size _ [] rfl HE.out A n c l rfl HS.out (by simp; omega) (by simp) ?_; intro v' w1 hown' hgrow)
  have HO := Lib.hid hown'
  have hb : Bel w w1 := Bel.grown ((Bel.refl w).alloc _) hgrow (fun k hk => (HE.out.lt k hk).1)
  clear hown' hgrow
  go_wp2
  go_ret
  exact ⟨_, rfl, HO.out, hb⟩

set_option maxHeartbeats 1000000 in
theorem over_b (base : Nat) (v : Value) (l : List Bool) (w : World) (ho : OwnB w base v l) (hl : l.length ≤ 1000000000) :
    Calls Try.prog 18 #[v] w fun e w' => e = .returned (.tuple #[]) ∧ Kep (fun k => v.ownBlock = some k) w w' := by
  rcases Nat.eq_zero_or_pos l.length with h0 | h0
  · obtain ⟨A, c, rfl, _⟩ := ho.rs bR
    rw [h0]
    clear ho
    go_enter Try.func18, Try.ntmps18
    go_wp2_with fail
    go_loopw [2] (fun i wr => i = .int .i64 0 ∧ w = wr) (fun _ _ => 0)
    case atStart => exact ⟨rfl, rfl⟩
    case round =>
      obtain ⟨rfl, rfl⟩ := hrel
      go_wp2
      go_end0
      exact ⟨rfl, Kep.refl _ _⟩
  · obtain ⟨g, cap, rfl, _, hrb, _⟩ := Rw.rb_own bR ho h0
    obtain ⟨n, hn⟩ : ∃ n, l.length = n := ⟨_, rfl⟩
    have H0 := Lib.hid (show ∃ ys : List Bool, ys.length = n ∧ Rw.RB bR 4 w g ys cap ∧ Kep (fun k => k = g) w w from ⟨l, hn, hrb, Kep.refl _ _⟩)
    rw [hn] at hl ⊢
    clear ho hrb hn h0
    go_enter Try.func18, Try.ntmps18
    go_wp2_with fail
    go_loopw [2] (fun i wr => ∃ k : Nat, i = .int .i64 k ∧ k ≤ n ∧ Hid (∃ ys : List Bool, ys.length = n ∧ Rw.RB bR 4 wr g ys cap ∧ Kep (fun k => k = g) w wr)) (fun i _ => n - (intOf i).toNat)
    case atStart => exact ⟨0, rfl, Nat.zero_le _, H0⟩
    case round =>
      obtain ⟨k, rfl, hk, hh⟩ := hrel
      obtain ⟨ys, hyl, hrb, hkp⟩ := hh.out
      clear H0
      by_cases hlt : k < n
      · obtain ⟨x, hx⟩ : ∃ x, ys[k]? = some x := ⟨_, List.getElem?_eq_getElem (by omega)⟩
        have hrs := hrb.rs
        rw [hyl] at hrs
        obtain ⟨b, o, x', e, _, hx', hc⟩ := bool_at hrs hlt
        rw [hx] at hx'
        injection hx' with hx'
        subst hx'
        injection e with e
        injection e with e1 e2
        subst e1 e2
        rw [Nat.zero_add] at hc
        have hfz := hrb.frozen k
        have hst := hrb.set (i := k) (o := 0) (r := x) (r' := !x) (v := .bool (!x)) (by decide) hx rfl
        have HF := Lib.hid (show ∃ ys : List Bool, ys.length = n ∧ Rw.RB bR 4 (wr.setCell ⟨g, k, none⟩ (.bool (!x))) g ys cap ∧ Kep (fun k => k = g) w (wr.setCell ⟨g, k, none⟩ (.bool (!x))) from ⟨ys.set k (!x), by rw [List.length_set]; exact hyl, by simpa [bR] using hst, Kep.set_self hkp _ _⟩)
        have hlt3 : (k : Int) < n := by omega
        have hw1 : IntKind.i64.wrap ((k : Int) + 1) = ((k + 1 : Nat) : Int) := by rw [IntWalk.i64_in _ (by omega)]; omega
        clear hst hrb hkp hrs hx hh hyl
        go_wp2
        go_roundw
        case rel => exact ⟨k + 1, rfl, by omega, HF⟩
        case measure => simp [intOf]; omega
      · obtain rfl : k = n := by omega
        have HK := Lib.hid hkp
        clear hrb hkp hh
        go_wp2
        go_end0
        exact ⟨rfl, HK.out.mono fun k _ e => by rw [e]; rfl⟩

def jR : Rw.Row Int where
  k := fun z => [.int .i64 z]
  z := 1
  len := fun _ => rfl
  one := fun r u hu => by
    rw [List.mem_singleton] at hu
    subst hu; rfl
  pos := by decide
theorem flat_j : ∀ l : List Nat, Rw.flat jR (l.map Int.ofNat) = Rw.flat iR l
  | [] => rfl
  | x :: l => by
    show [Value.int .i64 x] ++ Rw.flat jR (l.map Int.ofNat) = [Value.int .i64 x] ++ Rw.flat iR l
    rw [flat_j l]
theorem own_j {w : World} {base : Nat} {v : Value} {l : List Nat} (h : OwnI w base v l) : Rw.OwnR jR 3 w base v (l.map Int.ofNat) := by
  show w.ownsRow base 3 1 v (l.map Int.ofNat).length (Rw.flat jR (l.map Int.ofNat))
  rw [flat_j, List.length_map]
  exact h
theorem jat {w : World} {A : Option Addr} {n c : Nat} {l : List Int} (h : Rw.RS jR w A n c l) {i : Nat} (hi : i < n) : ∃ b o x, A = some ⟨b, o, none⟩ ∧ b < w.heap.size ∧ l[i]? = some x ∧ w.cell? ⟨b, o + i, none⟩ = some (.int .i64 x) := by
  obtain ⟨x, hx⟩ := h.get hi
  obtain ⟨b, o, e, hb, hr⟩ := h.at hi hx
  have := hr 0 (.int .i64 x) rfl
  exact ⟨b, o, x, e, hb, hx, by simpa [jR] using this⟩
abbrev OwnJ (w : World) (base : Nat) (v : Value) (l : List Int) : Prop := Rw.OwnR jR 3 w base v l

set_option maxHeartbeats 1000000 in
theorem over_j (base : Nat) (v : Value) (l : List Int) (w : World) (ho : OwnJ w base v l) (hl : l.length ≤ 1000000000) :
    Calls Try.prog 17 #[v] w fun e w' => e = .returned (.tuple #[]) ∧ Kep (fun k => v.ownBlock = some k) w w' := by
  rcases Nat.eq_zero_or_pos l.length with h0 | h0
  · obtain ⟨A, c, rfl, _⟩ := ho.rs jR
    rw [h0]
    clear ho
    go_enter Try.func17, Try.ntmps17
    go_wp2_with fail
    go_loopw [2] (fun i wr => i = .int .i64 0 ∧ w = wr) (fun _ _ => 0)
    case atStart => exact ⟨rfl, rfl⟩
    case round =>
      obtain ⟨rfl, rfl⟩ := hrel
      go_wp2
      go_end0
      exact ⟨rfl, Kep.refl _ _⟩
  · obtain ⟨g, cap, rfl, _, hrb, _⟩ := Rw.rb_own jR ho h0
    obtain ⟨n, hn⟩ : ∃ n, l.length = n := ⟨_, rfl⟩
    have H0 := Lib.hid (show ∃ ys : List Int, ys.length = n ∧ Rw.RB jR 3 w g ys cap ∧ Kep (fun k => k = g) w w from ⟨l, hn, hrb, Kep.refl _ _⟩)
    rw [hn] at hl ⊢
    clear ho hrb hn h0
    go_enter Try.func17, Try.ntmps17
    go_wp2_with fail
    go_loopw [2] (fun i wr => ∃ k : Nat, i = .int .i64 k ∧ k ≤ n ∧ Hid (∃ ys : List Int, ys.length = n ∧ Rw.RB jR 3 wr g ys cap ∧ Kep (fun k => k = g) w wr)) (fun i _ => n - (intOf i).toNat)
    case atStart => exact ⟨0, rfl, Nat.zero_le _, H0⟩
    case round =>
      obtain ⟨k, rfl, hk, hh⟩ := hrel
      obtain ⟨ys, hyl, hrb, hkp⟩ := hh.out
      clear H0
      by_cases hlt : k < n
      · obtain ⟨x, hx⟩ : ∃ x, ys[k]? = some x := ⟨_, List.getElem?_eq_getElem (by omega)⟩
        have hrs := hrb.rs
        rw [hyl] at hrs
        obtain ⟨b, o, x', e, _, hx', hc⟩ := jat hrs hlt
        rw [hx] at hx'
        injection hx' with hx'
        subst hx'
        injection e with e
        injection e with e1 e2
        subst e1 e2
        rw [Nat.zero_add] at hc
        have hfz := hrb.frozen k
        have hst := hrb.set (i := k) (o := 0) (r := x) (r' := -77) (v := .int .i64 (-77)) (by decide) hx rfl
        have HF := Lib.hid (show ∃ ys : List Int, ys.length = n ∧ Rw.RB jR 3 (wr.setCell ⟨g, k, none⟩ (.int .i64 (-77))) g ys cap ∧ Kep (fun k => k = g) w (wr.setCell ⟨g, k, none⟩ (.int .i64 (-77))) from ⟨ys.set k (-77), by rw [List.length_set]; exact hyl, by simpa [jR] using hst, Kep.set_self hkp _ _⟩)
        have hlt3 : (k : Int) < n := by omega
        have hw1 : IntKind.i64.wrap ((k : Int) + 1) = ((k + 1 : Nat) : Int) := by rw [IntWalk.i64_in _ (by omega)]; omega
        clear hst hrb hkp hrs hx hh hyl
        go_wp2
        go_roundw
        case rel => exact ⟨k + 1, rfl, by omega, HF⟩
        case measure => simp [intOf]; omega
      · obtain rfl : k = n := by omega
        have HK := Lib.hid hkp
        clear hrb hkp hh
        go_wp2
        go_end0
        exact ⟨rfl, HK.out.mono fun k _ e => by rw [e]; rfl⟩

/-- What a text of digits tells. -/
def bls (s : ByteArray) (k : Nat) : List Bool := (List.range k).map fun i => s.get! i == 49

set_option maxHeartbeats 1000000 in
theorem is_l (A : Option Addr) (n c : Nat) (l : List Bool) (i : Nat) (w : World) (hi : Rw.RS bR w A n c l) (hn : n ≤ 1000000000) (h64 : i ≤ 1000000000) :
    Calls Try.prog 25 #[.slice A n c, .int .i64 i] w fun e w' => e = .returned (.bool (isb l i)) ∧ w = w' := by
  have h0 : (0 : Int) ≤ i := by omega
  by_cases h : i < n
  · obtain ⟨b, o, rfl, _, hc⟩ := flag_at hi h
    have h3 : (i : Int) < n := by omega
    clear hi
    generalize isb l i = x at *
    go_enter Try.func25, Try.ntmps25
    go_wp2
    go_ret
    exact ⟨rfl, rfl⟩
  · have h3 : ¬ (i : Int) < n := by omega
    rw [is_out (by rw [hi.len]; omega)]
    clear hi
    go_enter Try.func25, Try.ntmps25
    go_wp2
    go_ret
    exact ⟨rfl, rfl⟩

set_option maxHeartbeats 1000000 in
theorem tok_l (A : Option Addr) (n c : Nat) (l : List Int) (i : Nat) (w : World) (hi : Rw.RS uR w A n c l) (hn : n ≤ 1000000000) (h64 : i ≤ 1000000000) :
    Calls Try.prog 26 #[.slice A n c, .int .i64 i] w fun e w' => e = .returned (.int .u64 (tk l i)) ∧ w = w' := by
  have h0 : (0 : Int) ≤ i := by omega
  by_cases h : i < n
  · obtain ⟨b, o, rfl, _, hc⟩ := word_at hi h
    have h3 : (i : Int) < n := by omega
    clear hi
    generalize tk l i = x at *
    go_enter Try.func26, Try.ntmps26
    go_wp2
    go_ret
    exact ⟨rfl, rfl⟩
  · have h3 : ¬ (i : Int) < n := by omega
    rw [tk_out (by rw [hi.len]; omega)]
    clear hi
    go_enter Try.func26, Try.ntmps26
    go_wp2
    go_ret
    exact ⟨rfl, rfl⟩

set_option maxHeartbeats 1000000 in
theorem is_r (A : Option Addr) (n c : Nat) (l : List Bool) (i : Nat) (w : World) (hi : Rw.RS bR w A n c l) (hn : n ≤ 1000000000) (h64 : i ≤ 1000000000) :
    Calls Try.prog 46 #[.slice A n c, .int .i64 i] w fun e w' => e = .returned (.bool (isb l i)) ∧ w = w' := by
  have h0 : (0 : Int) ≤ i := by omega
  by_cases h : i < n
  · obtain ⟨b, o, rfl, _, hc⟩ := flag_at hi h
    have h3 : (i : Int) < n := by omega
    clear hi
    generalize isb l i = x at *
    go_enter Try.func46, Try.ntmps46
    go_wp2
    go_ret
    exact ⟨rfl, rfl⟩
  · have h3 : ¬ (i : Int) < n := by omega
    rw [is_out (by rw [hi.len]; omega)]
    clear hi
    go_enter Try.func46, Try.ntmps46
    go_wp2
    go_ret
    exact ⟨rfl, rfl⟩

set_option maxHeartbeats 1000000 in
theorem tok_r (A : Option Addr) (n c : Nat) (l : List Int) (i : Nat) (w : World) (hi : Rw.RS uR w A n c l) (hn : n ≤ 1000000000) (h64 : i ≤ 1000000000) :
    Calls Try.prog 47 #[.slice A n c, .int .i64 i] w fun e w' => e = .returned (.int .u64 (tk l i)) ∧ w = w' := by
  have h0 : (0 : Int) ≤ i := by omega
  by_cases h : i < n
  · obtain ⟨b, o, rfl, _, hc⟩ := word_at hi h
    have h3 : (i : Int) < n := by omega
    clear hi
    generalize tk l i = x at *
    go_enter Try.func47, Try.ntmps47
    go_wp2
    go_ret
    exact ⟨rfl, rfl⟩
  · have h3 : ¬ (i : Int) < n := by omega
    rw [tk_out (by rw [hi.len]; omega)]
    clear hi
    go_enter Try.func47, Try.ntmps47
    go_wp2
    go_ret
    exact ⟨rfl, rfl⟩
end Ac
end Go.Proofs.Ytmbodfmdaocppaa
