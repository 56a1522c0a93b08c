/-
  What the kit's Same functions tell of two lists of rows. Conditions: at most a billion rows.
-/
import Derived.Test.YtcefjigbaglmeaaGreatGQuM
import Derived.Test.YtcefjigbaglmeaaGreatGRwEq14
namespace Go.Proofs.YtcefjigbaglmeaaGreat
open Go.RowKit Go.Shelf
set_option linter.unusedVariables false
set_option linter.unusedSimpArgs false
namespace Qu
open Kk Pm

set_option maxRecDepth 100000 in
set_option maxHeartbeats 4000000 in
theorem same_entries (A B : Option Addr) (n c m d : Nat) (l1 l2 : List _) (w : World) (ha : Rw.RS eR w A n c l1) (hb : Rw.RS eR w B m d l2) (hn : n ≤ 1000000000) (hm : m ≤ 1000000000) :
    Calls Tryz.prog 12 #[.slice A n c, .slice B m d] w fun e w' => e = .returned (.bool (decide (l1 = l2))) ∧ Bel w w' := by
  have HA := Lib.hid ha
  have HB := Lib.hid hb
  have HLA := Lib.hid ha.len
  have HLB := Lib.hid hb.len
  clear ha hb
  by_cases hnm : n = m
  · subst hnm
    have hbb : ((n : Int) == n) = true := by simp
    go_enter Tryz.func12, Tryz.ntmps12
    go_wp2_with fail
    go_loopw [5, 6] (fun s i wr => ∃ k : Nat, k ≤ n ∧ i = .int .i64 k ∧ Bel w wr ∧ ∃ b : Bool, s = .bool b ∧ (b = true → l1.take k = l2.take k) ∧ (b = false → l1 ≠ l2)) (fun _ i _ => n - (intOf i).toNat)
    case atStart => exact ⟨0, Nat.zero_le _, rfl, Bel.refl _, true, rfl, fun _ => rfl, fun h => by cases h⟩
    case round =>
      obtain ⟨k, hk, rfl, hbel, b, rfl, ht, hf⟩ := hrel
      cases b with
      | false =>
        have HD := Lib.hid (show decide (l1 = l2) = false from decide_eq_false (hf rfl))
        have HBE := Lib.hid hbel
        clear ht hf hbel
        go_wp2
        go_ret
        exact ⟨by rw [HD.out]; rfl, HBE.out⟩
      | true =>
        have HT := Lib.hid (ht rfl)
        clear ht hf
        by_cases hlt : k < n
        · obtain ⟨⟨a0, a1, a2, a3, a4, a5, a6, a7⟩, hr1⟩ := HA.out.get hlt
          obtain ⟨⟨b0, b1, b2, b3, b4, b5, b6, b7⟩, hr2⟩ := HB.out.get hlt
          obtain ⟨g1, o1, rfl, _, c1⟩ := (HA.out.bel hbel).at hlt hr1
          obtain ⟨g2, o2, rfl, _, c2⟩ := (HB.out.bel hbel).at hlt hr2
          have HC1 := Lib.hid (show wr.rangeAt g1 (o1 + k * 8) #[.int .i64 a0, .int .i64 a1, .int .i64 a2, .int .i64 a3, .int .i64 a4, .int .i64 a5, .int .u64 a6, .int .u64 a7].toList from c1)
          have HC2 := Lib.hid (show wr.rangeAt g2 (o2 + k * 8) #[.int .i64 b0, .int .i64 b1, .int .i64 b2, .int .i64 b3, .int .i64 b4, .int .i64 b5, .int .u64 b6, .int .u64 b7].toList from c2)
          have HBE := Lib.hid hbel
          have EQ := Lib.hid (fun V => Rw.eql_entry a0 a1 a2 a3 a4 a5 a6 a7 b0 b1 b2 b3 b4 b5 b6 b7 V)
          have HNX := Lib.hid (show ∀ y : Bool, decide ((a0, a1, a2, a3, a4, a5, a6, a7) = (b0, b1, b2, b3, b4, b5, b6, b7)) = y → (y = true → l1.take (k + 1) = l2.take (k + 1)) ∧ (y = false → l1 ≠ l2) from fun y hy => by
            refine ⟨fun h => ?_, fun h e => ?_⟩
            · rw [List.take_add_one, List.take_add_one, hr1, hr2, HT.out, of_decide_eq_true (hy.trans h)]
            · subst e
              rw [decide_eq_true (Option.some.inj (hr1.symm.trans hr2))] at hy
              rw [← hy] at h
              cases h)
          obtain ⟨y, hy⟩ : ∃ y, decide ((a0, a1, a2, a3, a4, a5, a6, a7) = (b0, b1, b2, b3, b4, b5, b6, b7)) = y := ⟨_, rfl⟩
          have HNX := Lib.hid (HNX.out y hy)
          replace EQ := Lib.hid (show ∀ V, (binOp .eql 53 (.agg #[.int .i64 a0, .int .i64 a1, .int .i64 a2, .int .i64 a3, .int .i64 a4, .int .i64 a5, .int .u64 a6, .int .u64 a7]) (.agg #[.int .i64 b0, .int .i64 b1, .int .i64 b2, .int .i64 b3, .int .i64 b4, .int .i64 b5, .int .u64 b6, .int .u64 b7])).run Tryz.prog V = .ok (.bool y) V from fun V => by rw [← hy]; exact EQ.out V)
          have hlt3 : (k : Int) < n := by omega
          have hlt0 : (0 : Int) ≤ k := by omega
          clear hr1 hr2 c1 c2 hbel hy
          go_upto_region 5 with fail
          refine wp_region_held_drew (S := fun Vx => Bel wr Vx) (by kernel_rfl) (Bel.refl _).drew (fun hS0 => ?_)
          obtain ⟨w6, hw6⟩ : ∃ w6, World.drew wr = w6 := ⟨_, rfl⟩
          rw [hw6] at hS0 ⊢
          clear hw6
          refine wpAnyH_take (i := 0) (oi := { dst := some 21, op := .move (.tmp 0), type := 22, pos := "entries.go:9", after := #[], guard := none }) (v := .slice (some ⟨g1, o1, none⟩) n c) rfl (by kernel_rfl) (by kernel_rfl) (by kernel_rfl) (fun _ _ _ h => h) (Or.inl ⟨by rfl, by intro w hSw; clear hSw; go_simp⟩) hS0 ?_
          try simp only [Act.put, List.setIfInBounds_toArray, List.set_cons_zero, List.set_cons_succ]
          refine wpAnyH_take (i := 1) (oi := { dst := some 22, op := .move (.tmp 6), type := 3, pos := "entries.go:9", after := #[], guard := none }) (v := .int .i64 k) rfl (by kernel_rfl) (by kernel_rfl) (by kernel_rfl) (fun _ _ _ h => h) (Or.inl ⟨by rfl, by intro w hSw; clear hSw; go_simp⟩) hS0 ?_
          try simp only [Act.put, List.setIfInBounds_toArray, List.set_cons_zero, List.set_cons_succ]
          refine wpAnyH_take (i := 2) (oi := { dst := some 23, op := .indexAddr 22 (.tmp 21) (.tmp 22), type := 0, pos := "entries.go:9", after := #[{ on := 0, ground := .data }, { on := 1, ground := .data }], guard := none }) (v := .pointer (some ⟨g1, o1 + k * 8, none⟩)) rfl (by kernel_rfl) (by kernel_rfl) (by kernel_rfl) (fun _ _ _ h => h) (Or.inl ⟨by rfl, by intro w hSw; clear hSw; go_simp⟩) hS0 ?_
          try simp only [Act.put, List.setIfInBounds_toArray, List.set_cons_zero, List.set_cons_succ]
          refine wpAnyH_take (i := 3) (oi := { dst := some 24, op := .load 53 (.tmp 23), type := 53, pos := "entries.go:9", after := #[{ on := 2, ground := .data }], guard := none }) (v := .agg #[.int .i64 a0, .int .i64 a1, .int .i64 a2, .int .i64 a3, .int .i64 a4, .int .i64 a5, .int .u64 a6, .int .u64 a7]) rfl (by kernel_rfl) (by kernel_rfl) (by kernel_rfl) (fun _ _ _ h => h) (yieldsIf_load_mid (by rfl) _ _ rfl _ _ rfl _ _ (fun w h => rng_bel HC1.out h) Tryz.underlying53 rfl (by kernel_rfl)) hS0 ?_
          try simp only [Act.put, List.setIfInBounds_toArray, List.set_cons_zero, List.set_cons_succ]
          refine wpAnyH_take (i := 4) (oi := { dst := some 25, op := .move (.tmp 1), type := 22, pos := "entries.go:9", after := #[], guard := none }) (v := .slice (some ⟨g2, o2, none⟩) n d) rfl (by kernel_rfl) (by kernel_rfl) (by kernel_rfl) (fun _ _ _ h => h) (Or.inl ⟨by rfl, by intro w hSw; clear hSw; go_simp⟩) hS0 ?_
          try simp only [Act.put, List.setIfInBounds_toArray, List.set_cons_zero, List.set_cons_succ]
          refine wpAnyH_take (i := 5) (oi := { dst := some 26, op := .move (.tmp 6), type := 3, pos := "entries.go:9", after := #[], guard := none }) (v := .int .i64 k) rfl (by kernel_rfl) (by kernel_rfl) (by kernel_rfl) (fun _ _ _ h => h) (Or.inl ⟨by rfl, by intro w hSw; clear hSw; go_simp⟩) hS0 ?_
          try simp only [Act.put, List.setIfInBounds_toArray, List.set_cons_zero, List.set_cons_succ]
          refine wpAnyH_take (i := 6) (oi := { dst := some 27, op := .indexAddr 22 (.tmp 25) (.tmp 26), type := 0, pos := "entries.go:9", after := #[{ on := 4, ground := .data }, { on := 5, ground := .data }], guard := none }) (v := .pointer (some ⟨g2, o2 + k * 8, none⟩)) rfl (by kernel_rfl) (by kernel_rfl) (by kernel_rfl) (fun _ _ _ h => h) (Or.inl ⟨by rfl, by intro w hSw; clear hSw; go_simp⟩) hS0 ?_
          try simp only [Act.put, List.setIfInBounds_toArray, List.set_cons_zero, List.set_cons_succ]
          refine wpAnyH_take (i := 7) (oi := { dst := some 28, op := .load 53 (.tmp 27), type := 53, pos := "entries.go:9", after := #[{ on := 6, ground := .data }], guard := none }) (v := .agg #[.int .i64 b0, .int .i64 b1, .int .i64 b2, .int .i64 b3, .int .i64 b4, .int .i64 b5, .int .u64 b6, .int .u64 b7]) rfl (by kernel_rfl) (by kernel_rfl) (by kernel_rfl) (fun _ _ _ h => h) (yieldsIf_load_mid (by rfl) _ _ rfl _ _ rfl _ _ (fun w h => rng_bel HC2.out h) Tryz.underlying53 rfl (by kernel_rfl)) hS0 ?_
          try simp only [Act.put, List.setIfInBounds_toArray, List.set_cons_zero, List.set_cons_succ]
          refine wpAnyH_take (i := 8) (oi := { dst := some 29, op := .binOp .eql 53 (.tmp 24) (.tmp 28) 53, type := 4, pos := "entries.go:9", after := #[{ on := 3, ground := .data }, { on := 7, ground := .data }], guard := none }) (v := .bool y) rfl (by kernel_rfl) (by kernel_rfl) (by kernel_rfl) (fun _ _ _ h => h) (Or.inl ⟨by rfl, fun w _ => Rw.exec_eql rfl _ _ rfl rfl (by kernel_rfl) EQ.out w⟩) hS0 ?_
          try simp only [Act.put, List.setIfInBounds_toArray, List.set_cons_zero, List.set_cons_succ]
          refine wpAnyH_take (i := 9) (oi := { dst := some 5, op := .assign (.tmp 29), type := 4, pos := "entries.go:9", after := #[{ on := 8, ground := .data }, { on := 0, ground := .phase }, { on := 1, ground := .phase }, { on := 2, ground := .phase }, { on := 3, ground := .phase }, { on := 4, ground := .phase }, { on := 5, ground := .phase }, { on := 6, ground := .phase }, { on := 7, ground := .phase }, { on := 8, ground := .phase }], guard := none }) (v := .bool y) rfl (by kernel_rfl) (by kernel_rfl) (by kernel_rfl) (fun _ _ _ h => h) (Or.inl ⟨by rfl, by intro w hSw; clear hSw; go_simp⟩) hS0 ?_
          try simp only [Act.put, List.setIfInBounds_toArray, List.set_cons_zero, List.set_cons_succ]
          refine wpAnyH_done (by kernel_rfl) ?_ _
          have HE := Lib.hid (HBE.out.trans hS0)
          clear HC1 HC2 EQ HBE
          go_wp2_with fail
          go_roundw
          case rel => exact ⟨k + 1, by omega, by go_num, HE.out, y, rfl, HNX.out.1, HNX.out.2⟩
          case measure => simp [intOf]; omega
        · obtain rfl : k = n := by omega
          have HD := Lib.hid (show decide (l1 = l2) = true from decide_eq_true (by
            have h := HT.out
            rwa [List.take_of_length_le (by rw [HLA.out]; exact Nat.le_refl _), List.take_of_length_le (by rw [HLB.out]; exact Nat.le_refl _)] at h))
          have HBE := Lib.hid hbel
          clear hbel
          go_wp2
          go_ret
          exact ⟨by rw [HD.out]; rfl, HBE.out⟩
  · have HD := Lib.hid (show decide (l1 = l2) = false from decide_eq_false (fun e => hnm (by
      have := congrArg List.length e
      rw [HLA.out, HLB.out] at this
      exact this)))
    have hbb : ((n : Int) == m) = false := by simp; omega
    clear hnm
    go_enter Tryz.func12, Tryz.ntmps12
    go_wp2_with fail
    go_loop [5] (fun s => s = .bool false) (fun _ => 0)
    case atStart => rfl
    case round =>
      subst hrel
      go_wp2
      go_ret
      exact ⟨by rw [HD.out]; rfl, Bel.refl _⟩

end Qu
end Go.Proofs.YtcefjigbaglmeaaGreat
