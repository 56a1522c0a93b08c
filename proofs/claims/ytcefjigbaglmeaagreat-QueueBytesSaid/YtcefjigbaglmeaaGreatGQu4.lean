/-
  What the program's flaw tells of an entry behind others. Conditions: at most a billion entries.
-/
import Derived.Test.YtcefjigbaglmeaaGreatGQu1
import Derived.Test.YtcefjigbaglmeaaGreatGSm0c
namespace Go.Proofs.YtcefjigbaglmeaaGreat
open Go.RowKit Go.Shelf
set_option linter.unusedVariables false
set_option linter.unusedSimpArgs false
namespace Qu
open Kk Pm

theorem info_st : (Tryz.prog.info? 51).map (·.size) = some 4 := by kernel_rfl
section
variable {b o v si p f c i n : Int}
theorem q_o (h : ¬ (0 ≤ o ∧ o < 64)) : qE b (o, v, si, p, f, c, i, n) = 3 := by
  rw [qE_def, if_pos (by rw [← Bool.not_eq_true, rng_iff]; exact fun h' => h h'.1)]
theorem q_s (h : Sm.ck v si p f ≠ 0) : qE b (o, v, si, p, f, c, i, n) = 3 := by
  rw [qE_def, if_pos (by rw [← Bool.not_eq_true, rng_iff]; exact fun h' => h h'.2.1)]
theorem q_c (h : ¬ (1 ≤ c ∧ c ≤ 4294967296)) : qE b (o, v, si, p, f, c, i, n) = 3 := by
  rw [qE_def, if_pos (by rw [← Bool.not_eq_true, rng_iff]; exact fun h' => h h'.2.2)]
theorem q_r (h1 : 0 ≤ o ∧ o < 64) (h2 : Sm.ck v si p f = 0) (h3 : 1 ≤ c ∧ c ≤ 4294967296) : qE b (o, v, si, p, f, c, i, n) = if c < si ∨ c < b then 9 else if i = 0 then 14 else if i < n then 11 else 0 := by
  rw [qE_def, if_neg (by rw [(rng_iff o v si p f c i n).2 ⟨h1, h2, h3⟩]; decide)]
end
set_option maxRecDepth 100000 in
set_option maxHeartbeats 16000000 in
theorem flaw (A : Option Addr) (k cp : Nat) (m : List E8) (o v si p f c i n : Int) (w : World) (hi : Rw.RS eR w A k cp m) (hk : k ≤ 1000000000) :
    Calls Tryz.prog 52 #[.slice A k cp, .agg #[.int .i64 o, .int .i64 v, .int .i64 si, .int .i64 p, .int .i64 f, .int .i64 c, .int .u64 i, .int .u64 n]] w fun e w' => e = .returned (.int .i64 (qE (bef 0 m k) (o, v, si, p, f, c, i, n))) ∧ Bel w w' := by
  have SC := Lib.hid (fun V => Sm.check v si p f V)
  have B0 := Lib.hid (Blk.new w #[.int .i64 o, .int .i64 v, .int .i64 si, .int .i64 p, .int .i64 f, .int .i64 c, .int .u64 i, .int .u64 n] 53)
  obtain ⟨V, hV⟩ : ∃ V, w.alloc (.cells #[.int .i64 o, .int .i64 v, .int .i64 si, .int .i64 p, .int .i64 f, .int .i64 c, .int .u64 i, .int .u64 n] 53) = V := ⟨_, rfl⟩
  have EV := Lib.hid (show Bel w V by rw [← hV]; exact (Bel.refl _).alloc _)
  have IV := Lib.hid (hi.bel EV.out)
  rw [hV] at B0
  have HV := Lib.hid hV
  have R1 := Lib.hid (fun h => q_o (b := bef 0 m k) (o := o) (v := v) (si := si) (p := p) (f := f) (c := c) (i := i) (n := n) h)
  have R2 := Lib.hid (fun h => q_s (b := bef 0 m k) (o := o) (v := v) (si := si) (p := p) (f := f) (c := c) (i := i) (n := n) h)
  have R3 := Lib.hid (fun h => q_c (b := bef 0 m k) (o := o) (v := v) (si := si) (p := p) (f := f) (c := c) (i := i) (n := n) h)
  have R4 := Lib.hid (fun h1 h2 h3 => q_r (b := bef 0 m k) (o := o) (v := v) (si := si) (p := p) (f := f) (c := c) (i := i) (n := n) h1 h2 h3)
  obtain ⟨R, hR⟩ : ∃ R, qE (bef 0 m k) (o, v, si, p, f, c, i, n) = R := ⟨_, rfl⟩
  rw [hR] at R1 R2 R3 R4 ⊢
  clear hV hR hi
  go_enter Tryz.func52, Tryz.ntmps52
  go_upto_region 1 with fail
  try rw [HV.out]
  obtain ⟨g, hg⟩ : ∃ g, w.heap.size = g := ⟨_, rfl⟩
  rw [hg] at B0 ⊢
  clear hg HV
  have i1 := isAccount o V
  have c0 := B0.out.cell 0 rfl
  by_cases h1 : 0 ≤ o ∧ o < 64
  · rw [decide_eq_true h1] at i1
    go_wp2_with fail
    refine i1.mono ?_
    rintro e wz ⟨rfl, rfl⟩
    clear i1 c0
    have ST := Lib.hid (show V.rangeAt g 1 [.int .i64 v, .int .i64 si, .int .i64 p, .int .i64 f] from fun j u hu => by
      match j, hu with
      | 0, hu => exact (Option.some.inj hu) ▸ B0.out.cell 1 rfl
      | 1, hu => exact (Option.some.inj hu) ▸ B0.out.cell 2 rfl
      | 2, hu => exact (Option.some.inj hu) ▸ B0.out.cell 3 rfl
      | 3, hu => exact (Option.some.inj hu) ▸ B0.out.cell 4 rfl
      | j + 4, hu => simp at hu)
    go_wp2_with (refine wpList_load_mid rfl 51 (.tmp 10) rfl g 1 rfl [.int .i64 v, .int .i64 si, .int .i64 p, .int .i64 f] _ ST.out Tryz.underlying51 rfl info_st ?_)
    refine (SC.out V).mono ?_
    rintro e w1 ⟨rfl, k1⟩
    have K1 := Lib.hid (EV.out.trans k1)
    have B1 := Lib.hid (B0.out.bel k1)
    have I1 := Lib.hid (IV.out.bel k1)
    clear k1 SC B0 IV EV ST
    obtain ⟨s, hs⟩ : ∃ s, Sm.ck v si p f = s := ⟨_, rfl⟩
    rw [hs] at R2 R4 ⊢
    clear hs
    by_cases h2 : s = 0
    · have h2b : (s != 0) = false := by rw [h2]; rfl
      have i1 := isHeight c w1
      have c2 := B1.out.cell 5 rfl
      by_cases h3 : 1 ≤ c ∧ c ≤ 4294967296
      · have HRR := Lib.hid (R4.out h1 h2 h3)
        clear h1 h2 R1 R2 R3 R4
        rw [decide_eq_true h3] at i1
        go_wp2_with fail
        refine i1.mono ?_
        rintro e wz ⟨rfl, rfl⟩
        clear i1
        have c3 := B1.out.cell 2 rfl
        have c4 := B1.out.cell 6 rfl
        have c5 := B1.out.cell 7 rfl
        by_cases h4 : c < si
        · have hr := HRR.out
          rw [if_pos (Or.inl h4)] at hr
          subst hr
          go_wp2_with fail
          go_ret
          exact ⟨rfl, K1.out⟩
        · by_cases hz : k = 0
          · subst hz
            have hr := HRR.out
            rw [show bef 0 m 0 = 0 from rfl, if_neg (by omega)] at hr
            clear HRR
            go_upto_region 6 with fail
            refine wp_region_held_drew (S := fun Vx => Bel w1 Vx) (by kernel_rfl) (Bel.refl _).drew (fun hS0 => ?_)
            obtain ⟨w6, hw6⟩ : ∃ w6, World.drew w1 = w6 := ⟨_, rfl⟩
            rw [hw6] at hS0 ⊢
            clear hw6
            refine wpAnyH_take (i := 0) (oi := { dst := some 25, op := .move (.tmp 0), type := 22, pos := "check.go:36", after := #[], guard := none }) (v := .slice A 0 cp) rfl (by kernel_rfl) (by kernel_rfl) (by kernel_rfl) (fun _ _ _ h => h) (Or.inl ⟨by rfl, by intro w hSw; clear hSw; go_simp⟩) hS0 ?_
            try simp only [Act.put, List.setIfInBounds_toArray, List.set_cons_zero, List.set_cons_succ]
            refine wpAnyH_take (i := 1) (oi := { dst := some 26, op := .call { callee := .builtin .len, args := #[.tmp 25], argTypes := #[22] }, type := 3, pos := "check.go:36", after := #[{ on := 0, ground := .data }], guard := none }) (v := .int .i64 0) rfl (by kernel_rfl) (by kernel_rfl) (by kernel_rfl) (fun _ _ _ h => h) (Or.inl ⟨by rfl, by intro w hSw; clear hSw; go_simp⟩) hS0 ?_
            try simp only [Act.put, List.setIfInBounds_toArray, List.set_cons_zero, List.set_cons_succ]
            refine wpAnyH_take (i := 2) (oi := { dst := some 27, op := .binOp .gtr 3 (.tmp 26) (.const (Value.int IntKind.i64 0)) 3, type := 4, pos := "check.go:36", after := #[{ on := 1, ground := .data }], guard := none }) (v := .bool false) rfl (by kernel_rfl) (by kernel_rfl) (by kernel_rfl) (fun _ _ _ h => h) (Or.inl ⟨by rfl, by intro w hSw; clear hSw; go_simp⟩) hS0 ?_
            try simp only [Act.put, List.setIfInBounds_toArray, List.set_cons_zero, List.set_cons_succ]
            refine wpAnyH_take (i := 3) (oi := { dst := some 28, op := .move (.tmp 27), type := 4, pos := "check.go:36", after := #[{ on := 2, ground := .data }], guard := none }) (v := .bool false) rfl (by kernel_rfl) (by kernel_rfl) (by kernel_rfl) (fun _ _ _ h => h) (Or.inl ⟨by rfl, by intro w hSw; clear hSw; go_simp⟩) hS0 ?_
            try simp only [Act.put, List.setIfInBounds_toArray, List.set_cons_zero, List.set_cons_succ]
            refine wpAnyH_take (i := 4) (oi := { dst := some 29, op := .fieldAddr 53 (.tmp 3) 2, type := 0, pos := "check.go:36", after := #[{ on := 3, ground := .guard }], guard := some (3, true) }) (v := undef) rfl (by kernel_rfl) (by kernel_rfl) (by kernel_rfl) (fun _ _ _ h => h) (Or.inr ⟨by rfl, by rfl⟩) hS0 ?_
            try simp only [Act.put, List.setIfInBounds_toArray, List.set_cons_zero, List.set_cons_succ]
            refine wpAnyH_take (i := 5) (oi := { dst := some 30, op := .load 3 (.tmp 29), type := 3, pos := "check.go:36", after := #[{ on := 4, ground := .data }, { on := 3, ground := .guard }], guard := some (3, true) }) (v := undef) rfl (by kernel_rfl) (by kernel_rfl) (by kernel_rfl) (fun _ _ _ h => h) (Or.inr ⟨by rfl, by rfl⟩) hS0 ?_
            try simp only [Act.put, List.setIfInBounds_toArray, List.set_cons_zero, List.set_cons_succ]
            refine wpAnyH_take (i := 6) (oi := { dst := some 31, op := .move (.tmp 0), type := 22, pos := "check.go:36", after := #[{ on := 3, ground := .guard }], guard := some (3, true) }) (v := undef) rfl (by kernel_rfl) (by kernel_rfl) (by kernel_rfl) (fun _ _ _ h => h) (Or.inr ⟨by rfl, by rfl⟩) hS0 ?_
            try simp only [Act.put, List.setIfInBounds_toArray, List.set_cons_zero, List.set_cons_succ]
            refine wpAnyH_take (i := 7) (oi := { dst := some 32, op := .move (.tmp 0), type := 22, pos := "check.go:36", after := #[{ on := 3, ground := .guard }], guard := some (3, true) }) (v := undef) rfl (by kernel_rfl) (by kernel_rfl) (by kernel_rfl) (fun _ _ _ h => h) (Or.inr ⟨by rfl, by rfl⟩) hS0 ?_
            try simp only [Act.put, List.setIfInBounds_toArray, List.set_cons_zero, List.set_cons_succ]
            refine wpAnyH_take (i := 8) (oi := { dst := some 33, op := .call { callee := .builtin .len, args := #[.tmp 32], argTypes := #[22] }, type := 3, pos := "check.go:36", after := #[{ on := 7, ground := .data }, { on := 3, ground := .guard }], guard := some (3, true) }) (v := undef) rfl (by kernel_rfl) (by kernel_rfl) (by kernel_rfl) (fun _ _ _ h => h) (Or.inr ⟨by rfl, by rfl⟩) hS0 ?_
            try simp only [Act.put, List.setIfInBounds_toArray, List.set_cons_zero, List.set_cons_succ]
            refine wpAnyH_take (i := 9) (oi := { dst := some 34, op := .binOp .sub 3 (.tmp 33) (.const (Value.int IntKind.i64 1)) 3, type := 3, pos := "check.go:36", after := #[{ on := 8, ground := .data }, { on := 3, ground := .guard }], guard := some (3, true) }) (v := undef) rfl (by kernel_rfl) (by kernel_rfl) (by kernel_rfl) (fun _ _ _ h => h) (Or.inr ⟨by rfl, by rfl⟩) hS0 ?_
            try simp only [Act.put, List.setIfInBounds_toArray, List.set_cons_zero, List.set_cons_succ]
            refine wpAnyH_take (i := 10) (oi := { dst := some 35, op := .indexAddr 22 (.tmp 31) (.tmp 34), type := 0, pos := "check.go:36", after := #[{ on := 6, ground := .data }, { on := 9, ground := .data }, { on := 3, ground := .guard }], guard := some (3, true) }) (v := undef) rfl (by kernel_rfl) (by kernel_rfl) (by kernel_rfl) (fun _ _ _ h => h) (Or.inr ⟨by rfl, by rfl⟩) hS0 ?_
            try simp only [Act.put, List.setIfInBounds_toArray, List.set_cons_zero, List.set_cons_succ]
            refine wpAnyH_take (i := 11) (oi := { dst := some 36, op := .fieldAddr 53 (.tmp 35) 2, type := 0, pos := "check.go:36", after := #[{ on := 10, ground := .data }, { on := 3, ground := .guard }], guard := some (3, true) }) (v := undef) rfl (by kernel_rfl) (by kernel_rfl) (by kernel_rfl) (fun _ _ _ h => h) (Or.inr ⟨by rfl, by rfl⟩) hS0 ?_
            try simp only [Act.put, List.setIfInBounds_toArray, List.set_cons_zero, List.set_cons_succ]
            refine wpAnyH_take (i := 12) (oi := { dst := some 37, op := .load 3 (.tmp 36), type := 3, pos := "check.go:36", after := #[{ on := 11, ground := .data }, { on := 3, ground := .guard }], guard := some (3, true) }) (v := undef) rfl (by kernel_rfl) (by kernel_rfl) (by kernel_rfl) (fun _ _ _ h => h) (Or.inr ⟨by rfl, by rfl⟩) hS0 ?_
            try simp only [Act.put, List.setIfInBounds_toArray, List.set_cons_zero, List.set_cons_succ]
            refine wpAnyH_take (i := 13) (oi := { dst := some 38, op := .binOp .lss 3 (.tmp 30) (.tmp 37) 3, type := 4, pos := "check.go:36", after := #[{ on := 5, ground := .data }, { on := 12, ground := .data }, { on := 3, ground := .guard }], guard := some (3, true) }) (v := undef) rfl (by kernel_rfl) (by kernel_rfl) (by kernel_rfl) (fun _ _ _ h => h) (Or.inr ⟨by rfl, by rfl⟩) hS0 ?_
            try simp only [Act.put, List.setIfInBounds_toArray, List.set_cons_zero, List.set_cons_succ]
            refine wpAnyH_take (i := 14) (oi := { dst := some 39, op := .pick (.tmp 28) (.tmp 38) (.const (Value.bool false)), type := 4, pos := "check.go:36", after := #[{ on := 3, ground := .data }, { on := 13, ground := .data }], guard := none }) (v := .bool false) rfl (by kernel_rfl) (by kernel_rfl) (by kernel_rfl) (fun _ _ _ h => h) (Or.inl ⟨by rfl, by intro w hSw; clear hSw; go_simp⟩) hS0 ?_
            try simp only [Act.put, List.setIfInBounds_toArray, List.set_cons_zero, List.set_cons_succ]
            refine wpAnyH_take (i := 15) (oi := { dst := some 18, op := .assign (.tmp 39), type := 4, pos := "check.go:36", after := #[{ on := 14, ground := .data }, { on := 3, ground := .chain }], guard := none }) (v := .bool false) rfl (by kernel_rfl) (by kernel_rfl) (by kernel_rfl) (fun _ _ _ h => h) (Or.inl ⟨by rfl, by intro w hSw; clear hSw; go_simp⟩) hS0 ?_
            try simp only [Act.put, List.setIfInBounds_toArray, List.set_cons_zero, List.set_cons_succ]
            refine wpAnyH_done (by kernel_rfl) ?_ _
            have KX := Lib.hid (K1.out.trans hS0)
            have BX := B1.out.bel hS0
            obtain ⟨wv, hwv⟩ : ∃ W, w6 = W := ⟨_, rfl⟩
            rw [hwv] at BX KX ⊢
            clear hS0 hwv c3 c4 c5 B1 I1
            have d6 := BX.cell 6 rfl
            have d7 := BX.cell 7 rfl
            clear BX
            by_cases hi0 : i = 0
            · have hib : (i == 0) = true := beq_iff_eq.2 hi0
              rw [if_pos hi0] at hr
              subst hr
              clear hi0
              go_wp2_with fail
              go_ret
              exact ⟨rfl, KX.out⟩
            · have hib : (i == 0) = false := beq_eq_false_iff_ne.2 hi0
              rw [if_neg hi0] at hr
              clear hi0
              by_cases hin : i < n
              · rw [if_pos hin] at hr
                subst hr
                go_wp2_with fail
                go_ret
                exact ⟨rfl, KX.out⟩
              · rw [if_neg hin] at hr
                subst hr
                go_wp2_with fail
                go_ret
                exact ⟨rfl, KX.out⟩
          · obtain ⟨j, rfl⟩ : ∃ j, k = j + 1 := ⟨k - 1, by omega⟩
            obtain ⟨⟨t1, t2, t3, t4, t5, t6, t7, t8⟩, ht⟩ := I1.out.get (Nat.lt_succ_self j)
            obtain ⟨bb, qq, rfl, _, hrow⟩ := I1.out.at (Nat.lt_succ_self j) ht
            have HROW := Lib.hid (show w1.rangeAt bb (qq + j * 8) [.int .i64 t1, .int .i64 t2, .int .i64 t3, .int .i64 t4, .int .i64 t5, .int .i64 t6, .int .u64 t7, .int .u64 t8] from hrow)
            have hr := HRR.out
            rw [show bef 0 m (j + 1) = t6 from bef_succ ht] at hr
            have hj3 : (0 : Int) < ((j + 1 : Nat) : Int) := by omega
            have hjw : IntKind.i64.wrap (((j + 1 : Nat) : Int) - 1) = j := by rw [show ((j + 1 : Nat) : Int) - 1 = j by omega]; exact IntWalk.i64_in _ (by omega)
            have hjw2 : IntKind.i64.wrap (((j : Int) + 1) - 1) = j := by rw [show (j : Int) + 1 - 1 = j by omega]; exact IntWalk.i64_in _ (by omega)
            have hjw3 : IntKind.i64.wrap (j : Int) = j := IntWalk.i64_in _ (by omega)
            have hj5 : ¬ ((j : Int) + 1 ≤ j) := by omega
            have hj0 : (0 : Int) ≤ j := by omega
            have hj4 : (j : Int) < ((j + 1 : Nat) : Int) := by omega
            clear HRR hrow ht hz
            by_cases h5 : c < t6
            · rw [if_pos (Or.inr h5)] at hr
              go_upto_region 6 with fail
              refine wp_region_held_drew (S := fun Vx => Bel w1 Vx) (by kernel_rfl) (Bel.refl _).drew (fun hS0 => ?_)
              obtain ⟨w6, hw6⟩ : ∃ w6, World.drew w1 = w6 := ⟨_, rfl⟩
              rw [hw6] at hS0 ⊢
              clear hw6
              refine wpAnyH_take (i := 0) (oi := { dst := some 25, op := .move (.tmp 0), type := 22, pos := "check.go:36", after := #[], guard := none }) (v := .slice (some ⟨bb, qq, none⟩) (j + 1) cp) rfl (by kernel_rfl) (by kernel_rfl) (by kernel_rfl) (fun _ _ _ h => h) (Or.inl ⟨by rfl, by intro w hSw; clear hSw; go_simp⟩) hS0 ?_
              try simp only [Act.put, List.setIfInBounds_toArray, List.set_cons_zero, List.set_cons_succ]
              refine wpAnyH_take (i := 1) (oi := { dst := some 26, op := .call { callee := .builtin .len, args := #[.tmp 25], argTypes := #[22] }, type := 3, pos := "check.go:36", after := #[{ on := 0, ground := .data }], guard := none }) (v := .int .i64 (j + 1)) rfl (by kernel_rfl) (by kernel_rfl) (by kernel_rfl) (fun _ _ _ h => h) (Or.inl ⟨by rfl, by intro w hSw; clear hSw; go_simp⟩) hS0 ?_
              try simp only [Act.put, List.setIfInBounds_toArray, List.set_cons_zero, List.set_cons_succ]
              refine wpAnyH_take (i := 2) (oi := { dst := some 27, op := .binOp .gtr 3 (.tmp 26) (.const (Value.int IntKind.i64 0)) 3, type := 4, pos := "check.go:36", after := #[{ on := 1, ground := .data }], guard := none }) (v := .bool true) rfl (by kernel_rfl) (by kernel_rfl) (by kernel_rfl) (fun _ _ _ h => h) (Or.inl ⟨by rfl, by intro w hSw; clear hSw; go_simp⟩) hS0 ?_
              try simp only [Act.put, List.setIfInBounds_toArray, List.set_cons_zero, List.set_cons_succ]
              refine wpAnyH_take (i := 3) (oi := { dst := some 28, op := .move (.tmp 27), type := 4, pos := "check.go:36", after := #[{ on := 2, ground := .data }], guard := none }) (v := .bool true) rfl (by kernel_rfl) (by kernel_rfl) (by kernel_rfl) (fun _ _ _ h => h) (Or.inl ⟨by rfl, by intro w hSw; clear hSw; go_simp⟩) hS0 ?_
              try simp only [Act.put, List.setIfInBounds_toArray, List.set_cons_zero, List.set_cons_succ]
              refine wpAnyH_take (i := 4) (oi := { dst := some 29, op := .fieldAddr 53 (.tmp 3) 2, type := 0, pos := "check.go:36", after := #[{ on := 3, ground := .guard }], guard := some (3, true) }) (v := .pointer (some ⟨g, 5, none⟩)) rfl (by kernel_rfl) (by kernel_rfl) (by kernel_rfl) (fun _ _ _ h => h) (Or.inl ⟨by rfl, by intro w hSw; clear hSw; go_simp⟩) hS0 ?_
              try simp only [Act.put, List.setIfInBounds_toArray, List.set_cons_zero, List.set_cons_succ]
              refine wpAnyH_take (i := 5) (oi := { dst := some 30, op := .load 3 (.tmp 29), type := 3, pos := "check.go:36", after := #[{ on := 4, ground := .data }, { on := 3, ground := .guard }], guard := some (3, true) }) (v := .int .i64 c) rfl (by kernel_rfl) (by kernel_rfl) (by kernel_rfl) (fun _ _ _ h => h) (Or.inl ⟨by rfl, by intro w h; have hcell := ((B1.out.bel h).cell 5 rfl); clear h; go_simp⟩) hS0 ?_
              try simp only [Act.put, List.setIfInBounds_toArray, List.set_cons_zero, List.set_cons_succ]
              refine wpAnyH_take (i := 6) (oi := { dst := some 31, op := .move (.tmp 0), type := 22, pos := "check.go:36", after := #[{ on := 3, ground := .guard }], guard := some (3, true) }) (v := .slice (some ⟨bb, qq, none⟩) (j + 1) cp) rfl (by kernel_rfl) (by kernel_rfl) (by kernel_rfl) (fun _ _ _ h => h) (Or.inl ⟨by rfl, by intro w hSw; clear hSw; go_simp⟩) hS0 ?_
              try simp only [Act.put, List.setIfInBounds_toArray, List.set_cons_zero, List.set_cons_succ]
              refine wpAnyH_take (i := 7) (oi := { dst := some 32, op := .move (.tmp 0), type := 22, pos := "check.go:36", after := #[{ on := 3, ground := .guard }], guard := some (3, true) }) (v := .slice (some ⟨bb, qq, none⟩) (j + 1) cp) rfl (by kernel_rfl) (by kernel_rfl) (by kernel_rfl) (fun _ _ _ h => h) (Or.inl ⟨by rfl, by intro w hSw; clear hSw; go_simp⟩) hS0 ?_
              try simp only [Act.put, List.setIfInBounds_toArray, List.set_cons_zero, List.set_cons_succ]
              refine wpAnyH_take (i := 8) (oi := { dst := some 33, op := .call { callee := .builtin .len, args := #[.tmp 32], argTypes := #[22] }, type := 3, pos := "check.go:36", after := #[{ on := 7, ground := .data }, { on := 3, ground := .guard }], guard := some (3, true) }) (v := .int .i64 (j + 1)) rfl (by kernel_rfl) (by kernel_rfl) (by kernel_rfl) (fun _ _ _ h => h) (Or.inl ⟨by rfl, by intro w hSw; clear hSw; go_simp⟩) hS0 ?_
              try simp only [Act.put, List.setIfInBounds_toArray, List.set_cons_zero, List.set_cons_succ]
              refine wpAnyH_take (i := 9) (oi := { dst := some 34, op := .binOp .sub 3 (.tmp 33) (.const (Value.int IntKind.i64 1)) 3, type := 3, pos := "check.go:36", after := #[{ on := 8, ground := .data }, { on := 3, ground := .guard }], guard := some (3, true) }) (v := .int .i64 j) rfl (by kernel_rfl) (by kernel_rfl) (by kernel_rfl) (fun _ _ _ h => h) (Or.inl ⟨by rfl, by intro w hSw; clear hSw; go_simp⟩) hS0 ?_
              try simp only [Act.put, List.setIfInBounds_toArray, List.set_cons_zero, List.set_cons_succ]
              refine wpAnyH_take (i := 10) (oi := { dst := some 35, op := .indexAddr 22 (.tmp 31) (.tmp 34), type := 0, pos := "check.go:36", after := #[{ on := 6, ground := .data }, { on := 9, ground := .data }, { on := 3, ground := .guard }], guard := some (3, true) }) (v := .pointer (some ⟨bb, qq + j * 8, none⟩)) rfl (by kernel_rfl) (by kernel_rfl) (by kernel_rfl) (fun _ _ _ h => h) (Or.inl ⟨by rfl, by intro w hSw; clear hSw; go_simp⟩) hS0 ?_
              try simp only [Act.put, List.setIfInBounds_toArray, List.set_cons_zero, List.set_cons_succ]
              refine wpAnyH_take (i := 11) (oi := { dst := some 36, op := .fieldAddr 53 (.tmp 35) 2, type := 0, pos := "check.go:36", after := #[{ on := 10, ground := .data }, { on := 3, ground := .guard }], guard := some (3, true) }) (v := .pointer (some ⟨bb, qq + j * 8 + 5, none⟩)) rfl (by kernel_rfl) (by kernel_rfl) (by kernel_rfl) (fun _ _ _ h => h) (Or.inl ⟨by rfl, by intro w hSw; clear hSw; go_simp⟩) hS0 ?_
              try simp only [Act.put, List.setIfInBounds_toArray, List.set_cons_zero, List.set_cons_succ]
              refine wpAnyH_take (i := 12) (oi := { dst := some 37, op := .load 3 (.tmp 36), type := 3, pos := "check.go:36", after := #[{ on := 11, ground := .data }, { on := 3, ground := .guard }], guard := some (3, true) }) (v := .int .i64 t6) rfl (by kernel_rfl) (by kernel_rfl) (by kernel_rfl) (fun _ _ _ h => h) (Or.inl ⟨by rfl, by intro w h; have hcell := ((rng8 (Pm.rng_bel HROW.out h)).2.2.2.2.2.1); clear h; go_simp⟩) hS0 ?_
              try simp only [Act.put, List.setIfInBounds_toArray, List.set_cons_zero, List.set_cons_succ]
              refine wpAnyH_take (i := 13) (oi := { dst := some 38, op := .binOp .lss 3 (.tmp 30) (.tmp 37) 3, type := 4, pos := "check.go:36", after := #[{ on := 5, ground := .data }, { on := 12, ground := .data }, { on := 3, ground := .guard }], guard := some (3, true) }) (v := .bool true) rfl (by kernel_rfl) (by kernel_rfl) (by kernel_rfl) (fun _ _ _ h => h) (Or.inl ⟨by rfl, by intro w hSw; clear hSw; go_simp⟩) hS0 ?_
              try simp only [Act.put, List.setIfInBounds_toArray, List.set_cons_zero, List.set_cons_succ]
              refine wpAnyH_take (i := 14) (oi := { dst := some 39, op := .pick (.tmp 28) (.tmp 38) (.const (Value.bool false)), type := 4, pos := "check.go:36", after := #[{ on := 3, ground := .data }, { on := 13, ground := .data }], guard := none }) (v := .bool true) rfl (by kernel_rfl) (by kernel_rfl) (by kernel_rfl) (fun _ _ _ h => h) (Or.inl ⟨by rfl, by intro w hSw; clear hSw; go_simp⟩) hS0 ?_
              try simp only [Act.put, List.setIfInBounds_toArray, List.set_cons_zero, List.set_cons_succ]
              refine wpAnyH_take (i := 15) (oi := { dst := some 18, op := .assign (.tmp 39), type := 4, pos := "check.go:36", after := #[{ on := 14, ground := .data }, { on := 3, ground := .chain }], guard := none }) (v := .bool true) rfl (by kernel_rfl) (by kernel_rfl) (by kernel_rfl) (fun _ _ _ h => h) (Or.inl ⟨by rfl, by intro w hSw; clear hSw; go_simp⟩) hS0 ?_
              try simp only [Act.put, List.setIfInBounds_toArray, List.set_cons_zero, List.set_cons_succ]
              refine wpAnyH_done (by kernel_rfl) ?_ _
              have KX := Lib.hid (K1.out.trans hS0)
              clear hS0 c3 c4 c5 B1 I1
              subst hr
              go_wp2_with fail
              go_ret
              exact ⟨rfl, KX.out⟩
            · rw [if_neg (by omega)] at hr
              go_upto_region 6 with fail
              refine wp_region_held_drew (S := fun Vx => Bel w1 Vx) (by kernel_rfl) (Bel.refl _).drew (fun hS0 => ?_)
              obtain ⟨w6, hw6⟩ : ∃ w6, World.drew w1 = w6 := ⟨_, rfl⟩
              rw [hw6] at hS0 ⊢
              clear hw6
              refine wpAnyH_take (i := 0) (oi := { dst := some 25, op := .move (.tmp 0), type := 22, pos := "check.go:36", after := #[], guard := none }) (v := .slice (some ⟨bb, qq, none⟩) (j + 1) cp) rfl (by kernel_rfl) (by kernel_rfl) (by kernel_rfl) (fun _ _ _ h => h) (Or.inl ⟨by rfl, by intro w hSw; clear hSw; go_simp⟩) hS0 ?_
              try simp only [Act.put, List.setIfInBounds_toArray, List.set_cons_zero, List.set_cons_succ]
              refine wpAnyH_take (i := 1) (oi := { dst := some 26, op := .call { callee := .builtin .len, args := #[.tmp 25], argTypes := #[22] }, type := 3, pos := "check.go:36", after := #[{ on := 0, ground := .data }], guard := none }) (v := .int .i64 (j + 1)) rfl (by kernel_rfl) (by kernel_rfl) (by kernel_rfl) (fun _ _ _ h => h) (Or.inl ⟨by rfl, by intro w hSw; clear hSw; go_simp⟩) hS0 ?_
              try simp only [Act.put, List.setIfInBounds_toArray, List.set_cons_zero, List.set_cons_succ]
              refine wpAnyH_take (i := 2) (oi := { dst := some 27, op := .binOp .gtr 3 (.tmp 26) (.const (Value.int IntKind.i64 0)) 3, type := 4, pos := "check.go:36", after := #[{ on := 1, ground := .data }], guard := none }) (v := .bool true) rfl (by kernel_rfl) (by kernel_rfl) (by kernel_rfl) (fun _ _ _ h => h) (Or.inl ⟨by rfl, by intro w hSw; clear hSw; go_simp⟩) hS0 ?_
              try simp only [Act.put, List.setIfInBounds_toArray, List.set_cons_zero, List.set_cons_succ]
              refine wpAnyH_take (i := 3) (oi := { dst := some 28, op := .move (.tmp 27), type := 4, pos := "check.go:36", after := #[{ on := 2, ground := .data }], guard := none }) (v := .bool true) rfl (by kernel_rfl) (by kernel_rfl) (by kernel_rfl) (fun _ _ _ h => h) (Or.inl ⟨by rfl, by intro w hSw; clear hSw; go_simp⟩) hS0 ?_
              try simp only [Act.put, List.setIfInBounds_toArray, List.set_cons_zero, List.set_cons_succ]
              refine wpAnyH_take (i := 4) (oi := { dst := some 29, op := .fieldAddr 53 (.tmp 3) 2, type := 0, pos := "check.go:36", after := #[{ on := 3, ground := .guard }], guard := some (3, true) }) (v := .pointer (some ⟨g, 5, none⟩)) rfl (by kernel_rfl) (by kernel_rfl) (by kernel_rfl) (fun _ _ _ h => h) (Or.inl ⟨by rfl, by intro w hSw; clear hSw; go_simp⟩) hS0 ?_
              try simp only [Act.put, List.setIfInBounds_toArray, List.set_cons_zero, List.set_cons_succ]
              refine wpAnyH_take (i := 5) (oi := { dst := some 30, op := .load 3 (.tmp 29), type := 3, pos := "check.go:36", after := #[{ on := 4, ground := .data }, { on := 3, ground := .guard }], guard := some (3, true) }) (v := .int .i64 c) rfl (by kernel_rfl) (by kernel_rfl) (by kernel_rfl) (fun _ _ _ h => h) (Or.inl ⟨by rfl, by intro w h; have hcell := ((B1.out.bel h).cell 5 rfl); clear h; go_simp⟩) hS0 ?_
              try simp only [Act.put, List.setIfInBounds_toArray, List.set_cons_zero, List.set_cons_succ]
              refine wpAnyH_take (i := 6) (oi := { dst := some 31, op := .move (.tmp 0), type := 22, pos := "check.go:36", after := #[{ on := 3, ground := .guard }], guard := some (3, true) }) (v := .slice (some ⟨bb, qq, none⟩) (j + 1) cp) rfl (by kernel_rfl) (by kernel_rfl) (by kernel_rfl) (fun _ _ _ h => h) (Or.inl ⟨by rfl, by intro w hSw; clear hSw; go_simp⟩) hS0 ?_
              try simp only [Act.put, List.setIfInBounds_toArray, List.set_cons_zero, List.set_cons_succ]
              refine wpAnyH_take (i := 7) (oi := { dst := some 32, op := .move (.tmp 0), type := 22, pos := "check.go:36", after := #[{ on := 3, ground := .guard }], guard := some (3, true) }) (v := .slice (some ⟨bb, qq, none⟩) (j + 1) cp) rfl (by kernel_rfl) (by kernel_rfl) (by kernel_rfl) (fun _ _ _ h => h) (Or.inl ⟨by rfl, by intro w hSw; clear hSw; go_simp⟩) hS0 ?_
              try simp only [Act.put, List.setIfInBounds_toArray, List.set_cons_zero, List.set_cons_succ]
              refine wpAnyH_take (i := 8) (oi := { dst := some 33, op := .call { callee := .builtin .len, args := #[.tmp 32], argTypes := #[22] }, type := 3, pos := "check.go:36", after := #[{ on := 7, ground := .data }, { on := 3, ground := .guard }], guard := some (3, true) }) (v := .int .i64 (j + 1)) rfl (by kernel_rfl) (by kernel_rfl) (by kernel_rfl) (fun _ _ _ h => h) (Or.inl ⟨by rfl, by intro w hSw; clear hSw; go_simp⟩) hS0 ?_
              try simp only [Act.put, List.setIfInBounds_toArray, List.set_cons_zero, List.set_cons_succ]
              refine wpAnyH_take (i := 9) (oi := { dst := some 34, op := .binOp .sub 3 (.tmp 33) (.const (Value.int IntKind.i64 1)) 3, type := 3, pos := "check.go:36", after := #[{ on := 8, ground := .data }, { on := 3, ground := .guard }], guard := some (3, true) }) (v := .int .i64 j) rfl (by kernel_rfl) (by kernel_rfl) (by kernel_rfl) (fun _ _ _ h => h) (Or.inl ⟨by rfl, by intro w hSw; clear hSw; go_simp⟩) hS0 ?_
              try simp only [Act.put, List.setIfInBounds_toArray, List.set_cons_zero, List.set_cons_succ]
              refine wpAnyH_take (i := 10) (oi := { dst := some 35, op := .indexAddr 22 (.tmp 31) (.tmp 34), type := 0, pos := "check.go:36", after := #[{ on := 6, ground := .data }, { on := 9, ground := .data }, { on := 3, ground := .guard }], guard := some (3, true) }) (v := .pointer (some ⟨bb, qq + j * 8, none⟩)) rfl (by kernel_rfl) (by kernel_rfl) (by kernel_rfl) (fun _ _ _ h => h) (Or.inl ⟨by rfl, by intro w hSw; clear hSw; go_simp⟩) hS0 ?_
              try simp only [Act.put, List.setIfInBounds_toArray, List.set_cons_zero, List.set_cons_succ]
              refine wpAnyH_take (i := 11) (oi := { dst := some 36, op := .fieldAddr 53 (.tmp 35) 2, type := 0, pos := "check.go:36", after := #[{ on := 10, ground := .data }, { on := 3, ground := .guard }], guard := some (3, true) }) (v := .pointer (some ⟨bb, qq + j * 8 + 5, none⟩)) rfl (by kernel_rfl) (by kernel_rfl) (by kernel_rfl) (fun _ _ _ h => h) (Or.inl ⟨by rfl, by intro w hSw; clear hSw; go_simp⟩) hS0 ?_
              try simp only [Act.put, List.setIfInBounds_toArray, List.set_cons_zero, List.set_cons_succ]
              refine wpAnyH_take (i := 12) (oi := { dst := some 37, op := .load 3 (.tmp 36), type := 3, pos := "check.go:36", after := #[{ on := 11, ground := .data }, { on := 3, ground := .guard }], guard := some (3, true) }) (v := .int .i64 t6) rfl (by kernel_rfl) (by kernel_rfl) (by kernel_rfl) (fun _ _ _ h => h) (Or.inl ⟨by rfl, by intro w h; have hcell := ((rng8 (Pm.rng_bel HROW.out h)).2.2.2.2.2.1); clear h; go_simp⟩) hS0 ?_
              try simp only [Act.put, List.setIfInBounds_toArray, List.set_cons_zero, List.set_cons_succ]
              refine wpAnyH_take (i := 13) (oi := { dst := some 38, op := .binOp .lss 3 (.tmp 30) (.tmp 37) 3, type := 4, pos := "check.go:36", after := #[{ on := 5, ground := .data }, { on := 12, ground := .data }, { on := 3, ground := .guard }], guard := some (3, true) }) (v := .bool false) rfl (by kernel_rfl) (by kernel_rfl) (by kernel_rfl) (fun _ _ _ h => h) (Or.inl ⟨by rfl, by intro w hSw; clear hSw; go_simp⟩) hS0 ?_
              try simp only [Act.put, List.setIfInBounds_toArray, List.set_cons_zero, List.set_cons_succ]
              refine wpAnyH_take (i := 14) (oi := { dst := some 39, op := .pick (.tmp 28) (.tmp 38) (.const (Value.bool false)), type := 4, pos := "check.go:36", after := #[{ on := 3, ground := .data }, { on := 13, ground := .data }], guard := none }) (v := .bool false) rfl (by kernel_rfl) (by kernel_rfl) (by kernel_rfl) (fun _ _ _ h => h) (Or.inl ⟨by rfl, by intro w hSw; clear hSw; go_simp⟩) hS0 ?_
              try simp only [Act.put, List.setIfInBounds_toArray, List.set_cons_zero, List.set_cons_succ]
              refine wpAnyH_take (i := 15) (oi := { dst := some 18, op := .assign (.tmp 39), type := 4, pos := "check.go:36", after := #[{ on := 14, ground := .data }, { on := 3, ground := .chain }], guard := none }) (v := .bool false) rfl (by kernel_rfl) (by kernel_rfl) (by kernel_rfl) (fun _ _ _ h => h) (Or.inl ⟨by rfl, by intro w hSw; clear hSw; go_simp⟩) hS0 ?_
              try simp only [Act.put, List.setIfInBounds_toArray, List.set_cons_zero, List.set_cons_succ]
              refine wpAnyH_done (by kernel_rfl) ?_ _
              have KX := Lib.hid (K1.out.trans hS0)
              have BX := B1.out.bel hS0
              obtain ⟨wv, hwv⟩ : ∃ W, w6 = W := ⟨_, rfl⟩
              rw [hwv] at BX KX ⊢
              clear hS0 hwv c3 c4 c5 B1 I1
              have d6 := BX.cell 6 rfl
              have d7 := BX.cell 7 rfl
              clear BX
              by_cases hi0 : i = 0
              · have hib : (i == 0) = true := beq_iff_eq.2 hi0
                rw [if_pos hi0] at hr
                subst hr
                clear hi0
                go_wp2_with fail
                go_ret
                exact ⟨rfl, KX.out⟩
              · have hib : (i == 0) = false := beq_eq_false_iff_ne.2 hi0
                rw [if_neg hi0] at hr
                clear hi0
                by_cases hin : i < n
                · rw [if_pos hin] at hr
                  subst hr
                  go_wp2_with fail
                  go_ret
                  exact ⟨rfl, KX.out⟩
                · rw [if_neg hin] at hr
                  subst hr
                  go_wp2_with fail
                  go_ret
                  exact ⟨rfl, KX.out⟩
      · have hr := R3.out h3
        subst hr
        rw [decide_eq_false h3] at i1
        clear h3
        go_wp2_with fail
        refine i1.mono ?_
        rintro e wz ⟨rfl, rfl⟩
        clear i1
        go_wp2_with fail
        go_ret
        exact ⟨rfl, K1.out⟩
    · have hr := R2.out h2
      subst hr
      have h2b : (s != 0) = true := by rw [bne_iff_ne]; exact h2
      clear h2
      go_wp2_with fail
      go_ret
      exact ⟨rfl, K1.out⟩
  · have hr := R1.out h1
    subst hr
    rw [decide_eq_false h1] at i1
    clear h1
    go_wp2_with fail
    refine i1.mono ?_
    rintro e wz ⟨rfl, rfl⟩
    clear i1
    go_wp2_with fail
    go_ret
    exact ⟨rfl, EV.out⟩
end Qu
end Go.Proofs.YtcefjigbaglmeaaGreat
