/-
  What the reference's Send, Pay, Take, Move and Burn answer: what the program's do. Conditions: the amounts are words.
-/
import Derived.BigRegion
import Derived.Test.YtgdaojbflokmoaaBM
import Derived.Test.YtgdaojbflokmoaaBG
namespace Go.Proofs.Ytgdaojbflokmoaa
open Go.RowKit Go.Shelf
set_option linter.unusedVariables false
namespace Bk
open Pm

theorem fst_ways {a b c d : Int} : (¬ fstE [a, b, c, d] = 0) ∨ (a = 0 ∧ b = 0 ∧ c = 0 ∧ d = 0) := by
  by_cases h1 : a = 0
  · by_cases h2 : b = 0
    · by_cases h3 : c = 0
      · by_cases h4 : d = 0
        · exact .inr ⟨h1, h2, h3, h4⟩
        · left; simp [fstE, h1, h2, h3, h4]
      · left; simp [fstE, h1, h2, h3]
    · left; simp [fstE, h1, h2]
  · left; simp [fstE, h1]
/-- What is wrong with a move, as the first of some errors. -/
theorem xE_of (zs ps : List Int) (pf pt : Bool) (f t n least : Int) :
    xE zs ps pf pt f t n least = fstE [chk zs ps, plE zs pf f, plE zs pt t, if (pf = pt ∧ f = t) ∨ (pf = true ∧ f = 2) ∨ n < least then 2 else 0, if bal zs ps pf f < n then 13 else 0] := by
  unfold xE fstE fstE fstE fstE fstE fstE
  by_cases h1 : chk zs ps = 0
  · by_cases h2 : plE zs pf f = 0
    · by_cases h3 : plE zs pt t = 0
      · by_cases h4 : (pf = pt ∧ f = t) ∨ (pf = true ∧ f = 2) ∨ n < least
        · simp only [h1, h2, h3, if_pos h4, if_true]; rw [if_neg (by decide)]
        · simp only [h1, h2, h3, if_neg h4, if_true]
          split <;> simp_all
      · simp [h1, h2, h3]
    · simp [h1, h2]
  · simp [h1]
theorem fst5 (a b c d e : Int) (h : ¬ fstE [a, b, c, d] = 0) : fstE [a, b, c, d, e] = fstE [a, b, c, d] := by
  by_cases h1 : a = 0 <;> by_cases h2 : b = 0 <;> by_cases h3 : c = 0 <;> by_cases h4 : d = 0 <;> simp_all [fstE]
theorem errs4 {w : World} {b : Nat} (e0 e1 e2 e3 : Int) (t : TypeId) (hb : w.heap.size = b) :
    ∀ i, i < 4 → (w.alloc (.cells #[.int .i64 e0, .int .i64 e1, .int .i64 e2, .int .i64 e3] t)).cell? ⟨b, i, none⟩ = some (.int .i64 ([e0, e1, e2, e3].getD i 0)) := by
  subst hb
  intro i hi
  match i, hi with
  | 0, _ => simp
  | 1, _ => simp
  | 2, _ => simp
  | 3, _ => simp
theorem errs3 {w : World} {b : Nat} (e0 e1 e2 : Int) (t : TypeId) (hb : w.heap.size = b) :
    ∀ i, i < 3 → (w.alloc (.cells #[.int .i64 e0, .int .i64 e1, .int .i64 e2] t)).cell? ⟨b, i, none⟩ = some (.int .i64 ([e0, e1, e2].getD i 0)) := by
  subst hb
  intro i hi
  match i, hi with
  | 0, _ => simp
  | 1, _ => simp
  | 2, _ => simp
def argE (q : Bool) : Int := if q = true then 2 else 0
def poorE (x n : Int) : Int := if x < n then 13 else 0
theorem argR' (q : Bool) (w : World) : Calls Try.prog 95 #[.bool q] w fun e w' => e = .returned (.int .i64 (argE q)) ∧ Kk.Bel w w' := argR q w
theorem poorR' (x n : Int) (w : World) : Calls Try.prog 96 #[.int .u64 x, .int .u64 n] w fun e w' => e = .returned (.int .i64 (poorE x n)) ∧ Kk.Bel w w' := poorR x n w
theorem thereR' (k : Int) (Y : List Value) (zs ps : List Int) (w : World) (h : BV w Y zs ps) :
    Calls Try.prog 47 #[.agg Y.toArray, .int .i64 k] w fun e w' => e = .returned (.int .i64 (plE zs false k)) ∧ Kk.Bel w w' := thereR k Y zs ps w h
theorem poolR' (zs : List Int) (k : Int) (w : World) : Calls Try.prog 97 #[.int .i64 k] w fun e w' => e = .returned (.int .i64 (plE zs true k)) ∧ Kk.Bel w w' := poolR k w
theorem sendG (f t m : Int) (h : ¬ f = t) (m0 : 0 ≤ m) : (if ((false : Bool) = false ∧ f = t) ∨ ((false : Bool) = true ∧ f = 2) ∨ m < 1 then (2 : Int) else 0) = argE (m == 0) := by
  unfold argE
  by_cases e : m = 0
  · subst e; simp
  · rw [if_neg (by rintro (⟨_, h1⟩ | ⟨h1, _⟩ | h1); exact h h1; cases h1; omega)]; simp [e]
theorem payG (f t m : Int) (m0 : 0 ≤ m) : (if ((true : Bool) = false ∧ f = t) ∨ ((true : Bool) = true ∧ f = 2) ∨ m < 0 then (2 : Int) else 0) = argE (f == 2) := by
  unfold argE
  by_cases e : f = 2
  · subst e; simp
  · rw [if_neg (by rintro (⟨h1, _⟩ | ⟨_, h1⟩ | h1); cases h1; exact e h1; omega)]; simp [e]
theorem takeG (f t m : Int) (m0 : 0 ≤ m) : (if ((false : Bool) = true ∧ f = t) ∨ ((false : Bool) = true ∧ f = 2) ∨ m < 0 then (2 : Int) else 0) = 0 := by
  rw [if_neg (by rintro (⟨h1, _⟩ | ⟨h1, _⟩ | h1); cases h1; cases h1; omega)]
theorem moveG (f t m : Int) (h : ¬ f = t) (m0 : 0 ≤ m) : (if ((true : Bool) = true ∧ f = t) ∨ ((true : Bool) = true ∧ f = 2) ∨ m < 0 then (2 : Int) else 0) = argE (f == 2) := by
  unfold argE
  by_cases e : f = 2
  · subst e; simp
  · rw [if_neg (by rintro (⟨_, h1⟩ | ⟨_, h1⟩ | h1); exact h h1; exact e h1; omega)]; simp [e]
theorem copyBankV (Y : List Value) (zs ps : List Int) (w : World) (h : BV w Y zs ps) : Calls Try.prog 7 #[.agg Y.toArray] w fun e w' => ∃ V, e = .returned V ∧ FB w w' V zs ps := by
  obtain ⟨A, c, rfl, hs, hz, hp, hl, hn⟩ := h
  obtain ⟨p0, p1, p2, p3, rfl⟩ := four_of hl
  exact copyBank A _ c zs p0 p1 p2 p3 w hs (by omega)
theorem fst3 (a b c : Int) : fstE [a, b, c] = fstE [a, b, c, 0] := by simp [fstE]
set_option maxRecDepth 10000 in
set_option maxHeartbeats 800000 in
theorem sendR (f t m : Int) (Y : List Value) (zs ps : List Int) (w : World) (h : BV w Y zs ps) (m0 : 0 ≤ m) (m1 : m ≤ 18446744073709551615) :
    Calls Try.prog 51 #[.agg Y.toArray, .int .i64 f, .int .i64 t, .int .u64 m] w fun e w' => ∃ X, e = .returned (.tuple #[.agg X.toArray, .int .i64 (xE zs ps false false f t m 1)]) ∧ NB w w' X (xZ zs ps false false f t m 1) (xP zs ps false false f t m 1) := by
  have CK := Lib.hid (fun V (hb : Kk.Bel w V) => checkR Y zs ps V (h.bel hb))
  have TH := Lib.hid (fun k V (hb : Kk.Bel w V) => thereR' k Y zs ps V (h.bel hb))
  have PO := Lib.hid (fun k V => poolR' zs k V)
  have iY := Lib.hid (show (Try.prog.info? 26).map (·.size) = some Y.length by rw [h.len]; exact info_bank)
  have uB := Try.underlying26
  have BH := Lib.hid h
  have XO := Lib.hid (xE_of zs ps false false f t m 1)
  have YL := Lib.hid h.len
  clear h
  obtain ⟨W0, hW0⟩ : ∃ W0, (w.alloc (.cells Y.toArray 26)).alloc (.cells ZB 26) = W0 := ⟨_, rfl⟩
  obtain ⟨p, hp⟩ : ∃ p, w.heap.size = p := ⟨_, rfl⟩
  have B0 := Lib.hid (show Kk.Bel w W0 by rw [← hW0]; exact ((Kk.Bel.refl w).alloc _).alloc _)
  have QP := Lib.hid (show Kk.Blk W0 p Y.toArray 26 by rw [← hW0, ← hp]; exact (Kk.Blk.new w _ _).alloc _)
  have QR := Lib.hid (show Kk.Blk W0 (p + 1) ZB 26 by rw [← hW0, ← hp, ← World.size_alloc w (.cells Y.toArray 26)]; exact Kk.Blk.new _ _ _)
  have HW0 := Lib.hid hW0
  have HP := Lib.hid hp
  have R0 := Lib.hid (rngB QP.out)
  clear hW0 hp
  by_cases hft : f = t
  · subst hft
    have XG := Lib.hid (show xE zs ps false false f f m 1 = fstE [chk zs ps, plE zs false f, plE zs false f, argE true, poorE (bal zs ps false f) m] by rw [xE_of]; rw [if_pos (Or.inl ⟨rfl, rfl⟩)]; rfl)
    go_enter Try.func51, Try.ntmps51
    go_upto_region 1 with fail
    rw [HW0.out, HP.out]
    refine wp_region_held_drew (S := fun V => Kk.Bel W0 V) (by kernel_rfl) (Kk.Bel.refl _).drew (fun hS0 => ?_)
    obtain ⟨w6, hw6⟩ : ∃ w6, W0.drew = w6 := ⟨_, rfl⟩
    rw [hw6] at hS0 ⊢
    clear hw6
    refine wpAnyH_take (i := 0) (oi := { dst := some 11, op := .load 26 (.tmp 4), type := 26, pos := "ref.go:112", after := #[], guard := none }) (v := .agg Y.toArray) rfl (by kernel_rfl) (by kernel_rfl) (by kernel_rfl) (fun _ _ _ h => h) (yieldsIf_load_mid (by rfl) _ _ rfl _ _ rfl _ _ (fun w h => rng_bel R0.out h) uB rfl iY.out) hS0 ?_
    try simp only [Act.put, List.setIfInBounds_toArray, List.set_cons_zero, List.set_cons_succ]
    refine wpAnyH_take (i := 2) (oi := { dst := some 13, op := .load 26 (.tmp 4), type := 26, pos := "ref.go:112", after := #[], guard := none }) (v := .agg Y.toArray) rfl (by kernel_rfl) (by kernel_rfl) (by kernel_rfl) (fun _ _ _ h => h) (yieldsIf_load_mid (by rfl) _ _ rfl _ _ rfl _ _ (fun w h => rng_bel R0.out h) uB rfl iY.out) hS0 ?_
    try simp only [Act.put, List.setIfInBounds_toArray, List.set_cons_zero, List.set_cons_succ]
    refine wpAnyH_take (i := 3) (oi := { dst := some 14, op := .move (.tmp 1), type := 3, pos := "ref.go:112", after := #[], guard := none }) (v := .int .i64 f) rfl (by kernel_rfl) (by kernel_rfl) (by kernel_rfl) (fun _ _ _ h => h) (Or.inl ⟨by rfl, by intro w hSw; clear hSw; go_simp⟩) hS0 ?_
    try simp only [Act.put, List.setIfInBounds_toArray, List.set_cons_zero, List.set_cons_succ]
    refine wpAnyH_take (i := 5) (oi := { dst := some 16, op := .load 26 (.tmp 4), type := 26, pos := "ref.go:112", after := #[], guard := none }) (v := .agg Y.toArray) rfl (by kernel_rfl) (by kernel_rfl) (by kernel_rfl) (fun _ _ _ h => h) (yieldsIf_load_mid (by rfl) _ _ rfl _ _ rfl _ _ (fun w h => rng_bel R0.out h) uB rfl iY.out) hS0 ?_
    try simp only [Act.put, List.setIfInBounds_toArray, List.set_cons_zero, List.set_cons_succ]
    refine wpAnyH_take (i := 6) (oi := { dst := some 17, op := .move (.tmp 2), type := 3, pos := "ref.go:112", after := #[], guard := none }) (v := .int .i64 f) rfl (by kernel_rfl) (by kernel_rfl) (by kernel_rfl) (fun _ _ _ h => h) (Or.inl ⟨by rfl, by intro w hSw; clear hSw; go_simp⟩) hS0 ?_
    try simp only [Act.put, List.setIfInBounds_toArray, List.set_cons_zero, List.set_cons_succ]
    refine wpAnyH_take (i := 8) (oi := { dst := some 19, op := .move (.tmp 1), type := 3, pos := "ref.go:112", after := #[], guard := none }) (v := .int .i64 f) rfl (by kernel_rfl) (by kernel_rfl) (by kernel_rfl) (fun _ _ _ h => h) (Or.inl ⟨by rfl, by intro w hSw; clear hSw; go_simp⟩) hS0 ?_
    try simp only [Act.put, List.setIfInBounds_toArray, List.set_cons_zero, List.set_cons_succ]
    refine wpAnyH_take (i := 9) (oi := { dst := some 20, op := .move (.tmp 2), type := 3, pos := "ref.go:112", after := #[], guard := none }) (v := .int .i64 f) rfl (by kernel_rfl) (by kernel_rfl) (by kernel_rfl) (fun _ _ _ h => h) (Or.inl ⟨by rfl, by intro w hSw; clear hSw; go_simp⟩) hS0 ?_
    try simp only [Act.put, List.setIfInBounds_toArray, List.set_cons_zero, List.set_cons_succ]
    refine wpAnyH_take (i := 10) (oi := { dst := some 21, op := .binOp .eql 3 (.tmp 19) (.tmp 20) 3, type := 4, pos := "ref.go:112", after := #[{ on := 8, ground := .data }, { on := 9, ground := .data }], guard := none }) (v := .bool true) rfl (by kernel_rfl) (by kernel_rfl) (by kernel_rfl) (fun _ _ _ h => h) (Or.inl ⟨by rfl, by intro w hSw; clear hSw; go_simp⟩) hS0 ?_
    try simp only [Act.put, List.setIfInBounds_toArray, List.set_cons_zero, List.set_cons_succ]
    refine wpAnyH_ready (rs := [1]) (by kernel_rfl) (by simp) ?_
    refine AllReadyH.cons (o := { dst := some 12, op := .call { callee := .value (.func 19), args := #[.tmp 11], argTypes := #[26] }, type := 30, pos := "ref.go:112", after := #[{ on := 0, ground := .data }], guard := none }) rfl (fun K hK => ?_) AllReadyH.nil
    go_simp
    refine (CK.out _ (B0.out.trans hS0)).mono ?_
    rintro e v1 ⟨rfl, kb0⟩
    go_wp2_with fail
    refine hK.out _ _ (hS0.trans kb0) (fun hS1 => ?_)
    clear hK K
    try simp only [Act.put, List.setIfInBounds_toArray, List.set_cons_zero, List.set_cons_succ]
    refine wpAnyH_ready (rs := [4]) (by kernel_rfl) (by simp) ?_
    refine AllReadyH.cons (o := { dst := some 15, op := .call { callee := .value (.func 47), args := #[.tmp 13, .tmp 14], argTypes := #[26, 3] }, type := 30, pos := "ref.go:112", after := #[{ on := 2, ground := .data }, { on := 3, ground := .data }, { on := 1, ground := .chain }], guard := none }) rfl (fun K hK => ?_) AllReadyH.nil
    go_simp
    refine (TH.out f _ (B0.out.trans hS1)).mono ?_
    rintro e v2 ⟨rfl, kb1⟩
    go_wp2_with fail
    refine hK.out _ _ (hS1.trans kb1) (fun hS2 => ?_)
    clear hK K
    try simp only [Act.put, List.setIfInBounds_toArray, List.set_cons_zero, List.set_cons_succ]
    refine wpAnyH_ready (rs := [7]) (by kernel_rfl) (by simp) ?_
    refine AllReadyH.cons (o := { dst := some 18, op := .call { callee := .value (.func 47), args := #[.tmp 16, .tmp 17], argTypes := #[26, 3] }, type := 30, pos := "ref.go:112", after := #[{ on := 5, ground := .data }, { on := 6, ground := .data }, { on := 4, ground := .chain }], guard := none }) rfl (fun K hK => ?_) AllReadyH.nil
    go_simp
    refine (TH.out f _ (B0.out.trans hS2)).mono ?_
    rintro e v3 ⟨rfl, kb2⟩
    go_wp2_with fail
    refine hK.out _ _ (hS2.trans kb2) (fun hS3 => ?_)
    clear hK K
    try simp only [Act.put, List.setIfInBounds_toArray, List.set_cons_zero, List.set_cons_succ]
    refine wpAnyH_take (i := 11) (oi := { dst := some 22, op := .move (.tmp 21), type := 4, pos := "ref.go:112", after := #[{ on := 10, ground := .data }, { on := 7, ground := .chain }], guard := none }) (v := .bool true) rfl (by kernel_rfl) (by kernel_rfl) (by kernel_rfl) (fun _ _ _ h => h) (Or.inl ⟨by rfl, by intro w hSw; clear hSw; go_simp⟩) hS3 ?_
    try simp only [Act.put, List.setIfInBounds_toArray, List.set_cons_zero, List.set_cons_succ]
    refine wpAnyH_take (i := 12) (oi := { dst := some 23, op := .move (.tmp 3), type := 23, pos := "ref.go:112", after := #[{ on := 11, ground := .guard }], guard := some (11, false) }) (v := undef) rfl (by kernel_rfl) (by kernel_rfl) (by kernel_rfl) (fun _ _ _ h => h) (Or.inr ⟨by rfl, rfl⟩) hS3 ?_
    try simp only [Act.put, List.setIfInBounds_toArray, List.set_cons_zero, List.set_cons_succ]
    refine wpAnyH_take (i := 13) (oi := { dst := some 24, op := .binOp .eql 23 (.tmp 23) (.const (Value.int IntKind.u64 0)) 23, type := 4, pos := "ref.go:112", after := #[{ on := 12, ground := .data }, { on := 11, ground := .guard }], guard := some (11, false) }) (v := undef) rfl (by kernel_rfl) (by kernel_rfl) (by kernel_rfl) (fun _ _ _ h => h) (Or.inr ⟨by rfl, rfl⟩) hS3 ?_
    try simp only [Act.put, List.setIfInBounds_toArray, List.set_cons_zero, List.set_cons_succ]
    refine wpAnyH_take (i := 14) (oi := { dst := some 25, op := .pick (.tmp 22) (.const (Value.bool true)) (.tmp 24), type := 4, pos := "ref.go:112", after := #[{ on := 11, ground := .data }, { on := 13, ground := .data }], guard := none }) (v := .bool true) rfl (by kernel_rfl) (by kernel_rfl) (by kernel_rfl) (fun _ _ _ h => h) (Or.inl ⟨by rfl, by intro w hSw; clear hSw; go_simp⟩) hS3 ?_
    try simp only [Act.put, List.setIfInBounds_toArray, List.set_cons_zero, List.set_cons_succ]
    refine wpAnyH_ready (rs := [15]) (by kernel_rfl) (by simp) ?_
    refine AllReadyH.cons (o := { dst := some 26, op := .call { callee := .value (.func 95), args := #[.tmp 25], argTypes := #[4] }, type := 30, pos := "ref.go:112", after := #[{ on := 14, ground := .data }, { on := 11, ground := .chain }], guard := none }) rfl (fun K hK => ?_) AllReadyH.nil
    go_simp
    refine (argR' true _).mono ?_
    rintro e v4 ⟨rfl, kb3⟩
    go_wp2_with fail
    refine hK.out _ _ (hS3.trans kb3) (fun hS4 => ?_)
    clear hK K
    try simp only [Act.put, List.setIfInBounds_toArray, List.set_cons_zero, List.set_cons_succ]
    refine wpAnyH_ready (rs := [16]) (by kernel_rfl) (by simp) ?_
    refine AllReadyH.cons (o := { dst := some 27, op := .buildSlice 134 4 #[(0, .tmp 12), (1, .tmp 15), (2, .tmp 18), (3, .tmp 26)], type := 134, pos := "ref.go:112", after := #[{ on := 1, ground := .data }, { on := 4, ground := .data }, { on := 7, ground := .data }, { on := 15, ground := .data }], guard := none }) rfl (fun K hK => ?_) AllReadyH.nil
    go_simp
    refine hK.out _ _ (hS4.alloc _) (fun hS5 => ?_)
    clear hK K
    try simp only [Act.put, List.setIfInBounds_toArray, List.set_cons_zero, List.set_cons_succ]
    refine wpAnyH_ready (rs := [17]) (by kernel_rfl) (by simp) ?_
    refine AllReadyH.cons (o := { dst := some 28, op := .call { callee := .value (.func 94), args := #[.tmp 27], argTypes := #[134] }, type := 30, pos := "ref.go:112", after := #[{ on := 16, ground := .data }, { on := 15, ground := .chain }], guard := none }) rfl (fun K hK => ?_) AllReadyH.nil
    go_simp
    refine (firstR _ 4 _ [chk zs ps, plE zs false f, plE zs false f, argE true] _ rfl (by decide) (errs4 _ _ _ _ _ rfl)).mono ?_
    rintro e v6 ⟨rfl, kb5⟩
    go_wp2_with fail
    refine hK.out _ _ (hS5.trans kb5) (fun hS6 => ?_)
    clear hK K
    try simp only [Act.put, List.setIfInBounds_toArray, List.set_cons_zero, List.set_cons_succ]
    refine wpAnyH_take (i := 18) (oi := { dst := some 10, op := .assign (.tmp 28), type := 30, pos := "ref.go:112", after := #[{ on := 17, ground := .data }, { on := 17, ground := .chain }, { on := 0, ground := .phase }, { on := 1, ground := .phase }, { on := 2, ground := .phase }, { on := 3, ground := .phase }, { on := 4, ground := .phase }, { on := 5, ground := .phase }, { on := 6, ground := .phase }, { on := 7, ground := .phase }, { on := 8, ground := .phase }, { on := 9, ground := .phase }, { on := 10, ground := .phase }, { on := 11, ground := .phase }, { on := 12, ground := .phase }, { on := 13, ground := .phase }, { on := 14, ground := .phase }, { on := 15, ground := .phase }, { on := 16, ground := .phase }, { on := 17, ground := .phase }], guard := none }) (v := .int .i64 (fstE [chk zs ps, plE zs false f, plE zs false f, argE true])) rfl (by kernel_rfl) (by kernel_rfl) (by kernel_rfl) (fun _ _ _ h => h) (Or.inl ⟨by rfl, by intro w hSw; clear hSw; go_simp⟩) hS6 ?_
    try simp only [Act.put, List.setIfInBounds_toArray, List.set_cons_zero, List.set_cons_succ]
    refine wpAnyH_done (by kernel_rfl) ?_ _
    have K6 := Lib.hid hS6
    have QP := Lib.hid (QP.out.bel hS6)
    have QR := Lib.hid (QR.out.bel hS6)
    obtain ⟨W, hW⟩ : ∃ W, W = v6 := ⟨_, rfl⟩
    rw [← hW] at K6 QP QR ⊢
    clear hW hS0 hS1 hS2 hS3 hS4 hS5 hS6
    rcases fst_ways (a := chk zs ps) (b := plE zs false f) (c := plE zs false f) (d := argE true) with hE | ⟨z1, z2, z3, z4⟩
    · have XE := Lib.hid (XG.out.trans (fst5 _ _ _ _ _ hE))
      obtain ⟨E, hEe⟩ : ∃ E, fstE [chk zs ps, plE zs false f, plE zs false f, argE true] = E := ⟨_, rfl⟩
      rw [hEe] at hE XE ⊢
      have n1 : (E == 0) = false := by simpa using hE
      have n2 : (E != 0) = true := by simpa using hE
      clear hEe
      have TH5 := Lib.hid (show W.there (p + 1) 0 ZB.size from bthere QR.out 0 _ (by simp))
      have YI5 := Lib.hid (show (Try.prog.info? 26).map (·.size) = some ZB.size from info_bank)
      have YO5 := Lib.hid (show ZB.all (·.oneCell') = true from one5 rfl)
      have BE := Lib.hid (bel_setCells (B0.out.trans K6.out) (show w.heap.size ≤ p + 1 by have := HP.out; omega) 0 ZB.toList)
      have BL := Lib.hid (Pm.bwhole (vs := ZB.toList) QR.out rfl)
      go_wp2_with ((with_reducible refine wpList_store_mid ?_ 26 (.tmp 8) (.tmp 40) ?_ (p + 1) 0 ZB ?_ ?_ TH5.out YI5.out YO5.out ?_); rfl; rfl; rfl; rfl)
      refine bodyPost_ret (v := .tuple #[.agg ZB, .int .i64 E]) (Pm.res_ci rfl _ _ ⟨p + 1, 0, none⟩ (.agg ZB) (.int .i64 E) rfl rfl (Pm.load_b (C := ZB.toList) BL.out uB rfl info_bank)) rfl ⟨ZB.toList, by rw [XE.out], ?_⟩
      rw [xZ_no (by rw [XE.out]; exact hE), xP_no (by rw [XE.out]; exact hE)]
      exact nb_zero BE.out
    · exact absurd z4 (by decide)
  · skip
    have XG := Lib.hid (show xE zs ps false false f t m 1 = fstE [chk zs ps, plE zs false f, plE zs false t, argE (m == 0), poorE (bal zs ps false f) m] by rw [xE_of]; rw [sendG _ _ _ hft m0]; rfl)
    have hft1 : (f == t) = false := by simpa using hft
    have HFT := Lib.hid hft
    clear hft
    go_enter Try.func51, Try.ntmps51
    go_upto_region 1 with fail
    rw [HW0.out, HP.out]
    refine wp_region_held_drew (S := fun V => Kk.Bel W0 V) (by kernel_rfl) (Kk.Bel.refl _).drew (fun hS0 => ?_)
    obtain ⟨w6, hw6⟩ : ∃ w6, W0.drew = w6 := ⟨_, rfl⟩
    rw [hw6] at hS0 ⊢
    clear hw6
    refine wpAnyH_take (i := 0) (oi := { dst := some 11, op := .load 26 (.tmp 4), type := 26, pos := "ref.go:112", after := #[], guard := none }) (v := .agg Y.toArray) rfl (by kernel_rfl) (by kernel_rfl) (by kernel_rfl) (fun _ _ _ h => h) (yieldsIf_load_mid (by rfl) _ _ rfl _ _ rfl _ _ (fun w h => rng_bel R0.out h) uB rfl iY.out) hS0 ?_
    try simp only [Act.put, List.setIfInBounds_toArray, List.set_cons_zero, List.set_cons_succ]
    refine wpAnyH_take (i := 2) (oi := { dst := some 13, op := .load 26 (.tmp 4), type := 26, pos := "ref.go:112", after := #[], guard := none }) (v := .agg Y.toArray) rfl (by kernel_rfl) (by kernel_rfl) (by kernel_rfl) (fun _ _ _ h => h) (yieldsIf_load_mid (by rfl) _ _ rfl _ _ rfl _ _ (fun w h => rng_bel R0.out h) uB rfl iY.out) hS0 ?_
    try simp only [Act.put, List.setIfInBounds_toArray, List.set_cons_zero, List.set_cons_succ]
    refine wpAnyH_take (i := 3) (oi := { dst := some 14, op := .move (.tmp 1), type := 3, pos := "ref.go:112", after := #[], guard := none }) (v := .int .i64 f) rfl (by kernel_rfl) (by kernel_rfl) (by kernel_rfl) (fun _ _ _ h => h) (Or.inl ⟨by rfl, by intro w hSw; clear hSw; go_simp⟩) hS0 ?_
    try simp only [Act.put, List.setIfInBounds_toArray, List.set_cons_zero, List.set_cons_succ]
    refine wpAnyH_take (i := 5) (oi := { dst := some 16, op := .load 26 (.tmp 4), type := 26, pos := "ref.go:112", after := #[], guard := none }) (v := .agg Y.toArray) rfl (by kernel_rfl) (by kernel_rfl) (by kernel_rfl) (fun _ _ _ h => h) (yieldsIf_load_mid (by rfl) _ _ rfl _ _ rfl _ _ (fun w h => rng_bel R0.out h) uB rfl iY.out) hS0 ?_
    try simp only [Act.put, List.setIfInBounds_toArray, List.set_cons_zero, List.set_cons_succ]
    refine wpAnyH_take (i := 6) (oi := { dst := some 17, op := .move (.tmp 2), type := 3, pos := "ref.go:112", after := #[], guard := none }) (v := .int .i64 t) rfl (by kernel_rfl) (by kernel_rfl) (by kernel_rfl) (fun _ _ _ h => h) (Or.inl ⟨by rfl, by intro w hSw; clear hSw; go_simp⟩) hS0 ?_
    try simp only [Act.put, List.setIfInBounds_toArray, List.set_cons_zero, List.set_cons_succ]
    refine wpAnyH_take (i := 8) (oi := { dst := some 19, op := .move (.tmp 1), type := 3, pos := "ref.go:112", after := #[], guard := none }) (v := .int .i64 f) rfl (by kernel_rfl) (by kernel_rfl) (by kernel_rfl) (fun _ _ _ h => h) (Or.inl ⟨by rfl, by intro w hSw; clear hSw; go_simp⟩) hS0 ?_
    try simp only [Act.put, List.setIfInBounds_toArray, List.set_cons_zero, List.set_cons_succ]
    refine wpAnyH_take (i := 9) (oi := { dst := some 20, op := .move (.tmp 2), type := 3, pos := "ref.go:112", after := #[], guard := none }) (v := .int .i64 t) rfl (by kernel_rfl) (by kernel_rfl) (by kernel_rfl) (fun _ _ _ h => h) (Or.inl ⟨by rfl, by intro w hSw; clear hSw; go_simp⟩) hS0 ?_
    try simp only [Act.put, List.setIfInBounds_toArray, List.set_cons_zero, List.set_cons_succ]
    refine wpAnyH_take (i := 10) (oi := { dst := some 21, op := .binOp .eql 3 (.tmp 19) (.tmp 20) 3, type := 4, pos := "ref.go:112", after := #[{ on := 8, ground := .data }, { on := 9, ground := .data }], guard := none }) (v := .bool false) rfl (by kernel_rfl) (by kernel_rfl) (by kernel_rfl) (fun _ _ _ h => h) (Or.inl ⟨by rfl, by intro w hSw; clear hSw; go_simp⟩) hS0 ?_
    try simp only [Act.put, List.setIfInBounds_toArray, List.set_cons_zero, List.set_cons_succ]
    refine wpAnyH_ready (rs := [1]) (by kernel_rfl) (by simp) ?_
    refine AllReadyH.cons (o := { dst := some 12, op := .call { callee := .value (.func 19), args := #[.tmp 11], argTypes := #[26] }, type := 30, pos := "ref.go:112", after := #[{ on := 0, ground := .data }], guard := none }) rfl (fun K hK => ?_) AllReadyH.nil
    go_simp
    refine (CK.out _ (B0.out.trans hS0)).mono ?_
    rintro e v1 ⟨rfl, kb0⟩
    go_wp2_with fail
    refine hK.out _ _ (hS0.trans kb0) (fun hS1 => ?_)
    clear hK K
    try simp only [Act.put, List.setIfInBounds_toArray, List.set_cons_zero, List.set_cons_succ]
    refine wpAnyH_ready (rs := [4]) (by kernel_rfl) (by simp) ?_
    refine AllReadyH.cons (o := { dst := some 15, op := .call { callee := .value (.func 47), args := #[.tmp 13, .tmp 14], argTypes := #[26, 3] }, type := 30, pos := "ref.go:112", after := #[{ on := 2, ground := .data }, { on := 3, ground := .data }, { on := 1, ground := .chain }], guard := none }) rfl (fun K hK => ?_) AllReadyH.nil
    go_simp
    refine (TH.out f _ (B0.out.trans hS1)).mono ?_
    rintro e v2 ⟨rfl, kb1⟩
    go_wp2_with fail
    refine hK.out _ _ (hS1.trans kb1) (fun hS2 => ?_)
    clear hK K
    try simp only [Act.put, List.setIfInBounds_toArray, List.set_cons_zero, List.set_cons_succ]
    refine wpAnyH_ready (rs := [7]) (by kernel_rfl) (by simp) ?_
    refine AllReadyH.cons (o := { dst := some 18, op := .call { callee := .value (.func 47), args := #[.tmp 16, .tmp 17], argTypes := #[26, 3] }, type := 30, pos := "ref.go:112", after := #[{ on := 5, ground := .data }, { on := 6, ground := .data }, { on := 4, ground := .chain }], guard := none }) rfl (fun K hK => ?_) AllReadyH.nil
    go_simp
    refine (TH.out t _ (B0.out.trans hS2)).mono ?_
    rintro e v3 ⟨rfl, kb2⟩
    go_wp2_with fail
    refine hK.out _ _ (hS2.trans kb2) (fun hS3 => ?_)
    clear hK K
    try simp only [Act.put, List.setIfInBounds_toArray, List.set_cons_zero, List.set_cons_succ]
    refine wpAnyH_take (i := 11) (oi := { dst := some 22, op := .move (.tmp 21), type := 4, pos := "ref.go:112", after := #[{ on := 10, ground := .data }, { on := 7, ground := .chain }], guard := none }) (v := .bool false) rfl (by kernel_rfl) (by kernel_rfl) (by kernel_rfl) (fun _ _ _ h => h) (Or.inl ⟨by rfl, by intro w hSw; clear hSw; go_simp⟩) hS3 ?_
    try simp only [Act.put, List.setIfInBounds_toArray, List.set_cons_zero, List.set_cons_succ]
    refine wpAnyH_take (i := 12) (oi := { dst := some 23, op := .move (.tmp 3), type := 23, pos := "ref.go:112", after := #[{ on := 11, ground := .guard }], guard := some (11, false) }) (v := .int .u64 m) rfl (by kernel_rfl) (by kernel_rfl) (by kernel_rfl) (fun _ _ _ h => h) (Or.inl ⟨by rfl, by intro w hSw; clear hSw; go_simp⟩) hS3 ?_
    try simp only [Act.put, List.setIfInBounds_toArray, List.set_cons_zero, List.set_cons_succ]
    refine wpAnyH_take (i := 13) (oi := { dst := some 24, op := .binOp .eql 23 (.tmp 23) (.const (Value.int IntKind.u64 0)) 23, type := 4, pos := "ref.go:112", after := #[{ on := 12, ground := .data }, { on := 11, ground := .guard }], guard := some (11, false) }) (v := .bool (m == 0)) rfl (by kernel_rfl) (by kernel_rfl) (by kernel_rfl) (fun _ _ _ h => h) (Or.inl ⟨by rfl, by intro w hSw; clear hSw; go_simp⟩) hS3 ?_
    try simp only [Act.put, List.setIfInBounds_toArray, List.set_cons_zero, List.set_cons_succ]
    refine wpAnyH_take (i := 14) (oi := { dst := some 25, op := .pick (.tmp 22) (.const (Value.bool true)) (.tmp 24), type := 4, pos := "ref.go:112", after := #[{ on := 11, ground := .data }, { on := 13, ground := .data }], guard := none }) (v := .bool (m == 0)) rfl (by kernel_rfl) (by kernel_rfl) (by kernel_rfl) (fun _ _ _ h => h) (Or.inl ⟨by rfl, by intro w hSw; clear hSw; go_simp⟩) hS3 ?_
    try simp only [Act.put, List.setIfInBounds_toArray, List.set_cons_zero, List.set_cons_succ]
    refine wpAnyH_ready (rs := [15]) (by kernel_rfl) (by simp) ?_
    refine AllReadyH.cons (o := { dst := some 26, op := .call { callee := .value (.func 95), args := #[.tmp 25], argTypes := #[4] }, type := 30, pos := "ref.go:112", after := #[{ on := 14, ground := .data }, { on := 11, ground := .chain }], guard := none }) rfl (fun K hK => ?_) AllReadyH.nil
    go_simp
    refine (argR' (m == 0) _).mono ?_
    rintro e v4 ⟨rfl, kb3⟩
    go_wp2_with fail
    refine hK.out _ _ (hS3.trans kb3) (fun hS4 => ?_)
    clear hK K
    try simp only [Act.put, List.setIfInBounds_toArray, List.set_cons_zero, List.set_cons_succ]
    refine wpAnyH_ready (rs := [16]) (by kernel_rfl) (by simp) ?_
    refine AllReadyH.cons (o := { dst := some 27, op := .buildSlice 134 4 #[(0, .tmp 12), (1, .tmp 15), (2, .tmp 18), (3, .tmp 26)], type := 134, pos := "ref.go:112", after := #[{ on := 1, ground := .data }, { on := 4, ground := .data }, { on := 7, ground := .data }, { on := 15, ground := .data }], guard := none }) rfl (fun K hK => ?_) AllReadyH.nil
    go_simp
    refine hK.out _ _ (hS4.alloc _) (fun hS5 => ?_)
    clear hK K
    try simp only [Act.put, List.setIfInBounds_toArray, List.set_cons_zero, List.set_cons_succ]
    refine wpAnyH_ready (rs := [17]) (by kernel_rfl) (by simp) ?_
    refine AllReadyH.cons (o := { dst := some 28, op := .call { callee := .value (.func 94), args := #[.tmp 27], argTypes := #[134] }, type := 30, pos := "ref.go:112", after := #[{ on := 16, ground := .data }, { on := 15, ground := .chain }], guard := none }) rfl (fun K hK => ?_) AllReadyH.nil
    go_simp
    refine (firstR _ 4 _ [chk zs ps, plE zs false f, plE zs false t, argE (m == 0)] _ rfl (by decide) (errs4 _ _ _ _ _ rfl)).mono ?_
    rintro e v6 ⟨rfl, kb5⟩
    go_wp2_with fail
    refine hK.out _ _ (hS5.trans kb5) (fun hS6 => ?_)
    clear hK K
    try simp only [Act.put, List.setIfInBounds_toArray, List.set_cons_zero, List.set_cons_succ]
    refine wpAnyH_take (i := 18) (oi := { dst := some 10, op := .assign (.tmp 28), type := 30, pos := "ref.go:112", after := #[{ on := 17, ground := .data }, { on := 17, ground := .chain }, { on := 0, ground := .phase }, { on := 1, ground := .phase }, { on := 2, ground := .phase }, { on := 3, ground := .phase }, { on := 4, ground := .phase }, { on := 5, ground := .phase }, { on := 6, ground := .phase }, { on := 7, ground := .phase }, { on := 8, ground := .phase }, { on := 9, ground := .phase }, { on := 10, ground := .phase }, { on := 11, ground := .phase }, { on := 12, ground := .phase }, { on := 13, ground := .phase }, { on := 14, ground := .phase }, { on := 15, ground := .phase }, { on := 16, ground := .phase }, { on := 17, ground := .phase }], guard := none }) (v := .int .i64 (fstE [chk zs ps, plE zs false f, plE zs false t, argE (m == 0)])) rfl (by kernel_rfl) (by kernel_rfl) (by kernel_rfl) (fun _ _ _ h => h) (Or.inl ⟨by rfl, by intro w hSw; clear hSw; go_simp⟩) hS6 ?_
    try simp only [Act.put, List.setIfInBounds_toArray, List.set_cons_zero, List.set_cons_succ]
    refine wpAnyH_done (by kernel_rfl) ?_ _
    have K6 := Lib.hid hS6
    have QP := Lib.hid (QP.out.bel hS6)
    have QR := Lib.hid (QR.out.bel hS6)
    obtain ⟨W, hW⟩ : ∃ W, W = v6 := ⟨_, rfl⟩
    rw [← hW] at K6 QP QR ⊢
    clear hW hS0 hS1 hS2 hS3 hS4 hS5 hS6
    rcases fst_ways (a := chk zs ps) (b := plE zs false f) (c := plE zs false t) (d := argE (m == 0)) with hE | ⟨z1, z2, z3, z4⟩
    · have XE := Lib.hid (XG.out.trans (fst5 _ _ _ _ _ hE))
      obtain ⟨E, hEe⟩ : ∃ E, fstE [chk zs ps, plE zs false f, plE zs false t, argE (m == 0)] = E := ⟨_, rfl⟩
      rw [hEe] at hE XE ⊢
      have n1 : (E == 0) = false := by simpa using hE
      have n2 : (E != 0) = true := by simpa using hE
      clear hEe
      have TH5 := Lib.hid (show W.there (p + 1) 0 ZB.size from bthere QR.out 0 _ (by simp))
      have YI5 := Lib.hid (show (Try.prog.info? 26).map (·.size) = some ZB.size from info_bank)
      have YO5 := Lib.hid (show ZB.all (·.oneCell') = true from one5 rfl)
      have BE := Lib.hid (bel_setCells (B0.out.trans K6.out) (show w.heap.size ≤ p + 1 by have := HP.out; omega) 0 ZB.toList)
      have BL := Lib.hid (Pm.bwhole (vs := ZB.toList) QR.out rfl)
      go_wp2_with ((with_reducible refine wpList_store_mid ?_ 26 (.tmp 8) (.tmp 40) ?_ (p + 1) 0 ZB ?_ ?_ TH5.out YI5.out YO5.out ?_); rfl; rfl; rfl; rfl)
      refine bodyPost_ret (v := .tuple #[.agg ZB, .int .i64 E]) (Pm.res_ci rfl _ _ ⟨p + 1, 0, none⟩ (.agg ZB) (.int .i64 E) rfl rfl (Pm.load_b (C := ZB.toList) BL.out uB rfl info_bank)) rfl ⟨ZB.toList, by rw [XE.out], ?_⟩
      rw [xZ_no (by rw [XE.out]; exact hE), xP_no (by rw [XE.out]; exact hE)]
      exact nb_zero BE.out
    · obtain ⟨i, rfl, hi⟩ := plA_ok z2
      obtain ⟨j, rfl, hj⟩ := plA_ok z3
      rw [show fstE [chk zs ps, plE zs false i, plE zs false j, argE (m == 0)] = 0 by rw [z1, z2, z3, z4]; rfl]
      rw [z1, z2, z3, z4] at XG
      obtain ⟨A, c, eY, hs, hz, hp4, h4, hn⟩ := BH.out
      have EY := Lib.hid eY
      clear eY
      obtain ⟨L, hL⟩ : ∃ L, zs.length = L := ⟨_, rfl⟩
      have hiL : i < zs.length := hi
      have hjL : j < zs.length := hj
      obtain ⟨x, hx⟩ : ∃ x, bal zs ps false i = x := ⟨_, rfl⟩
      rw [hx] at XG
      have hx2 : zs.getD i 0 = x := by rw [← hx]; simp [bal]
      have cS : W.cell? ⟨p, 0, none⟩ = some (.slice A zs.length c) := QP.out.cell 0 (by rw [EY.out]; rfl)
      obtain ⟨ga, oa, rfl, _, cX⟩ := (hs.bel (B0.out.trans K6.out)).ints.cell hiL
      rw [hx2] at cX
      have hi4 : (i : Int) < (zs.length : Int) := by omega
      have hi0 : (0 : Int) ≤ (i : Int) := by omega
      go_wp2_with fail
      refine (poorR' _ _ _).mono ?_
      rintro e w8 ⟨rfl, kb⟩
      have K6 := Lib.hid (K6.out.trans kb)
      have QP := Lib.hid (QP.out.bel kb)
      have QR := Lib.hid (QR.out.bel kb)
      clear cX kb cS
      obtain ⟨W, hW⟩ : ∃ W, W = w8 := ⟨_, rfl⟩
      rw [← hW] at K6 QP QR ⊢
      clear hW
      have hx0 := bal_words hz hp4 false i
      rw [hx] at hx0
      by_cases hxm : x < m
      · obtain ⟨E, hEe⟩ : ∃ E : Int, E = 13 := ⟨_, rfl⟩
        rw [show poorE x m = E by rw [hEe]; exact if_pos hxm] at XG ⊢
        have hE : ¬ E = 0 := by rw [hEe]; decide
        have XE := Lib.hid (XG.out.trans (show fstE [0, 0, 0, 0, E] = E by rw [hEe]; rfl))
        have n1 : (E == 0) = false := by simpa using hE
        have n2 : (E != 0) = true := by simpa using hE
        clear hEe
        have TH5 := Lib.hid (show W.there (p + 1) 0 ZB.size from bthere QR.out 0 _ (by simp))
        have YI5 := Lib.hid (show (Try.prog.info? 26).map (·.size) = some ZB.size from info_bank)
        have YO5 := Lib.hid (show ZB.all (·.oneCell') = true from one5 rfl)
        have BE := Lib.hid (bel_setCells (B0.out.trans K6.out) (show w.heap.size ≤ p + 1 by have := HP.out; omega) 0 ZB.toList)
        have BL := Lib.hid (Pm.bwhole (vs := ZB.toList) QR.out rfl)
        go_wp2_with ((with_reducible refine wpList_store_mid ?_ 26 (.tmp 8) (.tmp 40) ?_ (p + 1) 0 ZB ?_ ?_ TH5.out YI5.out YO5.out ?_); rfl; rfl; rfl; rfl)
        refine bodyPost_ret (v := .tuple #[.agg ZB, .int .i64 E]) (Pm.res_ci rfl _ _ ⟨p + 1, 0, none⟩ (.agg ZB) (.int .i64 E) rfl rfl (Pm.load_b (C := ZB.toList) BL.out uB rfl info_bank)) rfl ⟨ZB.toList, by rw [XE.out], ?_⟩
        rw [xZ_no (by rw [XE.out]; exact hE), xP_no (by rw [XE.out]; exact hE)]
        exact nb_zero BE.out
      · rw [show poorE x m = 0 from if_neg hxm] at XG ⊢
        have XE := Lib.hid (XG.out.trans (show fstE [0, 0, 0, 0, 0] = 0 from rfl))
        have RP := Lib.hid (rngB QP.out)
        have CB := Lib.hid (fun V h => copyBankV Y zs ps V h)
        go_wp2_with ((with_reducible refine wpList_load_mid ?_ 26 (.tmp 4) ?_ p 0 ?_ Y _ RP.out uB ?_ iY.out ?_); rfl; rfl; rfl; rfl)
        refine (CB.out _ (BH.out.bel (B0.out.trans K6.out))).mono ?_
        rintro e w9 ⟨V, rfl, hfb⟩
        obtain ⟨v, rfl, hfr⟩ := hfb
        obtain ⟨A2, cv, rfl, hsu⟩ := hfr.su
        have QP9 := Lib.hid (QP.out.bel hfr.2)
        have QR9 := Lib.hid (QR.out.bel hfr.2)
        have hzl := (chk_ok z1).1
        obtain ⟨g, o, rfl, hg, _⟩ := hsu.ints.cell (i := 0) hzl
        obtain rfl : o = 0 := by
          rcases hfr.1.2 with ⟨h1, _⟩ | ⟨_, _, _, h1, _⟩
          · cases h1
          · injection h1 with h1; injection h1 with h1; injection h1
        obtain ⟨X, hX⟩ : ∃ X, X = bkC (.slice (some ⟨g, 0, none⟩) zs.length cv) ps := ⟨_, rfl⟩
        rw [← hX]
        have XL := Lib.hid (show X.length = 5 by rw [hX]; exact bkC_len h4)
        have XOne := Lib.hid (show X.toArray.all (·.oneCell') = true by rw [hX]; exact all_oneCell_toArray bkC_one)
        have TH6 := Lib.hid (show w9.there p 0 X.toArray.size from blk_there QP9.out YL.out XL.out)
        have XI := Lib.hid (show (Try.prog.info? 26).map (·.size) = some X.toArray.size by rw [List.size_toArray, XL.out]; exact info_bank)
        have HX := Lib.hid hX
        have FR := Lib.hid hfr
        clear hfr hsu hg hX
        go_upto_region 7 with ((with_reducible refine wpList_store_mid ?_ 26 (.tmp 4) (.tmp 43) ?_ p 0 X.toArray ?_ ?_ TH6.out XI.out XOne.out ?_); rfl; rfl; rfl; rfl)
        have SX : Hid (Sr w p g cv zs (bkC (.slice (some ⟨g, 0, none⟩) zs.length cv) ps) (w9.setCells p 0 X)) := Lib.hid (by
          rw [← HX.out]
          refine ⟨bel_setCells (B0.out.trans (K6.out.trans FR.out.2)) (by rw [HP.out]; exact Nat.le_refl _) 0 _, blk5 QP9.out YL.out _ XL.out, QR9.out.kep (kep_setCells p X 0 w9) (by omega), ?_, by rw [HP.out]; exact Nat.le_refl _⟩
          have h1 := Kk.Kep.owns (kep_setCells p X 0 w9) (fun k hk e => QP9.out.not_row (by decide) FR.out.1 (by rw [hk, e])) FR.out.1
          exact Kk.owns_mono h1 (Below.size (B0.out.trans K6.out)))
        obtain ⟨W, hW⟩ : ∃ W, w9.setCells p 0 X = W := ⟨_, rfl⟩
        rw [hW] at SX
        rw [hW]
        clear hW TH6 XOne XI QP9 QR9 FR CB RP QP QR K6
        obtain ⟨L, hL⟩ : ∃ L, zs.length = L := ⟨_, rfl⟩
        have HL := Lib.hid hL
        rw [hL] at SX
        have hxm2 : m ≤ x := by omega
        obtain ⟨y, hy⟩ : ∃ y, x - m = y := ⟨_, rfl⟩
        have e1 : IntKind.u64.wrap (x - m) = y := by rw [IntKind.wrap_u64]; omega
        obtain ⟨z, hz2⟩ : ∃ z, bal zs ps false j = z := ⟨_, rfl⟩
        have hsum := (chk_ok z1).2.2
        have g1 := bal_le hz hp4 false i
        have g2 := bal_le hz hp4 false j
        have g3 := bal_words hz hp4 false j
        rw [hx] at g1
        rw [hz2] at g2 g3
        obtain ⟨u, hu⟩ : ∃ u, z + m = u := ⟨_, rfl⟩
        have e2 : IntKind.u64.wrap (z + m) = u := by rw [IntKind.wrap_u64]; omega
        have hz3 : zs.getD j 0 = z := by rw [← hz2]; simp [bal]
        have hj0 : (0 : Int) ≤ (j : Int) := by omega
        have hiL4 : (i : Int) < (L : Int) := by omega
        have hjL4 : (j : Int) < (L : Int) := by omega
        have hij : ¬ i = j := fun e => HFT.out (by rw [e])
        have hz4 : (zs.set i y).getD j 0 = z := by rw [← hz3]; exact getD_set_ne _ _ hij
        have HX2 := Lib.hid (And.intro hx (And.intro hz2 (And.intro hy hu)))
        clear hL hz hp4 hsum g1 g2 g3 hz2 hz3 hy hu hx
        have cR := (SX.out.cellZ (k := i) (by first | omega | (simp; omega))).1
        have fR := (SX.out.cellZ (k := i) (by first | omega | (simp; omega))).2
        rw [hx2] at cR
        refine wp_region_held_drew (S := fun V => V.cell? ⟨p, 0, none⟩ = some (.slice (some ⟨g, 0, none⟩) L cv)) (by kernel_rfl) (cell_bel SX.out.cellS (Kk.Bel.refl _).drew) (fun hS0 => ?_)
        have SX := Lib.hid (SX.out.kept (Kk.Bel.refl _).drew)
        have cR := cell_bel cR (Kk.Bel.refl _).drew
        have fR := (SX.out.cellZ (k := i) (by first | omega | (simp; omega))).2
        obtain ⟨W1, hW1⟩ : ∃ W1, World.drew W = W1 := ⟨_, rfl⟩
        rw [hW1] at hS0 SX cR fR ⊢
        clear hW1
        refine wpAnyH_take (i := 0) (oi := { dst := some 44, op := .fieldAddr 26 (.tmp 4) 0, type := 0, pos := "ref.go:120", after := #[], guard := none }) (v := .pointer (some ⟨p, 0, none⟩)) rfl (by kernel_rfl) (by kernel_rfl) (by kernel_rfl) (fun _ _ _ h => h) (Or.inl ⟨by rfl, by intro w hSw; clear hSw; go_simp⟩) hS0 ?_
        try simp only [Act.put, List.setIfInBounds_toArray, List.set_cons_zero, List.set_cons_succ]
        refine wpAnyH_take (i := 1) (oi := { dst := some 45, op := .load 22 (.tmp 44), type := 22, pos := "ref.go:120", after := #[{ on := 0, ground := .data }], guard := none }) (v := .slice (some ⟨g, 0, none⟩) L cv) rfl (by kernel_rfl) (by kernel_rfl) (by kernel_rfl) (fun _ _ _ h => h) (Or.inl ⟨by rfl, by intro w h; have hcell := (h); clear h; go_simp⟩) hS0 ?_
        try simp only [Act.put, List.setIfInBounds_toArray, List.set_cons_zero, List.set_cons_succ]
        refine wpAnyH_take (i := 2) (oi := { dst := some 46, op := .move (.tmp 1), type := 3, pos := "ref.go:120", after := #[], guard := none }) (v := .int .i64 i) rfl (by kernel_rfl) (by kernel_rfl) (by kernel_rfl) (fun _ _ _ h => h) (Or.inl ⟨by rfl, by intro w hSw; clear hSw; go_simp⟩) hS0 ?_
        try simp only [Act.put, List.setIfInBounds_toArray, List.set_cons_zero, List.set_cons_succ]
        refine wpAnyH_take (i := 3) (oi := { dst := some 47, op := .fieldAddr 26 (.tmp 4) 0, type := 0, pos := "ref.go:120", after := #[], guard := none }) (v := .pointer (some ⟨p, 0, none⟩)) rfl (by kernel_rfl) (by kernel_rfl) (by kernel_rfl) (fun _ _ _ h => h) (Or.inl ⟨by rfl, by intro w hSw; clear hSw; go_simp⟩) hS0 ?_
        try simp only [Act.put, List.setIfInBounds_toArray, List.set_cons_zero, List.set_cons_succ]
        refine wpAnyH_take (i := 4) (oi := { dst := some 48, op := .load 22 (.tmp 47), type := 22, pos := "ref.go:120", after := #[{ on := 3, ground := .data }], guard := none }) (v := .slice (some ⟨g, 0, none⟩) L cv) rfl (by kernel_rfl) (by kernel_rfl) (by kernel_rfl) (fun _ _ _ h => h) (Or.inl ⟨by rfl, by intro w h; have hcell := (h); clear h; go_simp⟩) hS0 ?_
        try simp only [Act.put, List.setIfInBounds_toArray, List.set_cons_zero, List.set_cons_succ]
        refine wpAnyH_take (i := 5) (oi := { dst := some 49, op := .move (.tmp 1), type := 3, pos := "ref.go:120", after := #[], guard := none }) (v := .int .i64 i) rfl (by kernel_rfl) (by kernel_rfl) (by kernel_rfl) (fun _ _ _ h => h) (Or.inl ⟨by rfl, by intro w hSw; clear hSw; go_simp⟩) hS0 ?_
        try simp only [Act.put, List.setIfInBounds_toArray, List.set_cons_zero, List.set_cons_succ]
        refine wpAnyH_take (i := 6) (oi := { dst := some 50, op := .indexAddr 22 (.tmp 48) (.tmp 49), type := 0, pos := "ref.go:120", after := #[{ on := 4, ground := .data }, { on := 5, ground := .data }], guard := none }) (v := .pointer (some ⟨g, i, none⟩)) rfl (by kernel_rfl) (by kernel_rfl) (by kernel_rfl) (fun _ _ _ h => h) (Or.inl ⟨by rfl, by intro w hSw; clear hSw; go_simp⟩) hS0 ?_
        try simp only [Act.put, List.setIfInBounds_toArray, List.set_cons_zero, List.set_cons_succ]
        refine wpAnyH_take (i := 8) (oi := { dst := some 52, op := .move (.tmp 3), type := 23, pos := "ref.go:120", after := #[], guard := none }) (v := .int .u64 m) rfl (by kernel_rfl) (by kernel_rfl) (by kernel_rfl) (fun _ _ _ h => h) (Or.inl ⟨by rfl, by intro w hSw; clear hSw; go_simp⟩) hS0 ?_
        try simp only [Act.put, List.setIfInBounds_toArray, List.set_cons_zero, List.set_cons_succ]
        refine wpAnyH_ready (rs := [7]) (by kernel_rfl) (by simp) ?_
        refine AllReadyH.cons (o := { dst := some 51, op := .load 23 (.tmp 50), type := 23, pos := "ref.go:120", after := #[{ on := 6, ground := .data }], guard := none }) rfl (fun K hK => ?_) AllReadyH.nil
        go_simp
        refine hK.out _ _ (hS0) (fun hS1 => ?_)
        clear hK K
        try simp only [Act.put, List.setIfInBounds_toArray, List.set_cons_zero, List.set_cons_succ]
        refine wpAnyH_take (i := 9) (oi := { dst := some 53, op := .binOp .sub 23 (.tmp 51) (.tmp 52) 23, type := 23, pos := "ref.go:120", after := #[{ on := 7, ground := .data }, { on := 8, ground := .data }], guard := none }) (v := .int .u64 y) rfl (by kernel_rfl) (by kernel_rfl) (by kernel_rfl) (fun _ _ _ h => h) (Or.inl ⟨by rfl, by intro w hSw; clear hSw; go_simp⟩) hS1 ?_
        try simp only [Act.put, List.setIfInBounds_toArray, List.set_cons_zero, List.set_cons_succ]
        refine wpAnyH_take (i := 10) (oi := { dst := some 54, op := .indexAddr 22 (.tmp 45) (.tmp 46), type := 0, pos := "ref.go:120", after := #[{ on := 1, ground := .data }, { on := 2, ground := .data }, { on := 0, ground := .phase }, { on := 1, ground := .phase }, { on := 2, ground := .phase }, { on := 3, ground := .phase }, { on := 4, ground := .phase }, { on := 5, ground := .phase }, { on := 6, ground := .phase }, { on := 7, ground := .phase }, { on := 8, ground := .phase }, { on := 9, ground := .phase }], guard := none }) (v := .pointer (some ⟨g, i, none⟩)) rfl (by kernel_rfl) (by kernel_rfl) (by kernel_rfl) (fun _ _ _ h => h) (Or.inl ⟨by rfl, by intro w hSw; clear hSw; go_simp⟩) hS1 ?_
        try simp only [Act.put, List.setIfInBounds_toArray, List.set_cons_zero, List.set_cons_succ]
        refine wpAnyH_ready (rs := [11]) (by kernel_rfl) (by simp) ?_
        refine AllReadyH.cons (o := { dst := none, op := .store 23 (.tmp 54) (.tmp 53), type := 0, pos := "ref.go:120", after := #[{ on := 10, ground := .data }, { on := 9, ground := .data }, { on := 0, ground := .phase }, { on := 1, ground := .phase }, { on := 2, ground := .phase }, { on := 3, ground := .phase }, { on := 4, ground := .phase }, { on := 5, ground := .phase }, { on := 6, ground := .phase }, { on := 7, ground := .phase }, { on := 8, ground := .phase }, { on := 9, ground := .phase }], guard := none }) rfl (fun K hK => ?_) AllReadyH.nil
        go_simp
        refine hK.out _ _ ((SX.out.setZ i (y)).cellS) (fun hS2 => ?_)
        clear hK K
        try simp only [Act.put, List.setIfInBounds_toArray, List.set_cons_zero, List.set_cons_succ]
        refine wpAnyH_done (by kernel_rfl) ?_ _
        have SX := Lib.hid (SX.out.setZ i (y))
        obtain ⟨W, hW⟩ : ∃ W, W1.setCell ⟨g, i, none⟩ (.int .u64 (y)) = W := ⟨_, rfl⟩
        rw [hW] at SX ⊢
        clear hW cR fR hS0 hS1 hS2
        go_upto_region 8 with fail
        have cR := (SX.out.cellZ (k := j) (by first | omega | (simp; omega))).1
        have fR := (SX.out.cellZ (k := j) (by first | omega | (simp; omega))).2
        rw [hz4] at cR
        refine wp_region_held_drew (S := fun V => V.cell? ⟨p, 0, none⟩ = some (.slice (some ⟨g, 0, none⟩) L cv)) (by kernel_rfl) (cell_bel SX.out.cellS (Kk.Bel.refl _).drew) (fun hS0 => ?_)
        have SX := Lib.hid (SX.out.kept (Kk.Bel.refl _).drew)
        have cR := cell_bel cR (Kk.Bel.refl _).drew
        have fR := (SX.out.cellZ (k := j) (by first | omega | (simp; omega))).2
        obtain ⟨W1, hW1⟩ : ∃ W1, World.drew W = W1 := ⟨_, rfl⟩
        rw [hW1] at hS0 SX cR fR ⊢
        clear hW1
        refine wpAnyH_take (i := 0) (oi := { dst := some 55, op := .fieldAddr 26 (.tmp 4) 0, type := 0, pos := "ref.go:121", after := #[], guard := none }) (v := .pointer (some ⟨p, 0, none⟩)) rfl (by kernel_rfl) (by kernel_rfl) (by kernel_rfl) (fun _ _ _ h => h) (Or.inl ⟨by rfl, by intro w hSw; clear hSw; go_simp⟩) hS0 ?_
        try simp only [Act.put, List.setIfInBounds_toArray, List.set_cons_zero, List.set_cons_succ]
        refine wpAnyH_take (i := 1) (oi := { dst := some 56, op := .load 22 (.tmp 55), type := 22, pos := "ref.go:121", after := #[{ on := 0, ground := .data }], guard := none }) (v := .slice (some ⟨g, 0, none⟩) L cv) rfl (by kernel_rfl) (by kernel_rfl) (by kernel_rfl) (fun _ _ _ h => h) (Or.inl ⟨by rfl, by intro w h; have hcell := (h); clear h; go_simp⟩) hS0 ?_
        try simp only [Act.put, List.setIfInBounds_toArray, List.set_cons_zero, List.set_cons_succ]
        refine wpAnyH_take (i := 2) (oi := { dst := some 57, op := .move (.tmp 2), type := 3, pos := "ref.go:121", after := #[], guard := none }) (v := .int .i64 j) rfl (by kernel_rfl) (by kernel_rfl) (by kernel_rfl) (fun _ _ _ h => h) (Or.inl ⟨by rfl, by intro w hSw; clear hSw; go_simp⟩) hS0 ?_
        try simp only [Act.put, List.setIfInBounds_toArray, List.set_cons_zero, List.set_cons_succ]
        refine wpAnyH_take (i := 3) (oi := { dst := some 58, op := .fieldAddr 26 (.tmp 4) 0, type := 0, pos := "ref.go:121", after := #[], guard := none }) (v := .pointer (some ⟨p, 0, none⟩)) rfl (by kernel_rfl) (by kernel_rfl) (by kernel_rfl) (fun _ _ _ h => h) (Or.inl ⟨by rfl, by intro w hSw; clear hSw; go_simp⟩) hS0 ?_
        try simp only [Act.put, List.setIfInBounds_toArray, List.set_cons_zero, List.set_cons_succ]
        refine wpAnyH_take (i := 4) (oi := { dst := some 59, op := .load 22 (.tmp 58), type := 22, pos := "ref.go:121", after := #[{ on := 3, ground := .data }], guard := none }) (v := .slice (some ⟨g, 0, none⟩) L cv) rfl (by kernel_rfl) (by kernel_rfl) (by kernel_rfl) (fun _ _ _ h => h) (Or.inl ⟨by rfl, by intro w h; have hcell := (h); clear h; go_simp⟩) hS0 ?_
        try simp only [Act.put, List.setIfInBounds_toArray, List.set_cons_zero, List.set_cons_succ]
        refine wpAnyH_take (i := 5) (oi := { dst := some 60, op := .move (.tmp 2), type := 3, pos := "ref.go:121", after := #[], guard := none }) (v := .int .i64 j) rfl (by kernel_rfl) (by kernel_rfl) (by kernel_rfl) (fun _ _ _ h => h) (Or.inl ⟨by rfl, by intro w hSw; clear hSw; go_simp⟩) hS0 ?_
        try simp only [Act.put, List.setIfInBounds_toArray, List.set_cons_zero, List.set_cons_succ]
        refine wpAnyH_take (i := 6) (oi := { dst := some 61, op := .indexAddr 22 (.tmp 59) (.tmp 60), type := 0, pos := "ref.go:121", after := #[{ on := 4, ground := .data }, { on := 5, ground := .data }], guard := none }) (v := .pointer (some ⟨g, j, none⟩)) rfl (by kernel_rfl) (by kernel_rfl) (by kernel_rfl) (fun _ _ _ h => h) (Or.inl ⟨by rfl, by intro w hSw; clear hSw; go_simp⟩) hS0 ?_
        try simp only [Act.put, List.setIfInBounds_toArray, List.set_cons_zero, List.set_cons_succ]
        refine wpAnyH_take (i := 8) (oi := { dst := some 63, op := .move (.tmp 3), type := 23, pos := "ref.go:121", after := #[], guard := none }) (v := .int .u64 m) rfl (by kernel_rfl) (by kernel_rfl) (by kernel_rfl) (fun _ _ _ h => h) (Or.inl ⟨by rfl, by intro w hSw; clear hSw; go_simp⟩) hS0 ?_
        try simp only [Act.put, List.setIfInBounds_toArray, List.set_cons_zero, List.set_cons_succ]
        refine wpAnyH_ready (rs := [7]) (by kernel_rfl) (by simp) ?_
        refine AllReadyH.cons (o := { dst := some 62, op := .load 23 (.tmp 61), type := 23, pos := "ref.go:121", after := #[{ on := 6, ground := .data }], guard := none }) rfl (fun K hK => ?_) AllReadyH.nil
        go_simp
        refine hK.out _ _ (hS0) (fun hS1 => ?_)
        clear hK K
        try simp only [Act.put, List.setIfInBounds_toArray, List.set_cons_zero, List.set_cons_succ]
        refine wpAnyH_take (i := 9) (oi := { dst := some 64, op := .binOp .add 23 (.tmp 62) (.tmp 63) 23, type := 23, pos := "ref.go:121", after := #[{ on := 7, ground := .data }, { on := 8, ground := .data }], guard := none }) (v := .int .u64 u) rfl (by kernel_rfl) (by kernel_rfl) (by kernel_rfl) (fun _ _ _ h => h) (Or.inl ⟨by rfl, by intro w hSw; clear hSw; go_simp⟩) hS1 ?_
        try simp only [Act.put, List.setIfInBounds_toArray, List.set_cons_zero, List.set_cons_succ]
        refine wpAnyH_take (i := 10) (oi := { dst := some 65, op := .indexAddr 22 (.tmp 56) (.tmp 57), type := 0, pos := "ref.go:121", after := #[{ on := 1, ground := .data }, { on := 2, ground := .data }, { on := 0, ground := .phase }, { on := 1, ground := .phase }, { on := 2, ground := .phase }, { on := 3, ground := .phase }, { on := 4, ground := .phase }, { on := 5, ground := .phase }, { on := 6, ground := .phase }, { on := 7, ground := .phase }, { on := 8, ground := .phase }, { on := 9, ground := .phase }], guard := none }) (v := .pointer (some ⟨g, j, none⟩)) rfl (by kernel_rfl) (by kernel_rfl) (by kernel_rfl) (fun _ _ _ h => h) (Or.inl ⟨by rfl, by intro w hSw; clear hSw; go_simp⟩) hS1 ?_
        try simp only [Act.put, List.setIfInBounds_toArray, List.set_cons_zero, List.set_cons_succ]
        refine wpAnyH_ready (rs := [11]) (by kernel_rfl) (by simp) ?_
        refine AllReadyH.cons (o := { dst := none, op := .store 23 (.tmp 65) (.tmp 64), type := 0, pos := "ref.go:121", after := #[{ on := 10, ground := .data }, { on := 9, ground := .data }, { on := 0, ground := .phase }, { on := 1, ground := .phase }, { on := 2, ground := .phase }, { on := 3, ground := .phase }, { on := 4, ground := .phase }, { on := 5, ground := .phase }, { on := 6, ground := .phase }, { on := 7, ground := .phase }, { on := 8, ground := .phase }, { on := 9, ground := .phase }], guard := none }) rfl (fun K hK => ?_) AllReadyH.nil
        go_simp
        refine hK.out _ _ ((SX.out.setZ j (u)).cellS) (fun hS2 => ?_)
        clear hK K
        try simp only [Act.put, List.setIfInBounds_toArray, List.set_cons_zero, List.set_cons_succ]
        refine wpAnyH_done (by kernel_rfl) ?_ _
        have SX := Lib.hid (SX.out.setZ j (u))
        obtain ⟨W, hW⟩ : ∃ W, W1.setCell ⟨g, j, none⟩ (.int .u64 (u)) = W := ⟨_, rfl⟩
        rw [hW] at SX ⊢
        clear hW cR fR hS0 hS1 hS2
        have hZ : xZ zs ps false false (i : Int) (j : Int) m 1 = ((zs.set i y).set j u) := by
          unfold xZ okZ xZ'
          rw [if_pos XE.out, HX2.out.1, HX2.out.2.1, HX2.out.2.2.1, HX2.out.2.2.2]
          simp [putZ]
        have hP : xP zs ps false false (i : Int) (j : Int) m 1 = ps := by
          unfold xP okP xP'
          rw [if_pos XE.out, HX2.out.1, HX2.out.2.1, HX2.out.2.2.1, HX2.out.2.2.2]
          simp [putP]
        have hgd := x_good (pf := false) (pt := false) (f := i) (t := j) (least := 1) BH.out.good m0
        rw [hZ, hP] at hgd
        have HZP := Lib.hid (And.intro hZ hP)
        have FBE := SX.out.fb (by simp [HL.out])
        obtain ⟨X2, hX2⟩ : ∃ X2, X2 = bkC (.slice (some ⟨g, 0, none⟩) L cv) ps := ⟨_, rfl⟩
        have HX3 := Lib.hid hX2
        have QP2 := Lib.hid SX.out.q
        have QR2 := Lib.hid SX.out.r
        rw [← hX2] at FBE QP2
        have X2L := Lib.hid (show X2.length = 5 by rw [hX2]; exact bkC_len (by first | exact h4 | (simp; exact h4)))
        have X2O := Lib.hid (show X2.toArray.all (·.oneCell') = true by rw [hX2]; exact all_oneCell_toArray bkC_one)
        clear hX2 hZ hP
        have RP2 := Lib.hid (rngB QP2.out)
        have X2I := Lib.hid (show (Try.prog.info? 26).map (·.size) = some X2.length by rw [X2L.out]; exact info_bank)
        have X2J := Lib.hid (show (Try.prog.info? 26).map (·.size) = some X2.toArray.size by rw [List.size_toArray, X2L.out]; exact info_bank)
        have TH9 := Lib.hid (show W.there (p + 1) 0 X2.toArray.size from blk_there (C := ZB.toList) QR2.out rfl X2L.out)
        have FE := Lib.hid (FB.same (FBE.set QR2.out (by decide) (o := 0) (Y := X2) (show w.heap.size ≤ p + 1 by have := HP.out; omega)) hgd)
        have BL := Lib.hid (Pm.bwhole (vs := X2) QR2.out (by rw [X2L.out]; rfl))
        clear FBE hgd
        go_wp2_with (first | ((with_reducible refine wpList_load_mid ?_ 26 (.tmp 4) ?_ p 0 ?_ X2 _ RP2.out uB ?_ X2I.out ?_); rfl; rfl; rfl; rfl) | ((with_reducible refine wpList_store_mid ?_ 26 (.tmp 8) (.tmp 66) ?_ (p + 1) 0 X2.toArray ?_ ?_ TH9.out X2J.out X2O.out ?_); rfl; rfl; rfl; rfl))
        refine bodyPost_ret (v := .tuple #[.agg X2.toArray, .int .i64 0]) (Pm.res_ci rfl _ _ ⟨p + 1, 0, none⟩ (.agg X2.toArray) (.int .i64 0) rfl rfl (Pm.load_b BL.out uB rfl X2I.out)) rfl ⟨X2, by rw [XE.out], ?_⟩
        rw [HZP.out.1, HZP.out.2]
        exact FE.out
set_option maxRecDepth 10000 in
set_option maxHeartbeats 800000 in
theorem payR (f t m : Int) (Y : List Value) (zs ps : List Int) (w : World) (h : BV w Y zs ps) (m0 : 0 ≤ m) (m1 : m ≤ 18446744073709551615) :
    Calls Try.prog 52 #[.agg Y.toArray, .int .i64 f, .int .i64 t, .int .u64 m] w fun e w' => ∃ X, e = .returned (.tuple #[.agg X.toArray, .int .i64 (xE zs ps true false f t m 0)]) ∧ NB w w' X (xZ zs ps true false f t m 0) (xP zs ps true false f t m 0) := by
  have CK := Lib.hid (fun V (hb : Kk.Bel w V) => checkR Y zs ps V (h.bel hb))
  have TH := Lib.hid (fun k V (hb : Kk.Bel w V) => thereR' k Y zs ps V (h.bel hb))
  have PO := Lib.hid (fun k V => poolR' zs k V)
  have iY := Lib.hid (show (Try.prog.info? 26).map (·.size) = some Y.length by rw [h.len]; exact info_bank)
  have uB := Try.underlying26
  have BH := Lib.hid h
  have XO := Lib.hid (xE_of zs ps true false f t m 0)
  have YL := Lib.hid h.len
  clear h
  obtain ⟨W0, hW0⟩ : ∃ W0, (w.alloc (.cells Y.toArray 26)).alloc (.cells ZB 26) = W0 := ⟨_, rfl⟩
  obtain ⟨p, hp⟩ : ∃ p, w.heap.size = p := ⟨_, rfl⟩
  have B0 := Lib.hid (show Kk.Bel w W0 by rw [← hW0]; exact ((Kk.Bel.refl w).alloc _).alloc _)
  have QP := Lib.hid (show Kk.Blk W0 p Y.toArray 26 by rw [← hW0, ← hp]; exact (Kk.Blk.new w _ _).alloc _)
  have QR := Lib.hid (show Kk.Blk W0 (p + 1) ZB 26 by rw [← hW0, ← hp, ← World.size_alloc w (.cells Y.toArray 26)]; exact Kk.Blk.new _ _ _)
  have HW0 := Lib.hid hW0
  have HP := Lib.hid hp
  have R0 := Lib.hid (rngB QP.out)
  clear hW0 hp
  have XG := Lib.hid (show xE zs ps true false f t m 0 = fstE [chk zs ps, plE zs true f, plE zs false t, argE (f == 2), poorE (bal zs ps true f) m] by rw [xE_of]; rw [payG _ _ _ m0]; rfl)
  go_enter Try.func52, Try.ntmps52
  go_upto_region 1 with fail
  rw [HW0.out, HP.out]
  refine wp_region_held_drew (S := fun V => Kk.Bel W0 V) (by kernel_rfl) (Kk.Bel.refl _).drew (fun hS0 => ?_)
  obtain ⟨w6, hw6⟩ : ∃ w6, W0.drew = w6 := ⟨_, rfl⟩
  rw [hw6] at hS0 ⊢
  clear hw6
  refine wpAnyH_take (i := 0) (oi := { dst := some 11, op := .load 26 (.tmp 4), type := 26, pos := "ref.go:127", after := #[], guard := none }) (v := .agg Y.toArray) rfl (by kernel_rfl) (by kernel_rfl) (by kernel_rfl) (fun _ _ _ h => h) (yieldsIf_load_mid (by rfl) _ _ rfl _ _ rfl _ _ (fun w h => rng_bel R0.out h) uB rfl iY.out) hS0 ?_
  try simp only [Act.put, List.setIfInBounds_toArray, List.set_cons_zero, List.set_cons_succ]
  refine wpAnyH_take (i := 2) (oi := { dst := some 13, op := .move (.tmp 1), type := 3, pos := "ref.go:127", after := #[], guard := none }) (v := .int .i64 f) rfl (by kernel_rfl) (by kernel_rfl) (by kernel_rfl) (fun _ _ _ h => h) (Or.inl ⟨by rfl, by intro w hSw; clear hSw; go_simp⟩) hS0 ?_
  try simp only [Act.put, List.setIfInBounds_toArray, List.set_cons_zero, List.set_cons_succ]
  refine wpAnyH_take (i := 4) (oi := { dst := some 15, op := .load 26 (.tmp 4), type := 26, pos := "ref.go:127", after := #[], guard := none }) (v := .agg Y.toArray) rfl (by kernel_rfl) (by kernel_rfl) (by kernel_rfl) (fun _ _ _ h => h) (yieldsIf_load_mid (by rfl) _ _ rfl _ _ rfl _ _ (fun w h => rng_bel R0.out h) uB rfl iY.out) hS0 ?_
  try simp only [Act.put, List.setIfInBounds_toArray, List.set_cons_zero, List.set_cons_succ]
  refine wpAnyH_take (i := 5) (oi := { dst := some 16, op := .move (.tmp 2), type := 3, pos := "ref.go:127", after := #[], guard := none }) (v := .int .i64 t) rfl (by kernel_rfl) (by kernel_rfl) (by kernel_rfl) (fun _ _ _ h => h) (Or.inl ⟨by rfl, by intro w hSw; clear hSw; go_simp⟩) hS0 ?_
  try simp only [Act.put, List.setIfInBounds_toArray, List.set_cons_zero, List.set_cons_succ]
  refine wpAnyH_take (i := 7) (oi := { dst := some 18, op := .move (.tmp 1), type := 3, pos := "ref.go:127", after := #[], guard := none }) (v := .int .i64 f) rfl (by kernel_rfl) (by kernel_rfl) (by kernel_rfl) (fun _ _ _ h => h) (Or.inl ⟨by rfl, by intro w hSw; clear hSw; go_simp⟩) hS0 ?_
  try simp only [Act.put, List.setIfInBounds_toArray, List.set_cons_zero, List.set_cons_succ]
  refine wpAnyH_take (i := 8) (oi := { dst := some 19, op := .binOp .eql 3 (.tmp 18) (.const (Value.int IntKind.i64 2)) 3, type := 4, pos := "ref.go:127", after := #[{ on := 7, ground := .data }], guard := none }) (v := .bool (f == 2)) rfl (by kernel_rfl) (by kernel_rfl) (by kernel_rfl) (fun _ _ _ h => h) (Or.inl ⟨by rfl, by intro w hSw; clear hSw; go_simp⟩) hS0 ?_
  try simp only [Act.put, List.setIfInBounds_toArray, List.set_cons_zero, List.set_cons_succ]
  refine wpAnyH_ready (rs := [1]) (by kernel_rfl) (by simp) ?_
  refine AllReadyH.cons (o := { dst := some 12, op := .call { callee := .value (.func 19), args := #[.tmp 11], argTypes := #[26] }, type := 30, pos := "ref.go:127", after := #[{ on := 0, ground := .data }], guard := none }) rfl (fun K hK => ?_) AllReadyH.nil
  go_simp
  refine (CK.out _ (B0.out.trans hS0)).mono ?_
  rintro e v1 ⟨rfl, kb0⟩
  go_wp2_with fail
  refine hK.out _ _ (hS0.trans kb0) (fun hS1 => ?_)
  clear hK K
  try simp only [Act.put, List.setIfInBounds_toArray, List.set_cons_zero, List.set_cons_succ]
  refine wpAnyH_ready (rs := [3]) (by kernel_rfl) (by simp) ?_
  refine AllReadyH.cons (o := { dst := some 14, op := .call { callee := .value (.func 97), args := #[.tmp 13], argTypes := #[3] }, type := 30, pos := "ref.go:127", after := #[{ on := 2, ground := .data }, { on := 1, ground := .chain }], guard := none }) rfl (fun K hK => ?_) AllReadyH.nil
  go_simp
  refine (PO.out f _).mono ?_
  rintro e v2 ⟨rfl, kb1⟩
  go_wp2_with fail
  refine hK.out _ _ (hS1.trans kb1) (fun hS2 => ?_)
  clear hK K
  try simp only [Act.put, List.setIfInBounds_toArray, List.set_cons_zero, List.set_cons_succ]
  refine wpAnyH_ready (rs := [6]) (by kernel_rfl) (by simp) ?_
  refine AllReadyH.cons (o := { dst := some 17, op := .call { callee := .value (.func 47), args := #[.tmp 15, .tmp 16], argTypes := #[26, 3] }, type := 30, pos := "ref.go:127", after := #[{ on := 4, ground := .data }, { on := 5, ground := .data }, { on := 3, ground := .chain }], guard := none }) rfl (fun K hK => ?_) AllReadyH.nil
  go_simp
  refine (TH.out t _ (B0.out.trans hS2)).mono ?_
  rintro e v3 ⟨rfl, kb2⟩
  go_wp2_with fail
  refine hK.out _ _ (hS2.trans kb2) (fun hS3 => ?_)
  clear hK K
  try simp only [Act.put, List.setIfInBounds_toArray, List.set_cons_zero, List.set_cons_succ]
  refine wpAnyH_ready (rs := [9]) (by kernel_rfl) (by simp) ?_
  refine AllReadyH.cons (o := { dst := some 20, op := .call { callee := .value (.func 95), args := #[.tmp 19], argTypes := #[4] }, type := 30, pos := "ref.go:127", after := #[{ on := 8, ground := .data }, { on := 6, ground := .chain }], guard := none }) rfl (fun K hK => ?_) AllReadyH.nil
  go_simp
  refine (argR' (f == 2) _).mono ?_
  rintro e v4 ⟨rfl, kb3⟩
  go_wp2_with fail
  refine hK.out _ _ (hS3.trans kb3) (fun hS4 => ?_)
  clear hK K
  try simp only [Act.put, List.setIfInBounds_toArray, List.set_cons_zero, List.set_cons_succ]
  refine wpAnyH_ready (rs := [10]) (by kernel_rfl) (by simp) ?_
  refine AllReadyH.cons (o := { dst := some 21, op := .buildSlice 134 4 #[(0, .tmp 12), (1, .tmp 14), (2, .tmp 17), (3, .tmp 20)], type := 134, pos := "ref.go:127", after := #[{ on := 1, ground := .data }, { on := 3, ground := .data }, { on := 6, ground := .data }, { on := 9, ground := .data }], guard := none }) rfl (fun K hK => ?_) AllReadyH.nil
  go_simp
  refine hK.out _ _ (hS4.alloc _) (fun hS5 => ?_)
  clear hK K
  try simp only [Act.put, List.setIfInBounds_toArray, List.set_cons_zero, List.set_cons_succ]
  refine wpAnyH_ready (rs := [11]) (by kernel_rfl) (by simp) ?_
  refine AllReadyH.cons (o := { dst := some 22, op := .call { callee := .value (.func 94), args := #[.tmp 21], argTypes := #[134] }, type := 30, pos := "ref.go:127", after := #[{ on := 10, ground := .data }, { on := 9, ground := .chain }], guard := none }) rfl (fun K hK => ?_) AllReadyH.nil
  go_simp
  refine (firstR _ 4 _ [chk zs ps, plE zs true f, plE zs false t, argE (f == 2)] _ rfl (by decide) (errs4 _ _ _ _ _ rfl)).mono ?_
  rintro e v6 ⟨rfl, kb5⟩
  go_wp2_with fail
  refine hK.out _ _ (hS5.trans kb5) (fun hS6 => ?_)
  clear hK K
  try simp only [Act.put, List.setIfInBounds_toArray, List.set_cons_zero, List.set_cons_succ]
  refine wpAnyH_take (i := 12) (oi := { dst := some 10, op := .assign (.tmp 22), type := 30, pos := "ref.go:127", after := #[{ on := 11, ground := .data }, { on := 11, ground := .chain }, { on := 0, ground := .phase }, { on := 1, ground := .phase }, { on := 2, ground := .phase }, { on := 3, ground := .phase }, { on := 4, ground := .phase }, { on := 5, ground := .phase }, { on := 6, ground := .phase }, { on := 7, ground := .phase }, { on := 8, ground := .phase }, { on := 9, ground := .phase }, { on := 10, ground := .phase }, { on := 11, ground := .phase }], guard := none }) (v := .int .i64 (fstE [chk zs ps, plE zs true f, plE zs false t, argE (f == 2)])) rfl (by kernel_rfl) (by kernel_rfl) (by kernel_rfl) (fun _ _ _ h => h) (Or.inl ⟨by rfl, by intro w hSw; clear hSw; go_simp⟩) hS6 ?_
  try simp only [Act.put, List.setIfInBounds_toArray, List.set_cons_zero, List.set_cons_succ]
  refine wpAnyH_done (by kernel_rfl) ?_ _
  have K6 := Lib.hid hS6
  have QP := Lib.hid (QP.out.bel hS6)
  have QR := Lib.hid (QR.out.bel hS6)
  obtain ⟨W, hW⟩ : ∃ W, W = v6 := ⟨_, rfl⟩
  rw [← hW] at K6 QP QR ⊢
  clear hW hS0 hS1 hS2 hS3 hS4 hS5 hS6
  rcases fst_ways (a := chk zs ps) (b := plE zs true f) (c := plE zs false t) (d := argE (f == 2)) with hE | ⟨z1, z2, z3, z4⟩
  · have XE := Lib.hid (XG.out.trans (fst5 _ _ _ _ _ hE))
    obtain ⟨E, hEe⟩ : ∃ E, fstE [chk zs ps, plE zs true f, plE zs false t, argE (f == 2)] = E := ⟨_, rfl⟩
    rw [hEe] at hE XE ⊢
    have n1 : (E == 0) = false := by simpa using hE
    have n2 : (E != 0) = true := by simpa using hE
    clear hEe
    have TH5 := Lib.hid (show W.there (p + 1) 0 ZB.size from bthere QR.out 0 _ (by simp))
    have YI5 := Lib.hid (show (Try.prog.info? 26).map (·.size) = some ZB.size from info_bank)
    have YO5 := Lib.hid (show ZB.all (·.oneCell') = true from one5 rfl)
    have BE := Lib.hid (bel_setCells (B0.out.trans K6.out) (show w.heap.size ≤ p + 1 by have := HP.out; omega) 0 ZB.toList)
    have BL := Lib.hid (Pm.bwhole (vs := ZB.toList) QR.out rfl)
    go_wp2_with ((with_reducible refine wpList_store_mid ?_ 26 (.tmp 8) (.tmp 33) ?_ (p + 1) 0 ZB ?_ ?_ TH5.out YI5.out YO5.out ?_); rfl; rfl; rfl; rfl)
    refine bodyPost_ret (v := .tuple #[.agg ZB, .int .i64 E]) (Pm.res_ci rfl _ _ ⟨p + 1, 0, none⟩ (.agg ZB) (.int .i64 E) rfl rfl (Pm.load_b (C := ZB.toList) BL.out uB rfl info_bank)) rfl ⟨ZB.toList, by rw [XE.out], ?_⟩
    rw [xZ_no (by rw [XE.out]; exact hE), xP_no (by rw [XE.out]; exact hE)]
    exact nb_zero BE.out
  · obtain ⟨i, rfl, hi⟩ := plP_ok z2
    obtain ⟨j, rfl, hj⟩ := plA_ok z3
    rw [show fstE [chk zs ps, plE zs true i, plE zs false j, argE ((i : Int) == 2)] = 0 by rw [z1, z2, z3, z4]; rfl]
    rw [z1, z2, z3, z4] at XG
    obtain ⟨A, c, eY, hs, hz, hp4, h4, hn⟩ := BH.out
    have EY := Lib.hid eY
    clear eY
    obtain ⟨L, hL⟩ : ∃ L, zs.length = L := ⟨_, rfl⟩
    have hiL : i < 4 := hi
    have hjL : j < zs.length := hj
    obtain ⟨x, hx⟩ : ∃ x, bal zs ps true i = x := ⟨_, rfl⟩
    rw [hx] at XG
    have hx2 : ps.getD i 0 = x := by rw [← hx]; simp [bal]
    have cX : W.cell? ⟨p, 1 + i, none⟩ = some (.int .u64 x) := by
      refine QP.out.cell (1 + i) ?_
      rw [EY.out, List.getElem?_toArray, Nat.add_comm, bkC, List.getElem?_cons_succ, List.getElem?_map, List.getElem?_eq_getElem (by omega), ← hx2, Kk.getD_eq _ _ (by omega)]
      rfl
    have hi4 : (i : Int) < 4 := by omega
    have hi0 : (0 : Int) ≤ (i : Int) := by omega
    go_wp2_with fail
    refine (poorR' _ _ _).mono ?_
    rintro e w8 ⟨rfl, kb⟩
    have K6 := Lib.hid (K6.out.trans kb)
    have QP := Lib.hid (QP.out.bel kb)
    have QR := Lib.hid (QR.out.bel kb)
    clear cX kb
    obtain ⟨W, hW⟩ : ∃ W, W = w8 := ⟨_, rfl⟩
    rw [← hW] at K6 QP QR ⊢
    clear hW
    have hx0 := bal_words hz hp4 true i
    rw [hx] at hx0
    by_cases hxm : x < m
    · obtain ⟨E, hEe⟩ : ∃ E : Int, E = 13 := ⟨_, rfl⟩
      rw [show poorE x m = E by rw [hEe]; exact if_pos hxm] at XG ⊢
      have hE : ¬ E = 0 := by rw [hEe]; decide
      have XE := Lib.hid (XG.out.trans (show fstE [0, 0, 0, 0, E] = E by rw [hEe]; rfl))
      have n1 : (E == 0) = false := by simpa using hE
      have n2 : (E != 0) = true := by simpa using hE
      clear hEe
      have TH5 := Lib.hid (show W.there (p + 1) 0 ZB.size from bthere QR.out 0 _ (by simp))
      have YI5 := Lib.hid (show (Try.prog.info? 26).map (·.size) = some ZB.size from info_bank)
      have YO5 := Lib.hid (show ZB.all (·.oneCell') = true from one5 rfl)
      have BE := Lib.hid (bel_setCells (B0.out.trans K6.out) (show w.heap.size ≤ p + 1 by have := HP.out; omega) 0 ZB.toList)
      have BL := Lib.hid (Pm.bwhole (vs := ZB.toList) QR.out rfl)
      go_wp2_with ((with_reducible refine wpList_store_mid ?_ 26 (.tmp 8) (.tmp 33) ?_ (p + 1) 0 ZB ?_ ?_ TH5.out YI5.out YO5.out ?_); rfl; rfl; rfl; rfl)
      refine bodyPost_ret (v := .tuple #[.agg ZB, .int .i64 E]) (Pm.res_ci rfl _ _ ⟨p + 1, 0, none⟩ (.agg ZB) (.int .i64 E) rfl rfl (Pm.load_b (C := ZB.toList) BL.out uB rfl info_bank)) rfl ⟨ZB.toList, by rw [XE.out], ?_⟩
      rw [xZ_no (by rw [XE.out]; exact hE), xP_no (by rw [XE.out]; exact hE)]
      exact nb_zero BE.out
    · rw [show poorE x m = 0 from if_neg hxm] at XG ⊢
      have XE := Lib.hid (XG.out.trans (show fstE [0, 0, 0, 0, 0] = 0 from rfl))
      have RP := Lib.hid (rngB QP.out)
      have CB := Lib.hid (fun V h => copyBankV Y zs ps V h)
      go_wp2_with ((with_reducible refine wpList_load_mid ?_ 26 (.tmp 4) ?_ p 0 ?_ Y _ RP.out uB ?_ iY.out ?_); rfl; rfl; rfl; rfl)
      refine (CB.out _ (BH.out.bel (B0.out.trans K6.out))).mono ?_
      rintro e w9 ⟨V, rfl, hfb⟩
      obtain ⟨v, rfl, hfr⟩ := hfb
      obtain ⟨A2, cv, rfl, hsu⟩ := hfr.su
      have QP9 := Lib.hid (QP.out.bel hfr.2)
      have QR9 := Lib.hid (QR.out.bel hfr.2)
      have hzl := (chk_ok z1).1
      obtain ⟨g, o, rfl, hg, _⟩ := hsu.ints.cell (i := 0) hzl
      obtain rfl : o = 0 := by
        rcases hfr.1.2 with ⟨h1, _⟩ | ⟨_, _, _, h1, _⟩
        · cases h1
        · injection h1 with h1; injection h1 with h1; injection h1
      obtain ⟨X, hX⟩ : ∃ X, X = bkC (.slice (some ⟨g, 0, none⟩) zs.length cv) ps := ⟨_, rfl⟩
      rw [← hX]
      have XL := Lib.hid (show X.length = 5 by rw [hX]; exact bkC_len h4)
      have XOne := Lib.hid (show X.toArray.all (·.oneCell') = true by rw [hX]; exact all_oneCell_toArray bkC_one)
      have TH6 := Lib.hid (show w9.there p 0 X.toArray.size from blk_there QP9.out YL.out XL.out)
      have XI := Lib.hid (show (Try.prog.info? 26).map (·.size) = some X.toArray.size by rw [List.size_toArray, XL.out]; exact info_bank)
      have HX := Lib.hid hX
      have FR := Lib.hid hfr
      clear hfr hsu hg hX
      go_upto_region 7 with ((with_reducible refine wpList_store_mid ?_ 26 (.tmp 4) (.tmp 36) ?_ p 0 X.toArray ?_ ?_ TH6.out XI.out XOne.out ?_); rfl; rfl; rfl; rfl)
      have SX : Hid (Sr w p g cv zs (bkC (.slice (some ⟨g, 0, none⟩) zs.length cv) ps) (w9.setCells p 0 X)) := Lib.hid (by
        rw [← HX.out]
        refine ⟨bel_setCells (B0.out.trans (K6.out.trans FR.out.2)) (by rw [HP.out]; exact Nat.le_refl _) 0 _, blk5 QP9.out YL.out _ XL.out, QR9.out.kep (kep_setCells p X 0 w9) (by omega), ?_, by rw [HP.out]; exact Nat.le_refl _⟩
        have h1 := Kk.Kep.owns (kep_setCells p X 0 w9) (fun k hk e => QP9.out.not_row (by decide) FR.out.1 (by rw [hk, e])) FR.out.1
        exact Kk.owns_mono h1 (Below.size (B0.out.trans K6.out)))
      obtain ⟨W, hW⟩ : ∃ W, w9.setCells p 0 X = W := ⟨_, rfl⟩
      rw [hW] at SX
      rw [hW]
      clear hW TH6 XOne XI QP9 QR9 FR CB RP QP QR K6
      obtain ⟨L, hL⟩ : ∃ L, zs.length = L := ⟨_, rfl⟩
      have HL := Lib.hid hL
      rw [hL] at SX
      have hxm2 : m ≤ x := by omega
      obtain ⟨y, hy⟩ : ∃ y, x - m = y := ⟨_, rfl⟩
      have e1 : IntKind.u64.wrap (x - m) = y := by rw [IntKind.wrap_u64]; omega
      obtain ⟨z, hz2⟩ : ∃ z, bal zs ps false j = z := ⟨_, rfl⟩
      have hsum := (chk_ok z1).2.2
      have g1 := bal_le hz hp4 true i
      have g2 := bal_le hz hp4 false j
      have g3 := bal_words hz hp4 false j
      rw [hx] at g1
      rw [hz2] at g2 g3
      obtain ⟨u, hu⟩ : ∃ u, z + m = u := ⟨_, rfl⟩
      have e2 : IntKind.u64.wrap (z + m) = u := by rw [IntKind.wrap_u64]; omega
      have hz3 : zs.getD j 0 = z := by rw [← hz2]; simp [bal]
      have hj0 : (0 : Int) ≤ (j : Int) := by omega
      have hjL4 : (j : Int) < (L : Int) := by omega
      have hz4 := hz3
      have HX2 := Lib.hid (And.intro hx (And.intro hz2 (And.intro hy hu)))
      clear hL hz hp4 hsum g1 g2 g3 hz2 hz3 hy hu hx
      have cR := (SX.out.cellP (k := i) (by first | omega | (simp; omega))).1
      have fR := (SX.out.cellP (k := i) (by first | omega | (simp; omega))).2
      rw [hx2] at cR
      go_upto_region 8 with fail
      have SX := Lib.hid (SX.out.setP i (y))
      obtain ⟨W2, hW⟩ : ∃ V, W.setCell ⟨p, 1 + i, none⟩ (.int .u64 (y)) = V := ⟨_, rfl⟩
      rw [hW] at SX ⊢
      clear hW cR fR
      obtain ⟨W, hW⟩ : ∃ W, W = W2 := ⟨_, rfl⟩
      rw [← hW] at SX ⊢
      clear hW
      have cR := (SX.out.cellZ (k := j) (by first | omega | (simp; omega))).1
      have fR := (SX.out.cellZ (k := j) (by first | omega | (simp; omega))).2
      rw [hz4] at cR
      refine wp_region_held_drew (S := fun V => V.cell? ⟨p, 0, none⟩ = some (.slice (some ⟨g, 0, none⟩) L cv)) (by kernel_rfl) (cell_bel SX.out.cellS (Kk.Bel.refl _).drew) (fun hS0 => ?_)
      have SX := Lib.hid (SX.out.kept (Kk.Bel.refl _).drew)
      have cR := cell_bel cR (Kk.Bel.refl _).drew
      have fR := (SX.out.cellZ (k := j) (by first | omega | (simp; omega))).2
      obtain ⟨W1, hW1⟩ : ∃ W1, World.drew W = W1 := ⟨_, rfl⟩
      rw [hW1] at hS0 SX cR fR ⊢
      clear hW1
      refine wpAnyH_take (i := 0) (oi := { dst := some 46, op := .fieldAddr 26 (.tmp 4) 0, type := 0, pos := "ref.go:136", after := #[], guard := none }) (v := .pointer (some ⟨p, 0, none⟩)) rfl (by kernel_rfl) (by kernel_rfl) (by kernel_rfl) (fun _ _ _ h => h) (Or.inl ⟨by rfl, by intro w hSw; clear hSw; go_simp⟩) hS0 ?_
      try simp only [Act.put, List.setIfInBounds_toArray, List.set_cons_zero, List.set_cons_succ]
      refine wpAnyH_take (i := 1) (oi := { dst := some 47, op := .load 22 (.tmp 46), type := 22, pos := "ref.go:136", after := #[{ on := 0, ground := .data }], guard := none }) (v := .slice (some ⟨g, 0, none⟩) L cv) rfl (by kernel_rfl) (by kernel_rfl) (by kernel_rfl) (fun _ _ _ h => h) (Or.inl ⟨by rfl, by intro w h; have hcell := (h); clear h; go_simp⟩) hS0 ?_
      try simp only [Act.put, List.setIfInBounds_toArray, List.set_cons_zero, List.set_cons_succ]
      refine wpAnyH_take (i := 2) (oi := { dst := some 48, op := .move (.tmp 2), type := 3, pos := "ref.go:136", after := #[], guard := none }) (v := .int .i64 j) rfl (by kernel_rfl) (by kernel_rfl) (by kernel_rfl) (fun _ _ _ h => h) (Or.inl ⟨by rfl, by intro w hSw; clear hSw; go_simp⟩) hS0 ?_
      try simp only [Act.put, List.setIfInBounds_toArray, List.set_cons_zero, List.set_cons_succ]
      refine wpAnyH_take (i := 3) (oi := { dst := some 49, op := .fieldAddr 26 (.tmp 4) 0, type := 0, pos := "ref.go:136", after := #[], guard := none }) (v := .pointer (some ⟨p, 0, none⟩)) rfl (by kernel_rfl) (by kernel_rfl) (by kernel_rfl) (fun _ _ _ h => h) (Or.inl ⟨by rfl, by intro w hSw; clear hSw; go_simp⟩) hS0 ?_
      try simp only [Act.put, List.setIfInBounds_toArray, List.set_cons_zero, List.set_cons_succ]
      refine wpAnyH_take (i := 4) (oi := { dst := some 50, op := .load 22 (.tmp 49), type := 22, pos := "ref.go:136", after := #[{ on := 3, ground := .data }], guard := none }) (v := .slice (some ⟨g, 0, none⟩) L cv) rfl (by kernel_rfl) (by kernel_rfl) (by kernel_rfl) (fun _ _ _ h => h) (Or.inl ⟨by rfl, by intro w h; have hcell := (h); clear h; go_simp⟩) hS0 ?_
      try simp only [Act.put, List.setIfInBounds_toArray, List.set_cons_zero, List.set_cons_succ]
      refine wpAnyH_take (i := 5) (oi := { dst := some 51, op := .move (.tmp 2), type := 3, pos := "ref.go:136", after := #[], guard := none }) (v := .int .i64 j) rfl (by kernel_rfl) (by kernel_rfl) (by kernel_rfl) (fun _ _ _ h => h) (Or.inl ⟨by rfl, by intro w hSw; clear hSw; go_simp⟩) hS0 ?_
      try simp only [Act.put, List.setIfInBounds_toArray, List.set_cons_zero, List.set_cons_succ]
      refine wpAnyH_take (i := 6) (oi := { dst := some 52, op := .indexAddr 22 (.tmp 50) (.tmp 51), type := 0, pos := "ref.go:136", after := #[{ on := 4, ground := .data }, { on := 5, ground := .data }], guard := none }) (v := .pointer (some ⟨g, j, none⟩)) rfl (by kernel_rfl) (by kernel_rfl) (by kernel_rfl) (fun _ _ _ h => h) (Or.inl ⟨by rfl, by intro w hSw; clear hSw; go_simp⟩) hS0 ?_
      try simp only [Act.put, List.setIfInBounds_toArray, List.set_cons_zero, List.set_cons_succ]
      refine wpAnyH_take (i := 8) (oi := { dst := some 54, op := .move (.tmp 3), type := 23, pos := "ref.go:136", after := #[], guard := none }) (v := .int .u64 m) rfl (by kernel_rfl) (by kernel_rfl) (by kernel_rfl) (fun _ _ _ h => h) (Or.inl ⟨by rfl, by intro w hSw; clear hSw; go_simp⟩) hS0 ?_
      try simp only [Act.put, List.setIfInBounds_toArray, List.set_cons_zero, List.set_cons_succ]
      refine wpAnyH_ready (rs := [7]) (by kernel_rfl) (by simp) ?_
      refine AllReadyH.cons (o := { dst := some 53, op := .load 23 (.tmp 52), type := 23, pos := "ref.go:136", after := #[{ on := 6, ground := .data }], guard := none }) rfl (fun K hK => ?_) AllReadyH.nil
      go_simp
      refine hK.out _ _ (hS0) (fun hS1 => ?_)
      clear hK K
      try simp only [Act.put, List.setIfInBounds_toArray, List.set_cons_zero, List.set_cons_succ]
      refine wpAnyH_take (i := 9) (oi := { dst := some 55, op := .binOp .add 23 (.tmp 53) (.tmp 54) 23, type := 23, pos := "ref.go:136", after := #[{ on := 7, ground := .data }, { on := 8, ground := .data }], guard := none }) (v := .int .u64 u) rfl (by kernel_rfl) (by kernel_rfl) (by kernel_rfl) (fun _ _ _ h => h) (Or.inl ⟨by rfl, by intro w hSw; clear hSw; go_simp⟩) hS1 ?_
      try simp only [Act.put, List.setIfInBounds_toArray, List.set_cons_zero, List.set_cons_succ]
      refine wpAnyH_take (i := 10) (oi := { dst := some 56, op := .indexAddr 22 (.tmp 47) (.tmp 48), type := 0, pos := "ref.go:136", after := #[{ on := 1, ground := .data }, { on := 2, ground := .data }, { on := 0, ground := .phase }, { on := 1, ground := .phase }, { on := 2, ground := .phase }, { on := 3, ground := .phase }, { on := 4, ground := .phase }, { on := 5, ground := .phase }, { on := 6, ground := .phase }, { on := 7, ground := .phase }, { on := 8, ground := .phase }, { on := 9, ground := .phase }], guard := none }) (v := .pointer (some ⟨g, j, none⟩)) rfl (by kernel_rfl) (by kernel_rfl) (by kernel_rfl) (fun _ _ _ h => h) (Or.inl ⟨by rfl, by intro w hSw; clear hSw; go_simp⟩) hS1 ?_
      try simp only [Act.put, List.setIfInBounds_toArray, List.set_cons_zero, List.set_cons_succ]
      refine wpAnyH_ready (rs := [11]) (by kernel_rfl) (by simp) ?_
      refine AllReadyH.cons (o := { dst := none, op := .store 23 (.tmp 56) (.tmp 55), type := 0, pos := "ref.go:136", after := #[{ on := 10, ground := .data }, { on := 9, ground := .data }, { on := 0, ground := .phase }, { on := 1, ground := .phase }, { on := 2, ground := .phase }, { on := 3, ground := .phase }, { on := 4, ground := .phase }, { on := 5, ground := .phase }, { on := 6, ground := .phase }, { on := 7, ground := .phase }, { on := 8, ground := .phase }, { on := 9, ground := .phase }], guard := none }) rfl (fun K hK => ?_) AllReadyH.nil
      go_simp
      refine hK.out _ _ ((SX.out.setZ j (u)).cellS) (fun hS2 => ?_)
      clear hK K
      try simp only [Act.put, List.setIfInBounds_toArray, List.set_cons_zero, List.set_cons_succ]
      refine wpAnyH_done (by kernel_rfl) ?_ _
      have SX := Lib.hid (SX.out.setZ j (u))
      obtain ⟨W, hW⟩ : ∃ W, W1.setCell ⟨g, j, none⟩ (.int .u64 (u)) = W := ⟨_, rfl⟩
      rw [hW] at SX ⊢
      clear hW cR fR hS0 hS1 hS2
      have hZ : xZ zs ps true false (i : Int) (j : Int) m 0 = (zs.set j u) := by
        unfold xZ okZ xZ'
        rw [if_pos XE.out, HX2.out.1, HX2.out.2.1, HX2.out.2.2.1, HX2.out.2.2.2]
        simp [putZ]
      have hP : xP zs ps true false (i : Int) (j : Int) m 0 = (ps.set i y) := by
        unfold xP okP xP'
        rw [if_pos XE.out, HX2.out.1, HX2.out.2.1, HX2.out.2.2.1, HX2.out.2.2.2]
        simp [putP]
      have hgd := x_good (pf := true) (pt := false) (f := i) (t := j) (least := 0) BH.out.good m0
      rw [hZ, hP] at hgd
      have HZP := Lib.hid (And.intro hZ hP)
      have FBE := SX.out.fb (by simp [HL.out])
      obtain ⟨X2, hX2⟩ : ∃ X2, X2 = bkC (.slice (some ⟨g, 0, none⟩) L cv) (ps.set i y) := ⟨_, rfl⟩
      have HX3 := Lib.hid hX2
      have QP2 := Lib.hid SX.out.q
      have QR2 := Lib.hid SX.out.r
      rw [← hX2] at FBE QP2
      have X2L := Lib.hid (show X2.length = 5 by rw [hX2]; exact bkC_len (by first | exact h4 | (simp; exact h4)))
      have X2O := Lib.hid (show X2.toArray.all (·.oneCell') = true by rw [hX2]; exact all_oneCell_toArray bkC_one)
      clear hX2 hZ hP
      have RP2 := Lib.hid (rngB QP2.out)
      have X2I := Lib.hid (show (Try.prog.info? 26).map (·.size) = some X2.length by rw [X2L.out]; exact info_bank)
      have X2J := Lib.hid (show (Try.prog.info? 26).map (·.size) = some X2.toArray.size by rw [List.size_toArray, X2L.out]; exact info_bank)
      have TH9 := Lib.hid (show W.there (p + 1) 0 X2.toArray.size from blk_there (C := ZB.toList) QR2.out rfl X2L.out)
      have FE := Lib.hid (FB.same (FBE.set QR2.out (by decide) (o := 0) (Y := X2) (show w.heap.size ≤ p + 1 by have := HP.out; omega)) hgd)
      have BL := Lib.hid (Pm.bwhole (vs := X2) QR2.out (by rw [X2L.out]; rfl))
      clear FBE hgd
      go_wp2_with (first | ((with_reducible refine wpList_load_mid ?_ 26 (.tmp 4) ?_ p 0 ?_ X2 _ RP2.out uB ?_ X2I.out ?_); rfl; rfl; rfl; rfl) | ((with_reducible refine wpList_store_mid ?_ 26 (.tmp 8) (.tmp 57) ?_ (p + 1) 0 X2.toArray ?_ ?_ TH9.out X2J.out X2O.out ?_); rfl; rfl; rfl; rfl))
      refine bodyPost_ret (v := .tuple #[.agg X2.toArray, .int .i64 0]) (Pm.res_ci rfl _ _ ⟨p + 1, 0, none⟩ (.agg X2.toArray) (.int .i64 0) rfl rfl (Pm.load_b BL.out uB rfl X2I.out)) rfl ⟨X2, by rw [XE.out], ?_⟩
      rw [HZP.out.1, HZP.out.2]
      exact FE.out
set_option maxRecDepth 10000 in
set_option maxHeartbeats 800000 in
theorem takeR (f t m : Int) (Y : List Value) (zs ps : List Int) (w : World) (h : BV w Y zs ps) (m0 : 0 ≤ m) (m1 : m ≤ 18446744073709551615) :
    Calls Try.prog 53 #[.agg Y.toArray, .int .i64 f, .int .i64 t, .int .u64 m] w fun e w' => ∃ X, e = .returned (.tuple #[.agg X.toArray, .int .i64 (xE zs ps false true f t m 0)]) ∧ NB w w' X (xZ zs ps false true f t m 0) (xP zs ps false true f t m 0) := by
  have CK := Lib.hid (fun V (hb : Kk.Bel w V) => checkR Y zs ps V (h.bel hb))
  have TH := Lib.hid (fun k V (hb : Kk.Bel w V) => thereR' k Y zs ps V (h.bel hb))
  have PO := Lib.hid (fun k V => poolR' zs k V)
  have iY := Lib.hid (show (Try.prog.info? 26).map (·.size) = some Y.length by rw [h.len]; exact info_bank)
  have uB := Try.underlying26
  have BH := Lib.hid h
  have XO := Lib.hid (xE_of zs ps false true f t m 0)
  have YL := Lib.hid h.len
  clear h
  obtain ⟨W0, hW0⟩ : ∃ W0, (w.alloc (.cells Y.toArray 26)).alloc (.cells ZB 26) = W0 := ⟨_, rfl⟩
  obtain ⟨p, hp⟩ : ∃ p, w.heap.size = p := ⟨_, rfl⟩
  have B0 := Lib.hid (show Kk.Bel w W0 by rw [← hW0]; exact ((Kk.Bel.refl w).alloc _).alloc _)
  have QP := Lib.hid (show Kk.Blk W0 p Y.toArray 26 by rw [← hW0, ← hp]; exact (Kk.Blk.new w _ _).alloc _)
  have QR := Lib.hid (show Kk.Blk W0 (p + 1) ZB 26 by rw [← hW0, ← hp, ← World.size_alloc w (.cells Y.toArray 26)]; exact Kk.Blk.new _ _ _)
  have HW0 := Lib.hid hW0
  have HP := Lib.hid hp
  have R0 := Lib.hid (rngB QP.out)
  clear hW0 hp
  have XG := Lib.hid (show xE zs ps false true f t m 0 = fstE [chk zs ps, plE zs false f, plE zs true t, 0, poorE (bal zs ps false f) m] by rw [xE_of]; rw [takeG _ _ _ m0]; rfl)
  go_enter Try.func53, Try.ntmps53
  go_upto_region 1 with fail
  rw [HW0.out, HP.out]
  refine wp_region_held_drew (S := fun V => Kk.Bel W0 V) (by kernel_rfl) (Kk.Bel.refl _).drew (fun hS0 => ?_)
  obtain ⟨w6, hw6⟩ : ∃ w6, W0.drew = w6 := ⟨_, rfl⟩
  rw [hw6] at hS0 ⊢
  clear hw6
  refine wpAnyH_take (i := 0) (oi := { dst := some 11, op := .load 26 (.tmp 4), type := 26, pos := "ref.go:142", after := #[], guard := none }) (v := .agg Y.toArray) rfl (by kernel_rfl) (by kernel_rfl) (by kernel_rfl) (fun _ _ _ h => h) (yieldsIf_load_mid (by rfl) _ _ rfl _ _ rfl _ _ (fun w h => rng_bel R0.out h) uB rfl iY.out) hS0 ?_
  try simp only [Act.put, List.setIfInBounds_toArray, List.set_cons_zero, List.set_cons_succ]
  refine wpAnyH_take (i := 2) (oi := { dst := some 13, op := .load 26 (.tmp 4), type := 26, pos := "ref.go:142", after := #[], guard := none }) (v := .agg Y.toArray) rfl (by kernel_rfl) (by kernel_rfl) (by kernel_rfl) (fun _ _ _ h => h) (yieldsIf_load_mid (by rfl) _ _ rfl _ _ rfl _ _ (fun w h => rng_bel R0.out h) uB rfl iY.out) hS0 ?_
  try simp only [Act.put, List.setIfInBounds_toArray, List.set_cons_zero, List.set_cons_succ]
  refine wpAnyH_take (i := 3) (oi := { dst := some 14, op := .move (.tmp 1), type := 3, pos := "ref.go:142", after := #[], guard := none }) (v := .int .i64 f) rfl (by kernel_rfl) (by kernel_rfl) (by kernel_rfl) (fun _ _ _ h => h) (Or.inl ⟨by rfl, by intro w hSw; clear hSw; go_simp⟩) hS0 ?_
  try simp only [Act.put, List.setIfInBounds_toArray, List.set_cons_zero, List.set_cons_succ]
  refine wpAnyH_take (i := 5) (oi := { dst := some 16, op := .move (.tmp 2), type := 3, pos := "ref.go:142", after := #[], guard := none }) (v := .int .i64 t) rfl (by kernel_rfl) (by kernel_rfl) (by kernel_rfl) (fun _ _ _ h => h) (Or.inl ⟨by rfl, by intro w hSw; clear hSw; go_simp⟩) hS0 ?_
  try simp only [Act.put, List.setIfInBounds_toArray, List.set_cons_zero, List.set_cons_succ]
  refine wpAnyH_ready (rs := [1]) (by kernel_rfl) (by simp) ?_
  refine AllReadyH.cons (o := { dst := some 12, op := .call { callee := .value (.func 19), args := #[.tmp 11], argTypes := #[26] }, type := 30, pos := "ref.go:142", after := #[{ on := 0, ground := .data }], guard := none }) rfl (fun K hK => ?_) AllReadyH.nil
  go_simp
  refine (CK.out _ (B0.out.trans hS0)).mono ?_
  rintro e v1 ⟨rfl, kb0⟩
  go_wp2_with fail
  refine hK.out _ _ (hS0.trans kb0) (fun hS1 => ?_)
  clear hK K
  try simp only [Act.put, List.setIfInBounds_toArray, List.set_cons_zero, List.set_cons_succ]
  refine wpAnyH_ready (rs := [4]) (by kernel_rfl) (by simp) ?_
  refine AllReadyH.cons (o := { dst := some 15, op := .call { callee := .value (.func 47), args := #[.tmp 13, .tmp 14], argTypes := #[26, 3] }, type := 30, pos := "ref.go:142", after := #[{ on := 2, ground := .data }, { on := 3, ground := .data }, { on := 1, ground := .chain }], guard := none }) rfl (fun K hK => ?_) AllReadyH.nil
  go_simp
  refine (TH.out f _ (B0.out.trans hS1)).mono ?_
  rintro e v2 ⟨rfl, kb1⟩
  go_wp2_with fail
  refine hK.out _ _ (hS1.trans kb1) (fun hS2 => ?_)
  clear hK K
  try simp only [Act.put, List.setIfInBounds_toArray, List.set_cons_zero, List.set_cons_succ]
  refine wpAnyH_ready (rs := [6]) (by kernel_rfl) (by simp) ?_
  refine AllReadyH.cons (o := { dst := some 17, op := .call { callee := .value (.func 97), args := #[.tmp 16], argTypes := #[3] }, type := 30, pos := "ref.go:142", after := #[{ on := 5, ground := .data }, { on := 4, ground := .chain }], guard := none }) rfl (fun K hK => ?_) AllReadyH.nil
  go_simp
  refine (PO.out t _).mono ?_
  rintro e v3 ⟨rfl, kb2⟩
  go_wp2_with fail
  refine hK.out _ _ (hS2.trans kb2) (fun hS3 => ?_)
  clear hK K
  try simp only [Act.put, List.setIfInBounds_toArray, List.set_cons_zero, List.set_cons_succ]
  refine wpAnyH_ready (rs := [7]) (by kernel_rfl) (by simp) ?_
  refine AllReadyH.cons (o := { dst := some 18, op := .buildSlice 134 3 #[(0, .tmp 12), (1, .tmp 15), (2, .tmp 17)], type := 134, pos := "ref.go:142", after := #[{ on := 1, ground := .data }, { on := 4, ground := .data }, { on := 6, ground := .data }], guard := none }) rfl (fun K hK => ?_) AllReadyH.nil
  go_simp
  refine hK.out _ _ (hS3.alloc _) (fun hS4 => ?_)
  clear hK K
  try simp only [Act.put, List.setIfInBounds_toArray, List.set_cons_zero, List.set_cons_succ]
  refine wpAnyH_ready (rs := [8]) (by kernel_rfl) (by simp) ?_
  refine AllReadyH.cons (o := { dst := some 19, op := .call { callee := .value (.func 94), args := #[.tmp 18], argTypes := #[134] }, type := 30, pos := "ref.go:142", after := #[{ on := 7, ground := .data }, { on := 6, ground := .chain }], guard := none }) rfl (fun K hK => ?_) AllReadyH.nil
  go_simp
  refine (firstR _ 3 _ [chk zs ps, plE zs false f, plE zs true t] _ rfl (by decide) (errs3 _ _ _ _ rfl)).mono ?_
  rintro e v5 ⟨rfl, kb5⟩
  go_wp2_with fail
  refine hK.out _ _ (hS4.trans kb5) (fun hS5 => ?_)
  clear hK K
  try simp only [Act.put, List.setIfInBounds_toArray, List.set_cons_zero, List.set_cons_succ]
  refine wpAnyH_take (i := 9) (oi := { dst := some 10, op := .assign (.tmp 19), type := 30, pos := "ref.go:142", after := #[{ on := 8, ground := .data }, { on := 8, ground := .chain }, { on := 0, ground := .phase }, { on := 1, ground := .phase }, { on := 2, ground := .phase }, { on := 3, ground := .phase }, { on := 4, ground := .phase }, { on := 5, ground := .phase }, { on := 6, ground := .phase }, { on := 7, ground := .phase }, { on := 8, ground := .phase }], guard := none }) (v := .int .i64 (fstE [chk zs ps, plE zs false f, plE zs true t])) rfl (by kernel_rfl) (by kernel_rfl) (by kernel_rfl) (fun _ _ _ h => h) (Or.inl ⟨by rfl, by intro w hSw; clear hSw; go_simp⟩) hS5 ?_
  try simp only [Act.put, List.setIfInBounds_toArray, List.set_cons_zero, List.set_cons_succ]
  refine wpAnyH_done (by kernel_rfl) ?_ _
  rw [fst3]
  have K6 := Lib.hid hS5
  have QP := Lib.hid (QP.out.bel hS5)
  have QR := Lib.hid (QR.out.bel hS5)
  obtain ⟨W, hW⟩ : ∃ W, W = v5 := ⟨_, rfl⟩
  rw [← hW] at K6 QP QR ⊢
  clear hW hS0 hS1 hS2 hS3 hS4 hS5
  rcases fst_ways (a := chk zs ps) (b := plE zs false f) (c := plE zs true t) (d := 0) with hE | ⟨z1, z2, z3, z4⟩
  · have XE := Lib.hid (XG.out.trans (fst5 _ _ _ _ _ hE))
    obtain ⟨E, hEe⟩ : ∃ E, fstE [chk zs ps, plE zs false f, plE zs true t, 0] = E := ⟨_, rfl⟩
    rw [hEe] at hE XE ⊢
    have n1 : (E == 0) = false := by simpa using hE
    have n2 : (E != 0) = true := by simpa using hE
    clear hEe
    have TH5 := Lib.hid (show W.there (p + 1) 0 ZB.size from bthere QR.out 0 _ (by simp))
    have YI5 := Lib.hid (show (Try.prog.info? 26).map (·.size) = some ZB.size from info_bank)
    have YO5 := Lib.hid (show ZB.all (·.oneCell') = true from one5 rfl)
    have BE := Lib.hid (bel_setCells (B0.out.trans K6.out) (show w.heap.size ≤ p + 1 by have := HP.out; omega) 0 ZB.toList)
    have BL := Lib.hid (Pm.bwhole (vs := ZB.toList) QR.out rfl)
    go_wp2_with ((with_reducible refine wpList_store_mid ?_ 26 (.tmp 8) (.tmp 31) ?_ (p + 1) 0 ZB ?_ ?_ TH5.out YI5.out YO5.out ?_); rfl; rfl; rfl; rfl)
    refine bodyPost_ret (v := .tuple #[.agg ZB, .int .i64 E]) (Pm.res_ci rfl _ _ ⟨p + 1, 0, none⟩ (.agg ZB) (.int .i64 E) rfl rfl (Pm.load_b (C := ZB.toList) BL.out uB rfl info_bank)) rfl ⟨ZB.toList, by rw [XE.out], ?_⟩
    rw [xZ_no (by rw [XE.out]; exact hE), xP_no (by rw [XE.out]; exact hE)]
    exact nb_zero BE.out
  · obtain ⟨i, rfl, hi⟩ := plA_ok z2
    obtain ⟨j, rfl, hj⟩ := plP_ok z3
    rw [show fstE [chk zs ps, plE zs false i, plE zs true j, 0] = 0 by rw [z1, z2, z3, z4]; rfl]
    rw [z1, z2, z3, z4] at XG
    obtain ⟨A, c, eY, hs, hz, hp4, h4, hn⟩ := BH.out
    have EY := Lib.hid eY
    clear eY
    obtain ⟨L, hL⟩ : ∃ L, zs.length = L := ⟨_, rfl⟩
    have hiL : i < zs.length := hi
    have hjL : j < 4 := hj
    obtain ⟨x, hx⟩ : ∃ x, bal zs ps false i = x := ⟨_, rfl⟩
    rw [hx] at XG
    have hx2 : zs.getD i 0 = x := by rw [← hx]; simp [bal]
    have cS : W.cell? ⟨p, 0, none⟩ = some (.slice A zs.length c) := QP.out.cell 0 (by rw [EY.out]; rfl)
    obtain ⟨ga, oa, rfl, _, cX⟩ := (hs.bel (B0.out.trans K6.out)).ints.cell hiL
    rw [hx2] at cX
    have hi4 : (i : Int) < (zs.length : Int) := by omega
    have hi0 : (0 : Int) ≤ (i : Int) := by omega
    go_wp2_with fail
    refine (poorR' _ _ _).mono ?_
    rintro e w8 ⟨rfl, kb⟩
    have K6 := Lib.hid (K6.out.trans kb)
    have QP := Lib.hid (QP.out.bel kb)
    have QR := Lib.hid (QR.out.bel kb)
    clear cX kb cS
    obtain ⟨W, hW⟩ : ∃ W, W = w8 := ⟨_, rfl⟩
    rw [← hW] at K6 QP QR ⊢
    clear hW
    have hx0 := bal_words hz hp4 false i
    rw [hx] at hx0
    by_cases hxm : x < m
    · obtain ⟨E, hEe⟩ : ∃ E : Int, E = 13 := ⟨_, rfl⟩
      rw [show poorE x m = E by rw [hEe]; exact if_pos hxm] at XG ⊢
      have hE : ¬ E = 0 := by rw [hEe]; decide
      have XE := Lib.hid (XG.out.trans (show fstE [0, 0, 0, 0, E] = E by rw [hEe]; rfl))
      have n1 : (E == 0) = false := by simpa using hE
      have n2 : (E != 0) = true := by simpa using hE
      clear hEe
      have TH5 := Lib.hid (show W.there (p + 1) 0 ZB.size from bthere QR.out 0 _ (by simp))
      have YI5 := Lib.hid (show (Try.prog.info? 26).map (·.size) = some ZB.size from info_bank)
      have YO5 := Lib.hid (show ZB.all (·.oneCell') = true from one5 rfl)
      have BE := Lib.hid (bel_setCells (B0.out.trans K6.out) (show w.heap.size ≤ p + 1 by have := HP.out; omega) 0 ZB.toList)
      have BL := Lib.hid (Pm.bwhole (vs := ZB.toList) QR.out rfl)
      go_wp2_with ((with_reducible refine wpList_store_mid ?_ 26 (.tmp 8) (.tmp 31) ?_ (p + 1) 0 ZB ?_ ?_ TH5.out YI5.out YO5.out ?_); rfl; rfl; rfl; rfl)
      refine bodyPost_ret (v := .tuple #[.agg ZB, .int .i64 E]) (Pm.res_ci rfl _ _ ⟨p + 1, 0, none⟩ (.agg ZB) (.int .i64 E) rfl rfl (Pm.load_b (C := ZB.toList) BL.out uB rfl info_bank)) rfl ⟨ZB.toList, by rw [XE.out], ?_⟩
      rw [xZ_no (by rw [XE.out]; exact hE), xP_no (by rw [XE.out]; exact hE)]
      exact nb_zero BE.out
    · rw [show poorE x m = 0 from if_neg hxm] at XG ⊢
      have XE := Lib.hid (XG.out.trans (show fstE [0, 0, 0, 0, 0] = 0 from rfl))
      have RP := Lib.hid (rngB QP.out)
      have CB := Lib.hid (fun V h => copyBankV Y zs ps V h)
      go_wp2_with ((with_reducible refine wpList_load_mid ?_ 26 (.tmp 4) ?_ p 0 ?_ Y _ RP.out uB ?_ iY.out ?_); rfl; rfl; rfl; rfl)
      refine (CB.out _ (BH.out.bel (B0.out.trans K6.out))).mono ?_
      rintro e w9 ⟨V, rfl, hfb⟩
      obtain ⟨v, rfl, hfr⟩ := hfb
      obtain ⟨A2, cv, rfl, hsu⟩ := hfr.su
      have QP9 := Lib.hid (QP.out.bel hfr.2)
      have QR9 := Lib.hid (QR.out.bel hfr.2)
      have hzl := (chk_ok z1).1
      obtain ⟨g, o, rfl, hg, _⟩ := hsu.ints.cell (i := 0) hzl
      obtain rfl : o = 0 := by
        rcases hfr.1.2 with ⟨h1, _⟩ | ⟨_, _, _, h1, _⟩
        · cases h1
        · injection h1 with h1; injection h1 with h1; injection h1
      obtain ⟨X, hX⟩ : ∃ X, X = bkC (.slice (some ⟨g, 0, none⟩) zs.length cv) ps := ⟨_, rfl⟩
      rw [← hX]
      have XL := Lib.hid (show X.length = 5 by rw [hX]; exact bkC_len h4)
      have XOne := Lib.hid (show X.toArray.all (·.oneCell') = true by rw [hX]; exact all_oneCell_toArray bkC_one)
      have TH6 := Lib.hid (show w9.there p 0 X.toArray.size from blk_there QP9.out YL.out XL.out)
      have XI := Lib.hid (show (Try.prog.info? 26).map (·.size) = some X.toArray.size by rw [List.size_toArray, XL.out]; exact info_bank)
      have HX := Lib.hid hX
      have FR := Lib.hid hfr
      clear hfr hsu hg hX
      go_upto_region 7 with ((with_reducible refine wpList_store_mid ?_ 26 (.tmp 4) (.tmp 34) ?_ p 0 X.toArray ?_ ?_ TH6.out XI.out XOne.out ?_); rfl; rfl; rfl; rfl)
      have SX : Hid (Sr w p g cv zs (bkC (.slice (some ⟨g, 0, none⟩) zs.length cv) ps) (w9.setCells p 0 X)) := Lib.hid (by
        rw [← HX.out]
        refine ⟨bel_setCells (B0.out.trans (K6.out.trans FR.out.2)) (by rw [HP.out]; exact Nat.le_refl _) 0 _, blk5 QP9.out YL.out _ XL.out, QR9.out.kep (kep_setCells p X 0 w9) (by omega), ?_, by rw [HP.out]; exact Nat.le_refl _⟩
        have h1 := Kk.Kep.owns (kep_setCells p X 0 w9) (fun k hk e => QP9.out.not_row (by decide) FR.out.1 (by rw [hk, e])) FR.out.1
        exact Kk.owns_mono h1 (Below.size (B0.out.trans K6.out)))
      obtain ⟨W, hW⟩ : ∃ W, w9.setCells p 0 X = W := ⟨_, rfl⟩
      rw [hW] at SX
      rw [hW]
      clear hW TH6 XOne XI QP9 QR9 FR CB RP QP QR K6
      obtain ⟨L, hL⟩ : ∃ L, zs.length = L := ⟨_, rfl⟩
      have HL := Lib.hid hL
      rw [hL] at SX
      have hxm2 : m ≤ x := by omega
      obtain ⟨y, hy⟩ : ∃ y, x - m = y := ⟨_, rfl⟩
      have e1 : IntKind.u64.wrap (x - m) = y := by rw [IntKind.wrap_u64]; omega
      obtain ⟨z, hz2⟩ : ∃ z, bal zs ps true j = z := ⟨_, rfl⟩
      have hsum := (chk_ok z1).2.2
      have g1 := bal_le hz hp4 false i
      have g2 := bal_le hz hp4 true j
      have g3 := bal_words hz hp4 true j
      rw [hx] at g1
      rw [hz2] at g2 g3
      obtain ⟨u, hu⟩ : ∃ u, z + m = u := ⟨_, rfl⟩
      have e2 : IntKind.u64.wrap (z + m) = u := by rw [IntKind.wrap_u64]; omega
      have hz3 : ps.getD j 0 = z := by rw [← hz2]; simp [bal]
      have hj0 : (0 : Int) ≤ (j : Int) := by omega
      have hiL4 : (i : Int) < (L : Int) := by omega
      have hj4 : (j : Int) < 4 := by omega
      have hz4 := hz3
      have HX2 := Lib.hid (And.intro hx (And.intro hz2 (And.intro hy hu)))
      clear hL hz hp4 hsum g1 g2 g3 hz2 hz3 hy hu hx
      have cR := (SX.out.cellZ (k := i) (by first | omega | (simp; omega))).1
      have fR := (SX.out.cellZ (k := i) (by first | omega | (simp; omega))).2
      rw [hx2] at cR
      refine wp_region_held_drew (S := fun V => V.cell? ⟨p, 0, none⟩ = some (.slice (some ⟨g, 0, none⟩) L cv)) (by kernel_rfl) (cell_bel SX.out.cellS (Kk.Bel.refl _).drew) (fun hS0 => ?_)
      have SX := Lib.hid (SX.out.kept (Kk.Bel.refl _).drew)
      have cR := cell_bel cR (Kk.Bel.refl _).drew
      have fR := (SX.out.cellZ (k := i) (by first | omega | (simp; omega))).2
      obtain ⟨W1, hW1⟩ : ∃ W1, World.drew W = W1 := ⟨_, rfl⟩
      rw [hW1] at hS0 SX cR fR ⊢
      clear hW1
      refine wpAnyH_take (i := 0) (oi := { dst := some 35, op := .fieldAddr 26 (.tmp 4) 0, type := 0, pos := "ref.go:150", after := #[], guard := none }) (v := .pointer (some ⟨p, 0, none⟩)) rfl (by kernel_rfl) (by kernel_rfl) (by kernel_rfl) (fun _ _ _ h => h) (Or.inl ⟨by rfl, by intro w hSw; clear hSw; go_simp⟩) hS0 ?_
      try simp only [Act.put, List.setIfInBounds_toArray, List.set_cons_zero, List.set_cons_succ]
      refine wpAnyH_take (i := 1) (oi := { dst := some 36, op := .load 22 (.tmp 35), type := 22, pos := "ref.go:150", after := #[{ on := 0, ground := .data }], guard := none }) (v := .slice (some ⟨g, 0, none⟩) L cv) rfl (by kernel_rfl) (by kernel_rfl) (by kernel_rfl) (fun _ _ _ h => h) (Or.inl ⟨by rfl, by intro w h; have hcell := (h); clear h; go_simp⟩) hS0 ?_
      try simp only [Act.put, List.setIfInBounds_toArray, List.set_cons_zero, List.set_cons_succ]
      refine wpAnyH_take (i := 2) (oi := { dst := some 37, op := .move (.tmp 1), type := 3, pos := "ref.go:150", after := #[], guard := none }) (v := .int .i64 i) rfl (by kernel_rfl) (by kernel_rfl) (by kernel_rfl) (fun _ _ _ h => h) (Or.inl ⟨by rfl, by intro w hSw; clear hSw; go_simp⟩) hS0 ?_
      try simp only [Act.put, List.setIfInBounds_toArray, List.set_cons_zero, List.set_cons_succ]
      refine wpAnyH_take (i := 3) (oi := { dst := some 38, op := .fieldAddr 26 (.tmp 4) 0, type := 0, pos := "ref.go:150", after := #[], guard := none }) (v := .pointer (some ⟨p, 0, none⟩)) rfl (by kernel_rfl) (by kernel_rfl) (by kernel_rfl) (fun _ _ _ h => h) (Or.inl ⟨by rfl, by intro w hSw; clear hSw; go_simp⟩) hS0 ?_
      try simp only [Act.put, List.setIfInBounds_toArray, List.set_cons_zero, List.set_cons_succ]
      refine wpAnyH_take (i := 4) (oi := { dst := some 39, op := .load 22 (.tmp 38), type := 22, pos := "ref.go:150", after := #[{ on := 3, ground := .data }], guard := none }) (v := .slice (some ⟨g, 0, none⟩) L cv) rfl (by kernel_rfl) (by kernel_rfl) (by kernel_rfl) (fun _ _ _ h => h) (Or.inl ⟨by rfl, by intro w h; have hcell := (h); clear h; go_simp⟩) hS0 ?_
      try simp only [Act.put, List.setIfInBounds_toArray, List.set_cons_zero, List.set_cons_succ]
      refine wpAnyH_take (i := 5) (oi := { dst := some 40, op := .move (.tmp 1), type := 3, pos := "ref.go:150", after := #[], guard := none }) (v := .int .i64 i) rfl (by kernel_rfl) (by kernel_rfl) (by kernel_rfl) (fun _ _ _ h => h) (Or.inl ⟨by rfl, by intro w hSw; clear hSw; go_simp⟩) hS0 ?_
      try simp only [Act.put, List.setIfInBounds_toArray, List.set_cons_zero, List.set_cons_succ]
      refine wpAnyH_take (i := 6) (oi := { dst := some 41, op := .indexAddr 22 (.tmp 39) (.tmp 40), type := 0, pos := "ref.go:150", after := #[{ on := 4, ground := .data }, { on := 5, ground := .data }], guard := none }) (v := .pointer (some ⟨g, i, none⟩)) rfl (by kernel_rfl) (by kernel_rfl) (by kernel_rfl) (fun _ _ _ h => h) (Or.inl ⟨by rfl, by intro w hSw; clear hSw; go_simp⟩) hS0 ?_
      try simp only [Act.put, List.setIfInBounds_toArray, List.set_cons_zero, List.set_cons_succ]
      refine wpAnyH_take (i := 8) (oi := { dst := some 43, op := .move (.tmp 3), type := 23, pos := "ref.go:150", after := #[], guard := none }) (v := .int .u64 m) rfl (by kernel_rfl) (by kernel_rfl) (by kernel_rfl) (fun _ _ _ h => h) (Or.inl ⟨by rfl, by intro w hSw; clear hSw; go_simp⟩) hS0 ?_
      try simp only [Act.put, List.setIfInBounds_toArray, List.set_cons_zero, List.set_cons_succ]
      refine wpAnyH_ready (rs := [7]) (by kernel_rfl) (by simp) ?_
      refine AllReadyH.cons (o := { dst := some 42, op := .load 23 (.tmp 41), type := 23, pos := "ref.go:150", after := #[{ on := 6, ground := .data }], guard := none }) rfl (fun K hK => ?_) AllReadyH.nil
      go_simp
      refine hK.out _ _ (hS0) (fun hS1 => ?_)
      clear hK K
      try simp only [Act.put, List.setIfInBounds_toArray, List.set_cons_zero, List.set_cons_succ]
      refine wpAnyH_take (i := 9) (oi := { dst := some 44, op := .binOp .sub 23 (.tmp 42) (.tmp 43) 23, type := 23, pos := "ref.go:150", after := #[{ on := 7, ground := .data }, { on := 8, ground := .data }], guard := none }) (v := .int .u64 y) rfl (by kernel_rfl) (by kernel_rfl) (by kernel_rfl) (fun _ _ _ h => h) (Or.inl ⟨by rfl, by intro w hSw; clear hSw; go_simp⟩) hS1 ?_
      try simp only [Act.put, List.setIfInBounds_toArray, List.set_cons_zero, List.set_cons_succ]
      refine wpAnyH_take (i := 10) (oi := { dst := some 45, op := .indexAddr 22 (.tmp 36) (.tmp 37), type := 0, pos := "ref.go:150", after := #[{ on := 1, ground := .data }, { on := 2, ground := .data }, { on := 0, ground := .phase }, { on := 1, ground := .phase }, { on := 2, ground := .phase }, { on := 3, ground := .phase }, { on := 4, ground := .phase }, { on := 5, ground := .phase }, { on := 6, ground := .phase }, { on := 7, ground := .phase }, { on := 8, ground := .phase }, { on := 9, ground := .phase }], guard := none }) (v := .pointer (some ⟨g, i, none⟩)) rfl (by kernel_rfl) (by kernel_rfl) (by kernel_rfl) (fun _ _ _ h => h) (Or.inl ⟨by rfl, by intro w hSw; clear hSw; go_simp⟩) hS1 ?_
      try simp only [Act.put, List.setIfInBounds_toArray, List.set_cons_zero, List.set_cons_succ]
      refine wpAnyH_ready (rs := [11]) (by kernel_rfl) (by simp) ?_
      refine AllReadyH.cons (o := { dst := none, op := .store 23 (.tmp 45) (.tmp 44), type := 0, pos := "ref.go:150", after := #[{ on := 10, ground := .data }, { on := 9, ground := .data }, { on := 0, ground := .phase }, { on := 1, ground := .phase }, { on := 2, ground := .phase }, { on := 3, ground := .phase }, { on := 4, ground := .phase }, { on := 5, ground := .phase }, { on := 6, ground := .phase }, { on := 7, ground := .phase }, { on := 8, ground := .phase }, { on := 9, ground := .phase }], guard := none }) rfl (fun K hK => ?_) AllReadyH.nil
      go_simp
      refine hK.out _ _ ((SX.out.setZ i (y)).cellS) (fun hS2 => ?_)
      clear hK K
      try simp only [Act.put, List.setIfInBounds_toArray, List.set_cons_zero, List.set_cons_succ]
      refine wpAnyH_done (by kernel_rfl) ?_ _
      have SX := Lib.hid (SX.out.setZ i (y))
      obtain ⟨W, hW⟩ : ∃ W, W1.setCell ⟨g, i, none⟩ (.int .u64 (y)) = W := ⟨_, rfl⟩
      rw [hW] at SX ⊢
      clear hW cR fR hS0 hS1 hS2
      go_upto_region 8 with fail
      have cR := (SX.out.cellP (k := j) (by first | omega | (simp; omega))).1
      have fR := (SX.out.cellP (k := j) (by first | omega | (simp; omega))).2
      rw [hz4] at cR
      go_upto_region 9 with fail
      have SX := Lib.hid (SX.out.setP j (u))
      obtain ⟨W2, hW⟩ : ∃ V, W.setCell ⟨p, 1 + j, none⟩ (.int .u64 (u)) = V := ⟨_, rfl⟩
      rw [hW] at SX ⊢
      clear hW cR fR
      obtain ⟨W, hW⟩ : ∃ W, W = W2 := ⟨_, rfl⟩
      rw [← hW] at SX ⊢
      clear hW
      have hZ : xZ zs ps false true (i : Int) (j : Int) m 0 = (zs.set i y) := by
        unfold xZ okZ xZ'
        rw [if_pos XE.out, HX2.out.1, HX2.out.2.1, HX2.out.2.2.1, HX2.out.2.2.2]
        simp [putZ]
      have hP : xP zs ps false true (i : Int) (j : Int) m 0 = (ps.set j u) := by
        unfold xP okP xP'
        rw [if_pos XE.out, HX2.out.1, HX2.out.2.1, HX2.out.2.2.1, HX2.out.2.2.2]
        simp [putP]
      have hgd := x_good (pf := false) (pt := true) (f := i) (t := j) (least := 0) BH.out.good m0
      rw [hZ, hP] at hgd
      have HZP := Lib.hid (And.intro hZ hP)
      have FBE := SX.out.fb (by simp [HL.out])
      obtain ⟨X2, hX2⟩ : ∃ X2, X2 = bkC (.slice (some ⟨g, 0, none⟩) L cv) (ps.set j u) := ⟨_, rfl⟩
      have HX3 := Lib.hid hX2
      have QP2 := Lib.hid SX.out.q
      have QR2 := Lib.hid SX.out.r
      rw [← hX2] at FBE QP2
      have X2L := Lib.hid (show X2.length = 5 by rw [hX2]; exact bkC_len (by first | exact h4 | (simp; exact h4)))
      have X2O := Lib.hid (show X2.toArray.all (·.oneCell') = true by rw [hX2]; exact all_oneCell_toArray bkC_one)
      clear hX2 hZ hP
      have RP2 := Lib.hid (rngB QP2.out)
      have X2I := Lib.hid (show (Try.prog.info? 26).map (·.size) = some X2.length by rw [X2L.out]; exact info_bank)
      have X2J := Lib.hid (show (Try.prog.info? 26).map (·.size) = some X2.toArray.size by rw [List.size_toArray, X2L.out]; exact info_bank)
      have TH9 := Lib.hid (show W.there (p + 1) 0 X2.toArray.size from blk_there (C := ZB.toList) QR2.out rfl X2L.out)
      have FE := Lib.hid (FB.same (FBE.set QR2.out (by decide) (o := 0) (Y := X2) (show w.heap.size ≤ p + 1 by have := HP.out; omega)) hgd)
      have BL := Lib.hid (Pm.bwhole (vs := X2) QR2.out (by rw [X2L.out]; rfl))
      clear FBE hgd
      go_wp2_with (first | ((with_reducible refine wpList_load_mid ?_ 26 (.tmp 4) ?_ p 0 ?_ X2 _ RP2.out uB ?_ X2I.out ?_); rfl; rfl; rfl; rfl) | ((with_reducible refine wpList_store_mid ?_ 26 (.tmp 8) (.tmp 55) ?_ (p + 1) 0 X2.toArray ?_ ?_ TH9.out X2J.out X2O.out ?_); rfl; rfl; rfl; rfl))
      refine bodyPost_ret (v := .tuple #[.agg X2.toArray, .int .i64 0]) (Pm.res_ci rfl _ _ ⟨p + 1, 0, none⟩ (.agg X2.toArray) (.int .i64 0) rfl rfl (Pm.load_b BL.out uB rfl X2I.out)) rfl ⟨X2, by rw [XE.out], ?_⟩
      rw [HZP.out.1, HZP.out.2]
      exact FE.out
set_option maxRecDepth 10000 in
set_option maxHeartbeats 800000 in
theorem moveR (f t m : Int) (Y : List Value) (zs ps : List Int) (w : World) (h : BV w Y zs ps) (m0 : 0 ≤ m) (m1 : m ≤ 18446744073709551615) :
    Calls Try.prog 54 #[.agg Y.toArray, .int .i64 f, .int .i64 t, .int .u64 m] w fun e w' => ∃ X, e = .returned (.tuple #[.agg X.toArray, .int .i64 (xE zs ps true true f t m 0)]) ∧ NB w w' X (xZ zs ps true true f t m 0) (xP zs ps true true f t m 0) := by
  have CK := Lib.hid (fun V (hb : Kk.Bel w V) => checkR Y zs ps V (h.bel hb))
  have TH := Lib.hid (fun k V (hb : Kk.Bel w V) => thereR' k Y zs ps V (h.bel hb))
  have PO := Lib.hid (fun k V => poolR' zs k V)
  have iY := Lib.hid (show (Try.prog.info? 26).map (·.size) = some Y.length by rw [h.len]; exact info_bank)
  have uB := Try.underlying26
  have BH := Lib.hid h
  have XO := Lib.hid (xE_of zs ps true true f t m 0)
  have YL := Lib.hid h.len
  clear h
  obtain ⟨W0, hW0⟩ : ∃ W0, (w.alloc (.cells Y.toArray 26)).alloc (.cells ZB 26) = W0 := ⟨_, rfl⟩
  obtain ⟨p, hp⟩ : ∃ p, w.heap.size = p := ⟨_, rfl⟩
  have B0 := Lib.hid (show Kk.Bel w W0 by rw [← hW0]; exact ((Kk.Bel.refl w).alloc _).alloc _)
  have QP := Lib.hid (show Kk.Blk W0 p Y.toArray 26 by rw [← hW0, ← hp]; exact (Kk.Blk.new w _ _).alloc _)
  have QR := Lib.hid (show Kk.Blk W0 (p + 1) ZB 26 by rw [← hW0, ← hp, ← World.size_alloc w (.cells Y.toArray 26)]; exact Kk.Blk.new _ _ _)
  have HW0 := Lib.hid hW0
  have HP := Lib.hid hp
  have R0 := Lib.hid (rngB QP.out)
  clear hW0 hp
  by_cases hft : f = t
  · subst hft
    have XG := Lib.hid (show xE zs ps true true f f m 0 = fstE [chk zs ps, plE zs true f, plE zs true f, argE true, poorE (bal zs ps true f) m] by rw [xE_of]; rw [if_pos (Or.inl ⟨rfl, rfl⟩)]; rfl)
    go_enter Try.func54, Try.ntmps54
    go_upto_region 1 with fail
    rw [HW0.out, HP.out]
    go_wp2_with ((with_reducible refine wpList_load_mid ?_ 26 (.tmp 4) ?_ p 0 ?_ Y _ R0.out uB ?_ iY.out ?_); rfl; rfl; rfl; rfl)
    refine (CK.out _ B0.out).mono ?_
    rintro e v1 ⟨rfl, kb0⟩
    go_wp2_with fail
    refine (PO.out f _).mono ?_
    rintro e v2 ⟨rfl, kb1⟩
    go_wp2_with fail
    refine (PO.out f _).mono ?_
    rintro e v3 ⟨rfl, kb2⟩
    go_wp2_with fail
    refine (argR' true _).mono ?_
    rintro e v4 ⟨rfl, kb3⟩
    go_wp2_with fail
    refine (firstR _ 4 _ [chk zs ps, plE zs true f, plE zs true f, argE true] _ rfl (by decide) (errs4 _ _ _ _ _ rfl)).mono ?_
    rintro e v6 ⟨rfl, kb5⟩
    have hS6 : Kk.Bel W0 v6 := ((((kb0.trans kb1).trans kb2).trans kb3).alloc _).trans kb5
    clear kb0 kb1 kb2 kb3 kb5
    have K6 := Lib.hid hS6
    have QP := Lib.hid (QP.out.bel hS6)
    have QR := Lib.hid (QR.out.bel hS6)
    obtain ⟨W, hW⟩ : ∃ W, W = v6 := ⟨_, rfl⟩
    rw [← hW] at K6 QP QR ⊢
    clear hW hS6
    rcases fst_ways (a := chk zs ps) (b := plE zs true f) (c := plE zs true f) (d := argE true) with hE | ⟨z1, z2, z3, z4⟩
    · have XE := Lib.hid (XG.out.trans (fst5 _ _ _ _ _ hE))
      obtain ⟨E, hEe⟩ : ∃ E, fstE [chk zs ps, plE zs true f, plE zs true f, argE true] = E := ⟨_, rfl⟩
      rw [hEe] at hE XE ⊢
      have n1 : (E == 0) = false := by simpa using hE
      have n2 : (E != 0) = true := by simpa using hE
      clear hEe
      have TH5 := Lib.hid (show W.there (p + 1) 0 ZB.size from bthere QR.out 0 _ (by simp))
      have YI5 := Lib.hid (show (Try.prog.info? 26).map (·.size) = some ZB.size from info_bank)
      have YO5 := Lib.hid (show ZB.all (·.oneCell') = true from one5 rfl)
      have BE := Lib.hid (bel_setCells (B0.out.trans K6.out) (show w.heap.size ≤ p + 1 by have := HP.out; omega) 0 ZB.toList)
      have BL := Lib.hid (Pm.bwhole (vs := ZB.toList) QR.out rfl)
      go_wp2_with ((with_reducible refine wpList_store_mid ?_ 26 (.tmp 8) (.tmp 37) ?_ (p + 1) 0 ZB ?_ ?_ TH5.out YI5.out YO5.out ?_); rfl; rfl; rfl; rfl)
      refine bodyPost_ret (v := .tuple #[.agg ZB, .int .i64 E]) (Pm.res_ci rfl _ _ ⟨p + 1, 0, none⟩ (.agg ZB) (.int .i64 E) rfl rfl (Pm.load_b (C := ZB.toList) BL.out uB rfl info_bank)) rfl ⟨ZB.toList, by rw [XE.out], ?_⟩
      rw [xZ_no (by rw [XE.out]; exact hE), xP_no (by rw [XE.out]; exact hE)]
      exact nb_zero BE.out
    · exact absurd z4 (by decide)
  · skip
    have XG := Lib.hid (show xE zs ps true true f t m 0 = fstE [chk zs ps, plE zs true f, plE zs true t, argE (f == 2), poorE (bal zs ps true f) m] by rw [xE_of]; rw [moveG _ _ _ hft m0]; rfl)
    have hft1 : (f == t) = false := by simpa using hft
    have HFT := Lib.hid hft
    clear hft
    go_enter Try.func54, Try.ntmps54
    go_upto_region 1 with fail
    rw [HW0.out, HP.out]
    go_wp2_with ((with_reducible refine wpList_load_mid ?_ 26 (.tmp 4) ?_ p 0 ?_ Y _ R0.out uB ?_ iY.out ?_); rfl; rfl; rfl; rfl)
    refine (CK.out _ B0.out).mono ?_
    rintro e v1 ⟨rfl, kb0⟩
    go_wp2_with fail
    refine (PO.out f _).mono ?_
    rintro e v2 ⟨rfl, kb1⟩
    go_wp2_with fail
    refine (PO.out t _).mono ?_
    rintro e v3 ⟨rfl, kb2⟩
    go_wp2_with fail
    refine (argR' (f == 2) _).mono ?_
    rintro e v4 ⟨rfl, kb3⟩
    go_wp2_with fail
    refine (firstR _ 4 _ [chk zs ps, plE zs true f, plE zs true t, argE (f == 2)] _ rfl (by decide) (errs4 _ _ _ _ _ rfl)).mono ?_
    rintro e v6 ⟨rfl, kb5⟩
    have hS6 : Kk.Bel W0 v6 := ((((kb0.trans kb1).trans kb2).trans kb3).alloc _).trans kb5
    clear kb0 kb1 kb2 kb3 kb5
    have K6 := Lib.hid hS6
    have QP := Lib.hid (QP.out.bel hS6)
    have QR := Lib.hid (QR.out.bel hS6)
    obtain ⟨W, hW⟩ : ∃ W, W = v6 := ⟨_, rfl⟩
    rw [← hW] at K6 QP QR ⊢
    clear hW hS6
    rcases fst_ways (a := chk zs ps) (b := plE zs true f) (c := plE zs true t) (d := argE (f == 2)) with hE | ⟨z1, z2, z3, z4⟩
    · have XE := Lib.hid (XG.out.trans (fst5 _ _ _ _ _ hE))
      obtain ⟨E, hEe⟩ : ∃ E, fstE [chk zs ps, plE zs true f, plE zs true t, argE (f == 2)] = E := ⟨_, rfl⟩
      rw [hEe] at hE XE ⊢
      have n1 : (E == 0) = false := by simpa using hE
      have n2 : (E != 0) = true := by simpa using hE
      clear hEe
      have TH5 := Lib.hid (show W.there (p + 1) 0 ZB.size from bthere QR.out 0 _ (by simp))
      have YI5 := Lib.hid (show (Try.prog.info? 26).map (·.size) = some ZB.size from info_bank)
      have YO5 := Lib.hid (show ZB.all (·.oneCell') = true from one5 rfl)
      have BE := Lib.hid (bel_setCells (B0.out.trans K6.out) (show w.heap.size ≤ p + 1 by have := HP.out; omega) 0 ZB.toList)
      have BL := Lib.hid (Pm.bwhole (vs := ZB.toList) QR.out rfl)
      go_wp2_with ((with_reducible refine wpList_store_mid ?_ 26 (.tmp 8) (.tmp 37) ?_ (p + 1) 0 ZB ?_ ?_ TH5.out YI5.out YO5.out ?_); rfl; rfl; rfl; rfl)
      refine bodyPost_ret (v := .tuple #[.agg ZB, .int .i64 E]) (Pm.res_ci rfl _ _ ⟨p + 1, 0, none⟩ (.agg ZB) (.int .i64 E) rfl rfl (Pm.load_b (C := ZB.toList) BL.out uB rfl info_bank)) rfl ⟨ZB.toList, by rw [XE.out], ?_⟩
      rw [xZ_no (by rw [XE.out]; exact hE), xP_no (by rw [XE.out]; exact hE)]
      exact nb_zero BE.out
    · obtain ⟨i, rfl, hi⟩ := plP_ok z2
      obtain ⟨j, rfl, hj⟩ := plP_ok z3
      rw [show fstE [chk zs ps, plE zs true i, plE zs true j, argE ((i : Int) == 2)] = 0 by rw [z1, z2, z3, z4]; rfl]
      rw [z1, z2, z3, z4] at XG
      obtain ⟨A, c, eY, hs, hz, hp4, h4, hn⟩ := BH.out
      have EY := Lib.hid eY
      clear eY
      obtain ⟨L, hL⟩ : ∃ L, zs.length = L := ⟨_, rfl⟩
      have hiL : i < 4 := hi
      have hjL : j < 4 := hj
      obtain ⟨x, hx⟩ : ∃ x, bal zs ps true i = x := ⟨_, rfl⟩
      rw [hx] at XG
      have hx2 : ps.getD i 0 = x := by rw [← hx]; simp [bal]
      have cX : W.cell? ⟨p, 1 + i, none⟩ = some (.int .u64 x) := by
        refine QP.out.cell (1 + i) ?_
        rw [EY.out, List.getElem?_toArray, Nat.add_comm, bkC, List.getElem?_cons_succ, List.getElem?_map, List.getElem?_eq_getElem (by omega), ← hx2, Kk.getD_eq _ _ (by omega)]
        rfl
      have hi4 : (i : Int) < 4 := by omega
      have hi0 : (0 : Int) ≤ (i : Int) := by omega
      go_wp2_with fail
      refine (poorR' _ _ _).mono ?_
      rintro e w8 ⟨rfl, kb⟩
      have K6 := Lib.hid (K6.out.trans kb)
      have QP := Lib.hid (QP.out.bel kb)
      have QR := Lib.hid (QR.out.bel kb)
      clear cX kb
      obtain ⟨W, hW⟩ : ∃ W, W = w8 := ⟨_, rfl⟩
      rw [← hW] at K6 QP QR ⊢
      clear hW
      have hx0 := bal_words hz hp4 true i
      rw [hx] at hx0
      by_cases hxm : x < m
      · obtain ⟨E, hEe⟩ : ∃ E : Int, E = 13 := ⟨_, rfl⟩
        rw [show poorE x m = E by rw [hEe]; exact if_pos hxm] at XG ⊢
        have hE : ¬ E = 0 := by rw [hEe]; decide
        have XE := Lib.hid (XG.out.trans (show fstE [0, 0, 0, 0, E] = E by rw [hEe]; rfl))
        have n1 : (E == 0) = false := by simpa using hE
        have n2 : (E != 0) = true := by simpa using hE
        clear hEe
        have TH5 := Lib.hid (show W.there (p + 1) 0 ZB.size from bthere QR.out 0 _ (by simp))
        have YI5 := Lib.hid (show (Try.prog.info? 26).map (·.size) = some ZB.size from info_bank)
        have YO5 := Lib.hid (show ZB.all (·.oneCell') = true from one5 rfl)
        have BE := Lib.hid (bel_setCells (B0.out.trans K6.out) (show w.heap.size ≤ p + 1 by have := HP.out; omega) 0 ZB.toList)
        have BL := Lib.hid (Pm.bwhole (vs := ZB.toList) QR.out rfl)
        go_wp2_with ((with_reducible refine wpList_store_mid ?_ 26 (.tmp 8) (.tmp 37) ?_ (p + 1) 0 ZB ?_ ?_ TH5.out YI5.out YO5.out ?_); rfl; rfl; rfl; rfl)
        refine bodyPost_ret (v := .tuple #[.agg ZB, .int .i64 E]) (Pm.res_ci rfl _ _ ⟨p + 1, 0, none⟩ (.agg ZB) (.int .i64 E) rfl rfl (Pm.load_b (C := ZB.toList) BL.out uB rfl info_bank)) rfl ⟨ZB.toList, by rw [XE.out], ?_⟩
        rw [xZ_no (by rw [XE.out]; exact hE), xP_no (by rw [XE.out]; exact hE)]
        exact nb_zero BE.out
      · rw [show poorE x m = 0 from if_neg hxm] at XG ⊢
        have XE := Lib.hid (XG.out.trans (show fstE [0, 0, 0, 0, 0] = 0 from rfl))
        have RP := Lib.hid (rngB QP.out)
        have CB := Lib.hid (fun V h => copyBankV Y zs ps V h)
        go_wp2_with ((with_reducible refine wpList_load_mid ?_ 26 (.tmp 4) ?_ p 0 ?_ Y _ RP.out uB ?_ iY.out ?_); rfl; rfl; rfl; rfl)
        refine (CB.out _ (BH.out.bel (B0.out.trans K6.out))).mono ?_
        rintro e w9 ⟨V, rfl, hfb⟩
        obtain ⟨v, rfl, hfr⟩ := hfb
        obtain ⟨A2, cv, rfl, hsu⟩ := hfr.su
        have QP9 := Lib.hid (QP.out.bel hfr.2)
        have QR9 := Lib.hid (QR.out.bel hfr.2)
        have hzl := (chk_ok z1).1
        obtain ⟨g, o, rfl, hg, _⟩ := hsu.ints.cell (i := 0) hzl
        obtain rfl : o = 0 := by
          rcases hfr.1.2 with ⟨h1, _⟩ | ⟨_, _, _, h1, _⟩
          · cases h1
          · injection h1 with h1; injection h1 with h1; injection h1
        obtain ⟨X, hX⟩ : ∃ X, X = bkC (.slice (some ⟨g, 0, none⟩) zs.length cv) ps := ⟨_, rfl⟩
        rw [← hX]
        have XL := Lib.hid (show X.length = 5 by rw [hX]; exact bkC_len h4)
        have XOne := Lib.hid (show X.toArray.all (·.oneCell') = true by rw [hX]; exact all_oneCell_toArray bkC_one)
        have TH6 := Lib.hid (show w9.there p 0 X.toArray.size from blk_there QP9.out YL.out XL.out)
        have XI := Lib.hid (show (Try.prog.info? 26).map (·.size) = some X.toArray.size by rw [List.size_toArray, XL.out]; exact info_bank)
        have HX := Lib.hid hX
        have FR := Lib.hid hfr
        clear hfr hsu hg hX
        go_upto_region 7 with ((with_reducible refine wpList_store_mid ?_ 26 (.tmp 4) (.tmp 40) ?_ p 0 X.toArray ?_ ?_ TH6.out XI.out XOne.out ?_); rfl; rfl; rfl; rfl)
        have SX : Hid (Sr w p g cv zs (bkC (.slice (some ⟨g, 0, none⟩) zs.length cv) ps) (w9.setCells p 0 X)) := Lib.hid (by
          rw [← HX.out]
          refine ⟨bel_setCells (B0.out.trans (K6.out.trans FR.out.2)) (by rw [HP.out]; exact Nat.le_refl _) 0 _, blk5 QP9.out YL.out _ XL.out, QR9.out.kep (kep_setCells p X 0 w9) (by omega), ?_, by rw [HP.out]; exact Nat.le_refl _⟩
          have h1 := Kk.Kep.owns (kep_setCells p X 0 w9) (fun k hk e => QP9.out.not_row (by decide) FR.out.1 (by rw [hk, e])) FR.out.1
          exact Kk.owns_mono h1 (Below.size (B0.out.trans K6.out)))
        obtain ⟨W, hW⟩ : ∃ W, w9.setCells p 0 X = W := ⟨_, rfl⟩
        rw [hW] at SX
        rw [hW]
        clear hW TH6 XOne XI QP9 QR9 FR CB RP QP QR K6
        obtain ⟨L, hL⟩ : ∃ L, zs.length = L := ⟨_, rfl⟩
        have HL := Lib.hid hL
        rw [hL] at SX
        have hxm2 : m ≤ x := by omega
        obtain ⟨y, hy⟩ : ∃ y, x - m = y := ⟨_, rfl⟩
        have e1 : IntKind.u64.wrap (x - m) = y := by rw [IntKind.wrap_u64]; omega
        obtain ⟨z, hz2⟩ : ∃ z, bal zs ps true j = z := ⟨_, rfl⟩
        have hsum := (chk_ok z1).2.2
        have g1 := bal_le hz hp4 true i
        have g2 := bal_le hz hp4 true j
        have g3 := bal_words hz hp4 true j
        rw [hx] at g1
        rw [hz2] at g2 g3
        obtain ⟨u, hu⟩ : ∃ u, z + m = u := ⟨_, rfl⟩
        have e2 : IntKind.u64.wrap (z + m) = u := by rw [IntKind.wrap_u64]; omega
        have hz3 : ps.getD j 0 = z := by rw [← hz2]; simp [bal]
        have hj0 : (0 : Int) ≤ (j : Int) := by omega
        have hj4 : (j : Int) < 4 := by omega
        have hij : ¬ i = j := fun e => HFT.out (by rw [e])
        have hz4 : (ps.set i y).getD j 0 = z := by rw [← hz3]; exact getD_set_ne _ _ hij
        have HX2 := Lib.hid (And.intro hx (And.intro hz2 (And.intro hy hu)))
        clear hL hz hp4 hsum g1 g2 g3 hz2 hz3 hy hu hx
        have cR := (SX.out.cellP (k := i) (by first | omega | (simp; omega))).1
        have fR := (SX.out.cellP (k := i) (by first | omega | (simp; omega))).2
        rw [hx2] at cR
        go_upto_region 8 with fail
        have SX := Lib.hid (SX.out.setP i (y))
        obtain ⟨W2, hW⟩ : ∃ V, W.setCell ⟨p, 1 + i, none⟩ (.int .u64 (y)) = V := ⟨_, rfl⟩
        rw [hW] at SX ⊢
        clear hW cR fR
        obtain ⟨W, hW⟩ : ∃ W, W = W2 := ⟨_, rfl⟩
        rw [← hW] at SX ⊢
        clear hW
        have cR := (SX.out.cellP (k := j) (by first | omega | (simp; omega))).1
        have fR := (SX.out.cellP (k := j) (by first | omega | (simp; omega))).2
        rw [hz4] at cR
        go_upto_region 9 with fail
        have SX := Lib.hid (SX.out.setP j (u))
        obtain ⟨W2, hW⟩ : ∃ V, W.setCell ⟨p, 1 + j, none⟩ (.int .u64 (u)) = V := ⟨_, rfl⟩
        rw [hW] at SX ⊢
        clear hW cR fR
        obtain ⟨W, hW⟩ : ∃ W, W = W2 := ⟨_, rfl⟩
        rw [← hW] at SX ⊢
        clear hW
        have hZ : xZ zs ps true true (i : Int) (j : Int) m 0 = zs := by
          unfold xZ okZ xZ'
          rw [if_pos XE.out, HX2.out.1, HX2.out.2.1, HX2.out.2.2.1, HX2.out.2.2.2]
          simp [putZ]
        have hP : xP zs ps true true (i : Int) (j : Int) m 0 = ((ps.set i y).set j u) := by
          unfold xP okP xP'
          rw [if_pos XE.out, HX2.out.1, HX2.out.2.1, HX2.out.2.2.1, HX2.out.2.2.2]
          simp [putP]
        have hgd := x_good (pf := true) (pt := true) (f := i) (t := j) (least := 0) BH.out.good m0
        rw [hZ, hP] at hgd
        have HZP := Lib.hid (And.intro hZ hP)
        have FBE := SX.out.fb (by simp [HL.out])
        obtain ⟨X2, hX2⟩ : ∃ X2, X2 = bkC (.slice (some ⟨g, 0, none⟩) L cv) ((ps.set i y).set j u) := ⟨_, rfl⟩
        have HX3 := Lib.hid hX2
        have QP2 := Lib.hid SX.out.q
        have QR2 := Lib.hid SX.out.r
        rw [← hX2] at FBE QP2
        have X2L := Lib.hid (show X2.length = 5 by rw [hX2]; exact bkC_len (by first | exact h4 | (simp; exact h4)))
        have X2O := Lib.hid (show X2.toArray.all (·.oneCell') = true by rw [hX2]; exact all_oneCell_toArray bkC_one)
        clear hX2 hZ hP
        have RP2 := Lib.hid (rngB QP2.out)
        have X2I := Lib.hid (show (Try.prog.info? 26).map (·.size) = some X2.length by rw [X2L.out]; exact info_bank)
        have X2J := Lib.hid (show (Try.prog.info? 26).map (·.size) = some X2.toArray.size by rw [List.size_toArray, X2L.out]; exact info_bank)
        have TH9 := Lib.hid (show W.there (p + 1) 0 X2.toArray.size from blk_there (C := ZB.toList) QR2.out rfl X2L.out)
        have FE := Lib.hid (FB.same (FBE.set QR2.out (by decide) (o := 0) (Y := X2) (show w.heap.size ≤ p + 1 by have := HP.out; omega)) hgd)
        have BL := Lib.hid (Pm.bwhole (vs := X2) QR2.out (by rw [X2L.out]; rfl))
        clear FBE hgd
        go_wp2_with (first | ((with_reducible refine wpList_load_mid ?_ 26 (.tmp 4) ?_ p 0 ?_ X2 _ RP2.out uB ?_ X2I.out ?_); rfl; rfl; rfl; rfl) | ((with_reducible refine wpList_store_mid ?_ 26 (.tmp 8) (.tmp 59) ?_ (p + 1) 0 X2.toArray ?_ ?_ TH9.out X2J.out X2O.out ?_); rfl; rfl; rfl; rfl))
        refine bodyPost_ret (v := .tuple #[.agg X2.toArray, .int .i64 0]) (Pm.res_ci rfl _ _ ⟨p + 1, 0, none⟩ (.agg X2.toArray) (.int .i64 0) rfl rfl (Pm.load_b BL.out uB rfl X2I.out)) rfl ⟨X2, by rw [XE.out], ?_⟩
        rw [HZP.out.1, HZP.out.2]
        exact FE.out

set_option maxHeartbeats 1000000 in
theorem burnR (f m : Int) (Y : List Value) (zs ps : List Int) (w : World) (h : BV w Y zs ps) (m0 : 0 ≤ m) (m1 : m ≤ 18446744073709551615) :
    Calls Try.prog 55 #[.agg Y.toArray, .int .i64 f, .int .u64 m] w fun e w' => ∃ X, e = .returned (.tuple #[.agg X.toArray, .int .i64 (xE zs ps true true f 2 m 0)]) ∧ NB w w' X (xZ zs ps true true f 2 m 0) (xP zs ps true true f 2 m 0) := by
  have MV := Lib.hid (fun V hb => moveR f 2 m Y zs ps V (h.bel hb) m0 m1)
  have iY := Lib.hid (show (Try.prog.info? 26).map (·.size) = some Y.length by rw [h.len]; exact info_bank)
  have uB := Try.underlying26
  have YL := Lib.hid h.len
  clear h
  obtain ⟨W0, hW0⟩ : ∃ W0, (w.alloc (.cells Y.toArray 26)).alloc (.cells ZB 26) = W0 := ⟨_, rfl⟩
  obtain ⟨p, hp⟩ : ∃ p, w.heap.size = p := ⟨_, rfl⟩
  have B0 := Lib.hid (show Kk.Bel w W0 by rw [← hW0]; exact ((Kk.Bel.refl w).alloc _).alloc _)
  have QP := Lib.hid (show Kk.Blk W0 p Y.toArray 26 by rw [← hW0, ← hp]; exact (Kk.Blk.new w _ _).alloc _)
  have QR := Lib.hid (show Kk.Blk W0 (p + 1) ZB 26 by rw [← hW0, ← hp, ← World.size_alloc w (.cells Y.toArray 26)]; exact Kk.Blk.new _ _ _)
  have HW0 := Lib.hid hW0
  have HP := Lib.hid hp
  have R0 := Lib.hid (rngB QP.out)
  obtain ⟨E, hE⟩ : ∃ E, xE zs ps true true f 2 m 0 = E := ⟨_, rfl⟩
  rw [hE] at MV
  have HE := Lib.hid hE
  clear hW0 hp hE
  go_enter Try.func55, Try.ntmps55
  go_upto_region 1 with fail
  rw [HW0.out, HP.out]
  go_wp2_with ((with_reducible refine wpList_load_mid ?_ 26 (.tmp 3) ?_ p 0 ?_ Y _ R0.out uB ?_ iY.out ?_); rfl; rfl; rfl; rfl)
  refine (MV.out _ B0.out).mono ?_
  rintro e w1 ⟨X, rfl, hnb⟩
  have HN := Lib.hid (NB.after B0.out hnb)
  have QR1 := Lib.hid (QR.out.bel hnb.bel)
  have XL := Lib.hid hnb.2.len
  have XO := Lib.hid hnb.2.one
  have XI := Lib.hid (show (Try.prog.info? 26).map (·.size) = some X.toArray.size by rw [List.size_toArray, XL.out]; exact info_bank)
  have XJ := Lib.hid (show (Try.prog.info? 26).map (·.size) = some X.length by rw [XL.out]; exact info_bank)
  have TH := Lib.hid (show w1.there (p + 1) 0 X.toArray.size from blk_there (C := ZB.toList) QR1.out rfl XL.out)
  have BL := Lib.hid (Pm.bwhole (vs := X) QR1.out (by rw [XL.out]; rfl))
  have FE := Lib.hid (FB.same (HN.out.1.set QR1.out (by decide) (o := 0) (Y := X) (show w.heap.size ≤ p + 1 by have := HP.out; omega)) HN.out.2.good)
  clear hnb
  go_wp2_with ((with_reducible refine wpList_store_mid ?_ 26 (.tmp 6) (.tmp 12) ?_ (p + 1) 0 X.toArray ?_ ?_ TH.out XI.out XO.out ?_); rfl; rfl; rfl; rfl)
  refine bodyPost_ret (v := .tuple #[.agg X.toArray, .int .i64 E]) (Pm.res_ci rfl _ _ ⟨p + 1, 0, none⟩ (.agg X.toArray) (.int .i64 E) rfl rfl (Pm.load_b BL.out uB rfl XJ.out)) rfl ⟨X, by rw [HE.out], FE.out⟩
end Bk
end Go.Proofs.Ytgdaojbflokmoaa
