/-
  Texts of this claim, put together: PRef, PRec, PRf2, PRf3, PRf4. What each one says, and under which conditions, stands ahead of it.
-/
import Derived.Laws.CopyOwn
import Derived.Test.YtpohcdfmkcfonaaGreatDoorPA

section
/-
  What the reference's bounds, and the kit's Fields and Record, answer. Conditions: the eleven numbers are of their kinds.
-/
namespace Go.Proofs.YtpohcdfmkcfonaaGreatDoor
open Go.RowKit Go.Shelf
set_option linter.unusedVariables false
namespace Pm
open Kk

/-- A new row of ints. -/
def IntsE (xs : List Int) (w : World) (e : Ending) (w' : World) : Prop := ∃ b, e = .returned (.slice (some ⟨b, 0, none⟩) xs.length xs.length) ∧ Blk w' b (xs.map (Value.int .i64)).toArray 3 ∧ w.heap.size ≤ b ∧ Bel w w'
theorem blk_at {w : World} {cs cs' : Array Value} {t : TypeId} {b : Nat} (h : w.heap.size = b) (e : cs = cs') : Blk (w.alloc (.cells cs t)) b cs' t := by
  subst h
  subst e
  exact Blk.new w _ _
theorem ints_cell {w : World} {b : Nat} {xs : List Int} (h : Blk w b (xs.map (Value.int .i64)).toArray 3) (i : Nat) (hi : i < xs.length) : w.cell? ⟨b, i, none⟩ = some (.int .i64 (xs.getD i 0)) :=
  h.cell i (by rw [List.getElem?_toArray, List.getElem?_map, List.getElem?_eq_getElem hi, getD_eq _ _ hi]; rfl)

set_option maxRecDepth 100000 in
set_option maxHeartbeats 1000000 in
theorem leastR (w : World) : Calls Tryz.prog 43 #[] w (IntsE los w) := by
  go_enter Tryz.func43, Tryz.ntmps43
  go_wp2
  go_ret
  exact ⟨w.heap.size, rfl, Blk.new w _ _, Nat.le_refl _, (Bel.refl w).alloc _⟩
set_option maxRecDepth 100000 in
set_option maxHeartbeats 1000000 in
theorem mostR (w : World) : Calls Tryz.prog 44 #[] w (IntsE his w) := by
  go_enter Tryz.func44, Tryz.ntmps44
  go_wp2
  go_ret
  exact ⟨w.heap.size, rfl, Blk.new w _ _, Nat.le_refl _, (Bel.refl w).alloc _⟩

set_option maxRecDepth 100000 in
set_option maxHeartbeats 1000000 in
theorem within (i : Nat) (hi11 : i < 11) (n : Int) (w : World) : Calls Tryz.prog 34 #[.int .i64 i, .int .i64 n] w fun e w' => e = .returned (.bool (okB (lo i) (hi i) n)) ∧ Bel w w' := by
  obtain ⟨a, ha⟩ : ∃ a, los.getD i 0 = a := ⟨_, rfl⟩
  obtain ⟨b, hb⟩ : ∃ b, his.getD i 0 = b := ⟨_, rfl⟩
  rw [show lo i = a from ha, show hi i = b from hb]
  have HA := Lib.hid (show ∀ (W : World) (g : Nat), Blk W g (los.map (Value.int .i64)).toArray 3 → W.cell? ⟨g, i, none⟩ = some (.int .i64 a) from fun W g h => by rw [← ha]; exact ints_cell h i hi11)
  have HB := Lib.hid (show ∀ (W : World) (g : Nat), Blk W g (his.map (Value.int .i64)).toArray 3 → W.cell? ⟨g, i, none⟩ = some (.int .i64 b) from fun W g h => by rw [← hb]; exact ints_cell h i hi11)
  clear ha hb
  by_cases h1 : a ≤ n
  · by_cases h2 : n ≤ b
    · have HO := Lib.hid (show okB a b n = true by simp [okB, h1, h2])
      go_enter Tryz.func34, Tryz.ntmps34
      go_wp2_with fail
      refine (leastR _).mono ?_
      rintro e w1 ⟨g, rfl, hg, _, k1⟩
      have c1 := HA.out _ _ hg
      have B1 := Lib.hid (show Bel w w1 from k1)
      clear hg k1
      go_wp2_with fail
      refine (mostR _).mono ?_
      rintro e w2 ⟨g2, rfl, hg2, _, k2⟩
      have c2 := HB.out _ _ hg2
      have B2 := Lib.hid (show Bel w1 w2 from k2)
      clear hg2 k2 c1
      go_wp2
      go_ret
      exact ⟨by rw [HO.out]; rfl, B1.out.trans B2.out⟩
    · have HO := Lib.hid (show okB a b n = false by simp [okB, h2])
      have hd : decide (n ≤ b) = false := by simpa using h2
      go_enter Tryz.func34, Tryz.ntmps34
      go_wp2_with fail
      refine (leastR _).mono ?_
      rintro e w1 ⟨g, rfl, hg, _, k1⟩
      have c1 := HA.out _ _ hg
      have B1 := Lib.hid (show Bel w w1 from k1)
      clear hg k1
      go_wp2_with fail
      refine (mostR _).mono ?_
      rintro e w2 ⟨g2, rfl, hg2, _, k2⟩
      have c2 := HB.out _ _ hg2
      have B2 := Lib.hid (show Bel w1 w2 from k2)
      clear hg2 k2 c1
      go_wp2
      go_ret
      exact ⟨by rw [HO.out]; rfl, B1.out.trans B2.out⟩
  · have HO := Lib.hid (show okB a b n = false by simp [okB, h1])
    go_enter Tryz.func34, Tryz.ntmps34
    go_wp2_with fail
    refine (leastR _).mono ?_
    rintro e w1 ⟨g, rfl, hg, _, k1⟩
    have c1 := HA.out _ _ hg
    have B1 := Lib.hid (show Bel w w1 from k1)
    clear hg k1
    go_wp2
    go_ret
    exact ⟨by rw [HO.out]; rfl, B1.out⟩

/-- What Fields makes of a record: no word above 2^40. -/
def fv (x : Nat → Int) (i : Nat) : Int := if isU i then min (x i) 1099511627776 else x i
def fvs (x : Nat → Int) : List Int := [x 0, x 1, x 2, x 3, x 4, x 5, x 6, min (x 7) 1099511627776, min (x 8) 1099511627776, x 9, min (x 10) 1099511627776]
theorem fvs_at (x : Nat → Int) (i : Nat) (hi : i < 11) : (fvs x).getD i 0 = fv x i := by
  match i, hi with
  | 0, _ => rfl
  | 1, _ => rfl
  | 2, _ => rfl
  | 3, _ => rfl
  | 4, _ => rfl
  | 5, _ => rfl
  | 6, _ => rfl
  | 7, _ => rfl
  | 8, _ => rfl
  | 9, _ => rfl
  | 10, _ => rfl
  | n + 11, h => omega
theorem lohi (i : Nat) (hi11 : i < 11) : 0 ≤ lo i ∧ lo i ≤ hi i ∧ hi i ≤ 1000000000 := by
  match i, hi11 with
  | 0, _ => decide
  | 1, _ => decide
  | 2, _ => decide
  | 3, _ => decide
  | 4, _ => decide
  | 5, _ => decide
  | 6, _ => decide
  | 7, _ => decide
  | 8, _ => decide
  | 9, _ => decide
  | 10, _ => decide
  | n + 11, h => omega
theorem okF_fv {x : Nat → Int} (hx : Kinds x) (i : Nat) (hi11 : i < 11) : okF x i = okB (lo i) (hi i) (fv x i) := by
  have h := lohi i hi11
  have hk := hx i hi11
  unfold okF okB wv fv
  cases hu : isU i with
  | true =>
    have h2 := hk.1 hu
    rw [if_pos rfl, if_pos rfl, decide_eq_decide]
    omega
  | false =>
    have h2 := hk.2 hu
    rw [if_neg Bool.false_ne_true, if_neg Bool.false_ne_true, decide_eq_decide]
    simp only [IntKind.wrap, IntKind.bits, IntKind.signed]
    simp
    omega

set_option maxRecDepth 100000 in
set_option maxHeartbeats 2000000 in
theorem fieldsK (x : Nat → Int) (hx : Kinds x) (w : World) : Calls Tryz.prog 24 #[.agg (recC x).toArray] w (IntsE (fvs x) w) := by
  obtain ⟨h7, h7'⟩ := (hx 7 (by omega)).1 rfl
  obtain ⟨h8, h8'⟩ := (hx 8 (by omega)).1 rfl
  obtain ⟨hA, hA'⟩ := (hx 10 (by omega)).1 rfl
  rw [show (recC x).toArray = #[.int .i64 (x 0), .int .i64 (x 1), .int .i64 (x 2), .int .i64 (x 3), .int .i64 (x 4), .int .i64 (x 5), .int .i64 (x 6), .int .u64 (x 7), .int .u64 (x 8), .int .i64 (x 9), .int .u64 (x 10)] from rfl]
  go_enter Tryz.func24, Tryz.ntmps24
  go_wp2
  all_goals
    go_ret
    refine ⟨w.heap.size + 1, rfl, blk_at (by simp) ?_, Nat.le_succ _, ((Bel.refl w).alloc _).alloc _⟩
    simp [fvs]
    try omega
end Pm
end Go.Proofs.YtpohcdfmkcfonaaGreatDoor
end

section
/-
  What the kit's Record answers: the record of eleven numbers. Condition: the slice has eleven numbers.
-/
namespace Go.Proofs.YtpohcdfmkcfonaaGreatDoor
open Go.RowKit Go.Shelf
set_option linter.unusedVariables false
namespace Pm
open Kk

theorem info_int : (Tryz.prog.info? 3).map (fun i => (i.zero, i.size, i.bytes)) = some (some (.int .i64 0), 1, 8) := by kernel_rfl
def xg (xs : List Int) (i : Nat) : Int := xs.getD i 0
theorem info_int1 : (Tryz.prog.info? 3).map (·.size) = some 1 := by kernel_rfl
theorem add_addr (b o j : Nat) : (⟨b, o, none⟩ : Addr).add j = ⟨b, o + j, none⟩ := by
  unfold Addr.add
  by_cases h : j = 0
  · simp [h]
  · simp [h]
def toR (xs : List Int) (i : Nat) : Int := if isU i then IntKind.u64.wrap (xg xs i) else xg xs i
def RecE (y : Nat → Int) (w : World) (e : Ending) (w' : World) : Prop := e = .returned (.agg (recC y).toArray) ∧ Bel w w'

set_option maxRecDepth 100000 in
set_option maxHeartbeats 4000000 in
theorem recordK (b o c : Nat) (xs : List Int) (hl : xs.length = 11) (hc : 11 ≤ c) (w : World) (hr : w.rangeAt b o (xs.map (Value.int .i64))) : Calls Tryz.prog 35 #[.slice (some ⟨b, o, none⟩) 11 c] w (RecE (toR xs) w) := by
  have HR := Lib.hid hr
  obtain ⟨r, hr0⟩ : ∃ r, w.heap.size = r := ⟨_, rfl⟩
  have HR0 := Lib.hid hr0
  obtain ⟨Y, hY⟩ : ∃ Y, Y = xs.map (Value.int .i64) := ⟨_, rfl⟩
  have HYl := Lib.hid (show Y.length = 11 by rw [hY]; simpa using hl)
  have HY := Lib.hid hY
  rw [← hY] at HR
  clear hr hr0 hY
  go_enter Tryz.func35, Tryz.ntmps35
  obtain ⟨i0, i1, i2, i3, i4⟩ := info_parts info_int
  go_upto_region 2 with (at_make; refine wpList_make_full _ rfl _ _ 62 rfl (w.heap.size + 1) 3 i0 (.int .i64 0) 1 Tryz.underlying62 i1 i2 i3 .i64 .i64 11 11 11 rfl rfl rfl rfl (by rw [i4]; omega) (by unfold maxLen; omega) (by simp) ?_; intro w1 hown hgrow)
  obtain ⟨g, hg0⟩ : ∃ g, w.heap.size + 1 = g := ⟨_, rfl⟩
  rw [World.size_alloc, hg0] at hown
  rw [hg0]
  obtain ⟨W1, hW1⟩ : ∃ W1, w.alloc (.cells #[.int .i64 0, .int .i64 0, .int .i64 0, .int .i64 0, .int .i64 0, .int .i64 0, .int .i64 0, .int .u64 0, .int .u64 0, .int .i64 0, .int .u64 0] 24) = W1 := ⟨_, rfl⟩
  have hz1 : W1.heap.size = g := by rw [← hW1, World.size_alloc]; exact hg0
  have b1 : Bel w W1 := by rw [← hW1]; exact (Bel.refl w).alloc _
  have k1 : Blk W1 r (recC fun _ => 0).toArray 24 := by rw [← hW1, ← HR0.out]; exact Blk.new w _ _
  rw [hW1] at hgrow
  have b2 : Bel W1 w1 := (Bel.refl W1).grown hgrow (fun k hk => by cases hk)
  rcases hown.2 with ⟨hn, _⟩ | ⟨g', cap, cur, hv, _, hcur, _, _, hsz, _⟩
  · cases hn
  injection hv with hv1 hv2 hv3
  injection hv1 with hv1
  injection hv1 with hv1
  subst hv1
  subst hv3
  have HS := Lib.hid (show 0 + Y.length ≤ cur.size by rw [HYl.out, hsz]; omega)
  have HC := Lib.hid hcur
  have HY11 := Lib.hid (show Y.length = Nat.min 11 11 from HYl.out)
  have YO := Lib.hid (show ∀ v ∈ Y, v.oneCell' = true by rw [HY.out]; exact ints_ok xs)
  have HSR := Lib.hid (show ∀ j v, Y[j]? = some v → w1.cell? ((⟨b, o, none⟩ : Addr).add j) = some v from fun j v hv => by rw [add_addr]; exact rng_bel (rng_bel HR.out b1) b2 j v hv)
  obtain ⟨w3, hw3⟩ : ∃ w3, w1.setRow g (List.take 0 cur.toList ++ (Y ++ List.drop (0 + Y.length) cur.toList)).toArray = w3 := ⟨_, rfl⟩
  have B3 := Lib.hid (show Bel W1 w3 by rw [← hw3]; exact below_setRow b2 (by rw [hz1]; exact Nat.le_refl _) _)
  have K3 := Lib.hid (show w3.rangeAt g 0 Y by
    have h := setRow_heap w1 g cur (List.take 0 cur.toList ++ (Y ++ List.drop (0 + Y.length) cur.toList)).toArray _ _ hcur
    rw [hw3] at h
    exact brange (pre := List.take 0 cur.toList) (mid := Y) (post := List.drop (0 + Y.length) cur.toList) h)
  have HW3 := Lib.hid hw3
  have B1 := Lib.hid b1
  have K1 := Lib.hid k1
  have HGR := Lib.hid (show g ≠ r by rw [← hg0, ← HR0.out]; omega)
  rw [HR0.out]
  clear hown hgrow hcur hsz hv2 b2 b1 k1 hz1 hW1 hg0 hw3
  go_upto_region 3 with (with_reducible refine wpList_copy_own rfl (.tmp 5) (.tmp 6) 62 62 rfl 3 Tryz.underlying62 info_int1 g 0 11 11 ⟨b, o, none⟩ 11 c rfl rfl cur 3 HC.out Y HY11.out HSR.out HS.out YO.out ?_)
  rw [HW3.out]
  try simp only [Act.put, List.setIfInBounds_toArray, List.set_cons_zero, List.set_cons_succ]
  have K4 := Lib.hid (K1.out.bel B3.out)
  obtain ⟨E, hE⟩ : ∃ E, E = recC (toR xs) := ⟨_, rfl⟩
  have HEA := Lib.hid (show E.toArray = #[.int .i64 (xg xs 0), .int .i64 (xg xs 1), .int .i64 (xg xs 2), .int .i64 (xg xs 3), .int .i64 (xg xs 4), .int .i64 (xg xs 5), .int .i64 (xg xs 6), .int .u64 (IntKind.u64.wrap (xg xs 7)), .int .u64 (IntKind.u64.wrap (xg xs 8)), .int .i64 (xg xs 9), .int .u64 (IntKind.u64.wrap (xg xs 10))] by rw [hE]; rfl)
  have TE := Lib.hid (show w3.drew.there r 0 E.toArray.size by rw [hE]; exact (store_rec (K4.out.bel (Bel.refl w3).drew)).1)
  have BE := Lib.hid (show Blk (w3.drew.setCells r 0 E) r E.toArray 24 by rw [hE]; exact (store_rec (K4.out.bel (Bel.refl w3).drew)).2)
  have EI := Lib.hid (show (Tryz.prog.info? 24).map (·.size) = some E.length by rw [hE]; exact info_rec)
  have EI2 := Lib.hid (show (Tryz.prog.info? 24).map (·.size) = some E.toArray.size by rw [hE]; exact info_rec)
  have EO := Lib.hid (all_oneCell_toArray (cs := E) (by rw [hE]; exact recC_cells _))
  have EB := Lib.hid (show Bel w (w3.drew.setCells r 0 E) from bel_setCells ((B1.out.trans B3.out).drew) (by rw [HR0.out]; exact Nat.le_refl _) 0 E)
  have HE := Lib.hid hE
  have RC := Lib.hid (show ∀ V : World, V.rangeAt g 0 Y → ∀ i, i < 11 → V.cell? ⟨g, i, none⟩ = some (.int .i64 (xg xs i)) from fun V h i hi => by
    have := h i (.int .i64 (xg xs i)) (by rw [HY.out, List.getElem?_map, List.getElem?_eq_getElem (by have := HYl.out; rw [HY.out] at this; simp at this; omega)]; unfold xg; rw [getD_eq _ _ (by have := HYl.out; rw [HY.out] at this; simp at this; omega)]; rfl)
    rwa [Nat.zero_add] at this)
  clear hE
  refine wp_region_held_drew (S := fun V => V.rangeAt g 0 Y) (by kernel_rfl) (rng_bel K3.out (Bel.refl w3).drew) (fun hS0 => ?_)
  refine wpAnyH_take (i := 0) (oi := { dst := some 8, op := .move (.tmp 3), type := 62, pos := "params.go:14", after := #[], guard := none }) (v := .slice (some ⟨g, 0, none⟩) 11 11) rfl (by kernel_rfl) (by kernel_rfl) (by kernel_rfl) (fun _ _ _ h => h) (Or.inl ⟨by rfl, by intro w hSw; clear hSw; go_simp⟩) hS0 ?_
  try simp only [Act.put, List.setIfInBounds_toArray, List.set_cons_zero, List.set_cons_succ]
  refine wpAnyH_take (i := 1) (oi := { dst := some 9, op := .indexAddr 62 (.tmp 8) (.const (Value.int IntKind.i64 0)), type := 0, pos := "params.go:14", after := #[{ on := 0, ground := .data }], guard := none }) (v := .pointer (some ⟨g, 0, none⟩)) rfl (by kernel_rfl) (by kernel_rfl) (by kernel_rfl) (fun _ _ _ h => h) (Or.inl ⟨by rfl, by intro w hSw; clear hSw; go_simp⟩) hS0 ?_
  try simp only [Act.put, List.setIfInBounds_toArray, List.set_cons_zero, List.set_cons_succ]
  refine wpAnyH_take (i := 2) (oi := { dst := some 10, op := .load 3 (.tmp 9), type := 3, pos := "params.go:14", after := #[{ on := 1, ground := .data }], guard := none }) (v := .int .i64 (xg xs 0)) rfl (by kernel_rfl) (by kernel_rfl) (by kernel_rfl) (fun _ _ _ h => h) (Or.inl ⟨by rfl, by intro w h; have hcell := (RC.out _ h 0 (by omega)); clear h; go_simp⟩) hS0 ?_
  try simp only [Act.put, List.setIfInBounds_toArray, List.set_cons_zero, List.set_cons_succ]
  refine wpAnyH_take (i := 3) (oi := { dst := some 11, op := .move (.tmp 3), type := 62, pos := "params.go:14", after := #[], guard := none }) (v := .slice (some ⟨g, 0, none⟩) 11 11) rfl (by kernel_rfl) (by kernel_rfl) (by kernel_rfl) (fun _ _ _ h => h) (Or.inl ⟨by rfl, by intro w hSw; clear hSw; go_simp⟩) hS0 ?_
  try simp only [Act.put, List.setIfInBounds_toArray, List.set_cons_zero, List.set_cons_succ]
  refine wpAnyH_take (i := 4) (oi := { dst := some 12, op := .indexAddr 62 (.tmp 11) (.const (Value.int IntKind.i64 1)), type := 0, pos := "params.go:14", after := #[{ on := 3, ground := .data }], guard := none }) (v := .pointer (some ⟨g, 1, none⟩)) rfl (by kernel_rfl) (by kernel_rfl) (by kernel_rfl) (fun _ _ _ h => h) (Or.inl ⟨by rfl, by intro w hSw; clear hSw; go_simp⟩) hS0 ?_
  try simp only [Act.put, List.setIfInBounds_toArray, List.set_cons_zero, List.set_cons_succ]
  refine wpAnyH_take (i := 5) (oi := { dst := some 13, op := .load 3 (.tmp 12), type := 3, pos := "params.go:14", after := #[{ on := 4, ground := .data }], guard := none }) (v := .int .i64 (xg xs 1)) rfl (by kernel_rfl) (by kernel_rfl) (by kernel_rfl) (fun _ _ _ h => h) (Or.inl ⟨by rfl, by intro w h; have hcell := (RC.out _ h 1 (by omega)); clear h; go_simp⟩) hS0 ?_
  try simp only [Act.put, List.setIfInBounds_toArray, List.set_cons_zero, List.set_cons_succ]
  refine wpAnyH_take (i := 6) (oi := { dst := some 14, op := .move (.tmp 3), type := 62, pos := "params.go:14", after := #[], guard := none }) (v := .slice (some ⟨g, 0, none⟩) 11 11) rfl (by kernel_rfl) (by kernel_rfl) (by kernel_rfl) (fun _ _ _ h => h) (Or.inl ⟨by rfl, by intro w hSw; clear hSw; go_simp⟩) hS0 ?_
  try simp only [Act.put, List.setIfInBounds_toArray, List.set_cons_zero, List.set_cons_succ]
  refine wpAnyH_take (i := 7) (oi := { dst := some 15, op := .indexAddr 62 (.tmp 14) (.const (Value.int IntKind.i64 2)), type := 0, pos := "params.go:14", after := #[{ on := 6, ground := .data }], guard := none }) (v := .pointer (some ⟨g, 2, none⟩)) rfl (by kernel_rfl) (by kernel_rfl) (by kernel_rfl) (fun _ _ _ h => h) (Or.inl ⟨by rfl, by intro w hSw; clear hSw; go_simp⟩) hS0 ?_
  try simp only [Act.put, List.setIfInBounds_toArray, List.set_cons_zero, List.set_cons_succ]
  refine wpAnyH_take (i := 8) (oi := { dst := some 16, op := .load 3 (.tmp 15), type := 3, pos := "params.go:14", after := #[{ on := 7, ground := .data }], guard := none }) (v := .int .i64 (xg xs 2)) rfl (by kernel_rfl) (by kernel_rfl) (by kernel_rfl) (fun _ _ _ h => h) (Or.inl ⟨by rfl, by intro w h; have hcell := (RC.out _ h 2 (by omega)); clear h; go_simp⟩) hS0 ?_
  try simp only [Act.put, List.setIfInBounds_toArray, List.set_cons_zero, List.set_cons_succ]
  refine wpAnyH_take (i := 9) (oi := { dst := some 17, op := .move (.tmp 3), type := 62, pos := "params.go:14", after := #[], guard := none }) (v := .slice (some ⟨g, 0, none⟩) 11 11) rfl (by kernel_rfl) (by kernel_rfl) (by kernel_rfl) (fun _ _ _ h => h) (Or.inl ⟨by rfl, by intro w hSw; clear hSw; go_simp⟩) hS0 ?_
  try simp only [Act.put, List.setIfInBounds_toArray, List.set_cons_zero, List.set_cons_succ]
  refine wpAnyH_take (i := 10) (oi := { dst := some 18, op := .indexAddr 62 (.tmp 17) (.const (Value.int IntKind.i64 3)), type := 0, pos := "params.go:14", after := #[{ on := 9, ground := .data }], guard := none }) (v := .pointer (some ⟨g, 3, none⟩)) rfl (by kernel_rfl) (by kernel_rfl) (by kernel_rfl) (fun _ _ _ h => h) (Or.inl ⟨by rfl, by intro w hSw; clear hSw; go_simp⟩) hS0 ?_
  try simp only [Act.put, List.setIfInBounds_toArray, List.set_cons_zero, List.set_cons_succ]
  refine wpAnyH_take (i := 11) (oi := { dst := some 19, op := .load 3 (.tmp 18), type := 3, pos := "params.go:14", after := #[{ on := 10, ground := .data }], guard := none }) (v := .int .i64 (xg xs 3)) rfl (by kernel_rfl) (by kernel_rfl) (by kernel_rfl) (fun _ _ _ h => h) (Or.inl ⟨by rfl, by intro w h; have hcell := (RC.out _ h 3 (by omega)); clear h; go_simp⟩) hS0 ?_
  try simp only [Act.put, List.setIfInBounds_toArray, List.set_cons_zero, List.set_cons_succ]
  refine wpAnyH_take (i := 12) (oi := { dst := some 20, op := .move (.tmp 3), type := 62, pos := "params.go:14", after := #[], guard := none }) (v := .slice (some ⟨g, 0, none⟩) 11 11) rfl (by kernel_rfl) (by kernel_rfl) (by kernel_rfl) (fun _ _ _ h => h) (Or.inl ⟨by rfl, by intro w hSw; clear hSw; go_simp⟩) hS0 ?_
  try simp only [Act.put, List.setIfInBounds_toArray, List.set_cons_zero, List.set_cons_succ]
  refine wpAnyH_take (i := 13) (oi := { dst := some 21, op := .indexAddr 62 (.tmp 20) (.const (Value.int IntKind.i64 4)), type := 0, pos := "params.go:14", after := #[{ on := 12, ground := .data }], guard := none }) (v := .pointer (some ⟨g, 4, none⟩)) rfl (by kernel_rfl) (by kernel_rfl) (by kernel_rfl) (fun _ _ _ h => h) (Or.inl ⟨by rfl, by intro w hSw; clear hSw; go_simp⟩) hS0 ?_
  try simp only [Act.put, List.setIfInBounds_toArray, List.set_cons_zero, List.set_cons_succ]
  refine wpAnyH_take (i := 14) (oi := { dst := some 22, op := .load 3 (.tmp 21), type := 3, pos := "params.go:14", after := #[{ on := 13, ground := .data }], guard := none }) (v := .int .i64 (xg xs 4)) rfl (by kernel_rfl) (by kernel_rfl) (by kernel_rfl) (fun _ _ _ h => h) (Or.inl ⟨by rfl, by intro w h; have hcell := (RC.out _ h 4 (by omega)); clear h; go_simp⟩) hS0 ?_
  try simp only [Act.put, List.setIfInBounds_toArray, List.set_cons_zero, List.set_cons_succ]
  refine wpAnyH_take (i := 15) (oi := { dst := some 23, op := .move (.tmp 3), type := 62, pos := "params.go:14", after := #[], guard := none }) (v := .slice (some ⟨g, 0, none⟩) 11 11) rfl (by kernel_rfl) (by kernel_rfl) (by kernel_rfl) (fun _ _ _ h => h) (Or.inl ⟨by rfl, by intro w hSw; clear hSw; go_simp⟩) hS0 ?_
  try simp only [Act.put, List.setIfInBounds_toArray, List.set_cons_zero, List.set_cons_succ]
  refine wpAnyH_take (i := 16) (oi := { dst := some 24, op := .indexAddr 62 (.tmp 23) (.const (Value.int IntKind.i64 5)), type := 0, pos := "params.go:14", after := #[{ on := 15, ground := .data }], guard := none }) (v := .pointer (some ⟨g, 5, none⟩)) rfl (by kernel_rfl) (by kernel_rfl) (by kernel_rfl) (fun _ _ _ h => h) (Or.inl ⟨by rfl, by intro w hSw; clear hSw; go_simp⟩) hS0 ?_
  try simp only [Act.put, List.setIfInBounds_toArray, List.set_cons_zero, List.set_cons_succ]
  refine wpAnyH_take (i := 17) (oi := { dst := some 25, op := .load 3 (.tmp 24), type := 3, pos := "params.go:14", after := #[{ on := 16, ground := .data }], guard := none }) (v := .int .i64 (xg xs 5)) rfl (by kernel_rfl) (by kernel_rfl) (by kernel_rfl) (fun _ _ _ h => h) (Or.inl ⟨by rfl, by intro w h; have hcell := (RC.out _ h 5 (by omega)); clear h; go_simp⟩) hS0 ?_
  try simp only [Act.put, List.setIfInBounds_toArray, List.set_cons_zero, List.set_cons_succ]
  refine wpAnyH_take (i := 18) (oi := { dst := some 26, op := .move (.tmp 3), type := 62, pos := "params.go:14", after := #[], guard := none }) (v := .slice (some ⟨g, 0, none⟩) 11 11) rfl (by kernel_rfl) (by kernel_rfl) (by kernel_rfl) (fun _ _ _ h => h) (Or.inl ⟨by rfl, by intro w hSw; clear hSw; go_simp⟩) hS0 ?_
  try simp only [Act.put, List.setIfInBounds_toArray, List.set_cons_zero, List.set_cons_succ]
  refine wpAnyH_take (i := 19) (oi := { dst := some 27, op := .indexAddr 62 (.tmp 26) (.const (Value.int IntKind.i64 6)), type := 0, pos := "params.go:14", after := #[{ on := 18, ground := .data }], guard := none }) (v := .pointer (some ⟨g, 6, none⟩)) rfl (by kernel_rfl) (by kernel_rfl) (by kernel_rfl) (fun _ _ _ h => h) (Or.inl ⟨by rfl, by intro w hSw; clear hSw; go_simp⟩) hS0 ?_
  try simp only [Act.put, List.setIfInBounds_toArray, List.set_cons_zero, List.set_cons_succ]
  refine wpAnyH_take (i := 20) (oi := { dst := some 28, op := .load 3 (.tmp 27), type := 3, pos := "params.go:14", after := #[{ on := 19, ground := .data }], guard := none }) (v := .int .i64 (xg xs 6)) rfl (by kernel_rfl) (by kernel_rfl) (by kernel_rfl) (fun _ _ _ h => h) (Or.inl ⟨by rfl, by intro w h; have hcell := (RC.out _ h 6 (by omega)); clear h; go_simp⟩) hS0 ?_
  try simp only [Act.put, List.setIfInBounds_toArray, List.set_cons_zero, List.set_cons_succ]
  refine wpAnyH_take (i := 21) (oi := { dst := some 29, op := .move (.tmp 3), type := 62, pos := "params.go:14", after := #[], guard := none }) (v := .slice (some ⟨g, 0, none⟩) 11 11) rfl (by kernel_rfl) (by kernel_rfl) (by kernel_rfl) (fun _ _ _ h => h) (Or.inl ⟨by rfl, by intro w hSw; clear hSw; go_simp⟩) hS0 ?_
  try simp only [Act.put, List.setIfInBounds_toArray, List.set_cons_zero, List.set_cons_succ]
  refine wpAnyH_take (i := 22) (oi := { dst := some 30, op := .indexAddr 62 (.tmp 29) (.const (Value.int IntKind.i64 7)), type := 0, pos := "params.go:14", after := #[{ on := 21, ground := .data }], guard := none }) (v := .pointer (some ⟨g, 7, none⟩)) rfl (by kernel_rfl) (by kernel_rfl) (by kernel_rfl) (fun _ _ _ h => h) (Or.inl ⟨by rfl, by intro w hSw; clear hSw; go_simp⟩) hS0 ?_
  try simp only [Act.put, List.setIfInBounds_toArray, List.set_cons_zero, List.set_cons_succ]
  refine wpAnyH_take (i := 23) (oi := { dst := some 31, op := .load 3 (.tmp 30), type := 3, pos := "params.go:14", after := #[{ on := 22, ground := .data }], guard := none }) (v := .int .i64 (xg xs 7)) rfl (by kernel_rfl) (by kernel_rfl) (by kernel_rfl) (fun _ _ _ h => h) (Or.inl ⟨by rfl, by intro w h; have hcell := (RC.out _ h 7 (by omega)); clear h; go_simp⟩) hS0 ?_
  try simp only [Act.put, List.setIfInBounds_toArray, List.set_cons_zero, List.set_cons_succ]
  refine wpAnyH_take (i := 24) (oi := { dst := some 32, op := .convert 3 22 (.tmp 31), type := 22, pos := "params.go:14", after := #[{ on := 23, ground := .data }], guard := none }) (v := .int .u64 (IntKind.u64.wrap (xg xs 7))) rfl (by kernel_rfl) (by kernel_rfl) (by kernel_rfl) (fun _ _ _ h => h) (Or.inl ⟨by rfl, by intro w hSw; clear hSw; go_simp⟩) hS0 ?_
  try simp only [Act.put, List.setIfInBounds_toArray, List.set_cons_zero, List.set_cons_succ]
  refine wpAnyH_take (i := 25) (oi := { dst := some 33, op := .move (.tmp 3), type := 62, pos := "params.go:14", after := #[], guard := none }) (v := .slice (some ⟨g, 0, none⟩) 11 11) rfl (by kernel_rfl) (by kernel_rfl) (by kernel_rfl) (fun _ _ _ h => h) (Or.inl ⟨by rfl, by intro w hSw; clear hSw; go_simp⟩) hS0 ?_
  try simp only [Act.put, List.setIfInBounds_toArray, List.set_cons_zero, List.set_cons_succ]
  refine wpAnyH_take (i := 26) (oi := { dst := some 34, op := .indexAddr 62 (.tmp 33) (.const (Value.int IntKind.i64 8)), type := 0, pos := "params.go:14", after := #[{ on := 25, ground := .data }], guard := none }) (v := .pointer (some ⟨g, 8, none⟩)) rfl (by kernel_rfl) (by kernel_rfl) (by kernel_rfl) (fun _ _ _ h => h) (Or.inl ⟨by rfl, by intro w hSw; clear hSw; go_simp⟩) hS0 ?_
  try simp only [Act.put, List.setIfInBounds_toArray, List.set_cons_zero, List.set_cons_succ]
  refine wpAnyH_take (i := 27) (oi := { dst := some 35, op := .load 3 (.tmp 34), type := 3, pos := "params.go:14", after := #[{ on := 26, ground := .data }], guard := none }) (v := .int .i64 (xg xs 8)) rfl (by kernel_rfl) (by kernel_rfl) (by kernel_rfl) (fun _ _ _ h => h) (Or.inl ⟨by rfl, by intro w h; have hcell := (RC.out _ h 8 (by omega)); clear h; go_simp⟩) hS0 ?_
  try simp only [Act.put, List.setIfInBounds_toArray, List.set_cons_zero, List.set_cons_succ]
  refine wpAnyH_take (i := 28) (oi := { dst := some 36, op := .convert 3 22 (.tmp 35), type := 22, pos := "params.go:14", after := #[{ on := 27, ground := .data }], guard := none }) (v := .int .u64 (IntKind.u64.wrap (xg xs 8))) rfl (by kernel_rfl) (by kernel_rfl) (by kernel_rfl) (fun _ _ _ h => h) (Or.inl ⟨by rfl, by intro w hSw; clear hSw; go_simp⟩) hS0 ?_
  try simp only [Act.put, List.setIfInBounds_toArray, List.set_cons_zero, List.set_cons_succ]
  refine wpAnyH_take (i := 29) (oi := { dst := some 37, op := .move (.tmp 3), type := 62, pos := "params.go:14", after := #[], guard := none }) (v := .slice (some ⟨g, 0, none⟩) 11 11) rfl (by kernel_rfl) (by kernel_rfl) (by kernel_rfl) (fun _ _ _ h => h) (Or.inl ⟨by rfl, by intro w hSw; clear hSw; go_simp⟩) hS0 ?_
  try simp only [Act.put, List.setIfInBounds_toArray, List.set_cons_zero, List.set_cons_succ]
  refine wpAnyH_take (i := 30) (oi := { dst := some 38, op := .indexAddr 62 (.tmp 37) (.const (Value.int IntKind.i64 9)), type := 0, pos := "params.go:14", after := #[{ on := 29, ground := .data }], guard := none }) (v := .pointer (some ⟨g, 9, none⟩)) rfl (by kernel_rfl) (by kernel_rfl) (by kernel_rfl) (fun _ _ _ h => h) (Or.inl ⟨by rfl, by intro w hSw; clear hSw; go_simp⟩) hS0 ?_
  try simp only [Act.put, List.setIfInBounds_toArray, List.set_cons_zero, List.set_cons_succ]
  refine wpAnyH_take (i := 31) (oi := { dst := some 39, op := .load 3 (.tmp 38), type := 3, pos := "params.go:14", after := #[{ on := 30, ground := .data }], guard := none }) (v := .int .i64 (xg xs 9)) rfl (by kernel_rfl) (by kernel_rfl) (by kernel_rfl) (fun _ _ _ h => h) (Or.inl ⟨by rfl, by intro w h; have hcell := (RC.out _ h 9 (by omega)); clear h; go_simp⟩) hS0 ?_
  try simp only [Act.put, List.setIfInBounds_toArray, List.set_cons_zero, List.set_cons_succ]
  refine wpAnyH_take (i := 32) (oi := { dst := some 40, op := .move (.tmp 3), type := 62, pos := "params.go:14", after := #[], guard := none }) (v := .slice (some ⟨g, 0, none⟩) 11 11) rfl (by kernel_rfl) (by kernel_rfl) (by kernel_rfl) (fun _ _ _ h => h) (Or.inl ⟨by rfl, by intro w hSw; clear hSw; go_simp⟩) hS0 ?_
  try simp only [Act.put, List.setIfInBounds_toArray, List.set_cons_zero, List.set_cons_succ]
  refine wpAnyH_take (i := 33) (oi := { dst := some 41, op := .indexAddr 62 (.tmp 40) (.const (Value.int IntKind.i64 10)), type := 0, pos := "params.go:14", after := #[{ on := 32, ground := .data }], guard := none }) (v := .pointer (some ⟨g, 10, none⟩)) rfl (by kernel_rfl) (by kernel_rfl) (by kernel_rfl) (fun _ _ _ h => h) (Or.inl ⟨by rfl, by intro w hSw; clear hSw; go_simp⟩) hS0 ?_
  try simp only [Act.put, List.setIfInBounds_toArray, List.set_cons_zero, List.set_cons_succ]
  refine wpAnyH_take (i := 34) (oi := { dst := some 42, op := .load 3 (.tmp 41), type := 3, pos := "params.go:14", after := #[{ on := 33, ground := .data }], guard := none }) (v := .int .i64 (xg xs 10)) rfl (by kernel_rfl) (by kernel_rfl) (by kernel_rfl) (fun _ _ _ h => h) (Or.inl ⟨by rfl, by intro w h; have hcell := (RC.out _ h 10 (by omega)); clear h; go_simp⟩) hS0 ?_
  try simp only [Act.put, List.setIfInBounds_toArray, List.set_cons_zero, List.set_cons_succ]
  refine wpAnyH_take (i := 35) (oi := { dst := some 43, op := .convert 3 22 (.tmp 42), type := 22, pos := "params.go:14", after := #[{ on := 34, ground := .data }], guard := none }) (v := .int .u64 (IntKind.u64.wrap (xg xs 10))) rfl (by kernel_rfl) (by kernel_rfl) (by kernel_rfl) (fun _ _ _ h => h) (Or.inl ⟨by rfl, by intro w hSw; clear hSw; go_simp⟩) hS0 ?_
  try simp only [Act.put, List.setIfInBounds_toArray, List.set_cons_zero, List.set_cons_succ]
  refine wpAnyH_take (i := 36) (oi := { dst := some 44, op := .build 24 #[(0, .tmp 10), (1, .tmp 13), (2, .tmp 16), (3, .tmp 19), (4, .tmp 22), (5, .tmp 25), (6, .tmp 28), (7, .tmp 32), (8, .tmp 36), (9, .tmp 39), (10, .tmp 43)], type := 24, pos := "params.go:14", after := #[{ on := 2, ground := .data }, { on := 5, ground := .data }, { on := 8, ground := .data }, { on := 11, ground := .data }, { on := 14, ground := .data }, { on := 17, ground := .data }, { on := 20, ground := .data }, { on := 24, ground := .data }, { on := 28, ground := .data }, { on := 31, ground := .data }, { on := 35, ground := .data }], guard := none }) (v := .agg #[.int .i64 (xg xs 0), .int .i64 (xg xs 1), .int .i64 (xg xs 2), .int .i64 (xg xs 3), .int .i64 (xg xs 4), .int .i64 (xg xs 5), .int .i64 (xg xs 6), .int .u64 (IntKind.u64.wrap (xg xs 7)), .int .u64 (IntKind.u64.wrap (xg xs 8)), .int .i64 (xg xs 9), .int .u64 (IntKind.u64.wrap (xg xs 10))]) rfl (by kernel_rfl) (by kernel_rfl) (by kernel_rfl) (fun _ _ _ h => h) (Or.inl ⟨by rfl, by intro w hSw; clear hSw; go_simp⟩) hS0 ?_
  try simp only [Act.put, List.setIfInBounds_toArray, List.set_cons_zero, List.set_cons_succ]
  refine wpAnyH_ready (rs := [37]) (by kernel_rfl) (by simp) ?_
  refine AllReadyH.cons (o := { dst := none, op := .store 24 (.tmp 2) (.tmp 44), type := 0, pos := "params.go:14", after := #[{ on := 36, ground := .data }, { on := 0, ground := .phase }, { on := 1, ground := .phase }, { on := 2, ground := .phase }, { on := 3, ground := .phase }, { on := 4, ground := .phase }, { on := 5, ground := .phase }, { on := 6, ground := .phase }, { on := 7, ground := .phase }, { on := 8, ground := .phase }, { on := 9, ground := .phase }, { on := 10, ground := .phase }, { on := 11, ground := .phase }, { on := 12, ground := .phase }, { on := 13, ground := .phase }, { on := 14, ground := .phase }, { on := 15, ground := .phase }, { on := 16, ground := .phase }, { on := 17, ground := .phase }, { on := 18, ground := .phase }, { on := 19, ground := .phase }, { on := 20, ground := .phase }, { on := 21, ground := .phase }, { on := 22, ground := .phase }, { on := 23, ground := .phase }, { on := 24, ground := .phase }, { on := 25, ground := .phase }, { on := 26, ground := .phase }, { on := 27, ground := .phase }, { on := 28, ground := .phase }, { on := 29, ground := .phase }, { on := 30, ground := .phase }, { on := 31, ground := .phase }, { on := 32, ground := .phase }, { on := 33, ground := .phase }, { on := 34, ground := .phase }, { on := 35, ground := .phase }, { on := 36, ground := .phase }], guard := none }) rfl (fun K hK => ?_) AllReadyH.nil
  rw [if_pos (by rfl)]
  refine wp_store_mid 24 (.tmp 2) (.tmp 44) rfl r 0 E.toArray rfl (by rw [HEA.out]; rfl) TE.out EI2.out EO.out ?_
  refine hK.out _ _ (rng_kep hS0 (kep_setCells r _ 0 _) HGR.out) (fun hS1 => ?_)
  clear hK K
  try simp only [Act.put]
  refine wpAnyH_done (by kernel_rfl) ?_ _
  go_wp2_with fail
  refine bodyPost_ret (res_c Tryz.results35 _ _ ⟨r, 0, none⟩ (.agg E.toArray) rfl (load_b BE.out Tryz.underlying24 rfl EI.out)) rfl ⟨by rw [HE.out], EB.out⟩
end Pm
end Go.Proofs.YtpohcdfmkcfonaaGreatDoor
end

section
/-
  What the reference's Names, find and Check answer. Conditions: the eleven numbers are of their kinds.
-/
namespace Go.Proofs.YtpohcdfmkcfonaaGreatDoor
open Go.RowKit Go.Shelf
set_option linter.unusedVariables false
namespace Pm
open Kk

/-- The list of the names, new. -/
def NamesE (w : World) (e : Ending) (w' : World) : Prop := ∃ b, e = .returned (.slice (some ⟨b, 0, none⟩) 11 11) ∧ Blk w' b (nms.map Value.string).toArray 9 ∧ w.heap.size ≤ b ∧ Bel w w'
theorem nms_len : nms.length = 11 := rfl
theorem strs_cell {w : World} {b : Nat} (h : Blk w b (nms.map Value.string).toArray 9) (i : Nat) (hi : i < 11) : w.cell? ⟨b, i, none⟩ = some (.string (nm i)) :=
  h.cell i (by rw [List.getElem?_toArray, List.getElem?_map, List.getElem?_eq_getElem (by rw [nms_len]; exact hi)]; unfold nm; rw [List.getD_eq_getElem?_getD, List.getElem?_eq_getElem (by rw [nms_len]; exact hi)]; rfl)

set_option maxRecDepth 100000 in
set_option maxHeartbeats 1000000 in
theorem namesR (w : World) : Calls Tryz.prog 25 #[] w (NamesE w) := by
  go_enter Tryz.func25, Tryz.ntmps25
  go_wp2
  go_ret
  exact ⟨w.heap.size, rfl, Blk.new w _ _, Nat.le_refl _, (Bel.refl w).alloc _⟩

def FdR (s : ByteArray) (r : Int) : Prop := (∃ i, At s i ∧ r = (i : Int)) ∨ ((∀ j, j < 11 → nm j ≠ s) ∧ r = -1)
def FdRE (s : ByteArray) (w : World) (e : Ending) (w' : World) : Prop := ∃ r, e = .returned (.int .i64 r) ∧ FdR s r ∧ Bel w w'

set_option maxRecDepth 100000 in
set_option maxHeartbeats 1000000 in
theorem checkR (x : Nat → Int) (hx : Kinds x) (w : World) : Calls Tryz.prog 23 #[.agg (recC x).toArray] w (ChkE x w) := by
  obtain ⟨D, hD⟩ : ∃ D, D = recC x := ⟨_, rfl⟩
  obtain ⟨W, hW⟩ : ∃ W, w.alloc (.cells D.toArray 24) = W := ⟨_, rfl⟩
  have B0 := Lib.hid (show Bel w W by rw [← hW]; exact (Bel.refl w).alloc _)
  have R0 := Lib.hid (show W.rangeAt w.heap.size 0 (recC x) by rw [← hW, hD]; exact rngB (Blk.new w (recC x).toArray 24))
  obtain ⟨p, hp⟩ : ∃ p, w.heap.size = p := ⟨_, rfl⟩
  rw [hp] at R0
  have HDl := Lib.hid (show D.length = 11 by rw [hD]; rfl)
  have HF := Lib.hid (fieldsK x hx)
  rw [← hD] at HF
  have HD := Lib.hid hD
  rw [← hD]
  have HX := Lib.hid hx
  have HP := Lib.hid hp
  have HW := Lib.hid hW
  clear hx hp hD hW
  go_enter Tryz.func23, Tryz.ntmps23
  go_upto_region 1 with fail
  rw [HW.out, HP.out]
  have R1 := Lib.hid R0.out
  rw [← HD.out] at R1
  go_wp2_with (refine wpList_load_mid rfl 24 (.tmp 1) rfl p 0 rfl D _ R1.out Tryz.underlying24 rfl (by rw [HDl.out]; exact info_rec) ?_)
  refine (HF.out W).mono ?_
  rintro e w1 ⟨b, rfl, hb, _, k1⟩
  have HB := Lib.hid hb
  have B1 : Hid (Bel W w1) := Lib.hid k1
  clear hb k1
  rw [show (fvs x).length = 11 from rfl]
  go_wp2_with fail
  go_loopw [5] (fun u5 wr => ∃ k : Nat, u5 = .int .i64 k ∧ k ≤ 11 ∧ (∀ j, j < k → okF x j = true) ∧ Bel w1 wr) (fun u5 _ => 11 - (intOf u5).toNat)
  case atStart => exact ⟨0, rfl, by omega, fun j hj => by omega, Bel.refl _⟩
  case round =>
    obtain ⟨k, rfl, hk, hall, hb⟩ := hrel
    have HA := Lib.hid hall
    clear hall
    have KB := Lib.hid hb
    clear hb
    by_cases hlt : k < 11
    · have hcell := ints_cell (HB.out.bel KB.out) k hlt
      rw [fvs_at x k hlt] at hcell
      obtain ⟨v, hv⟩ : ∃ v, fv x k = v := ⟨_, rfl⟩
      obtain ⟨q, hq⟩ : ∃ q, okF x k = q := ⟨_, rfl⟩
      have WI := Lib.hid (show Calls Tryz.prog 34 #[.int .i64 k, .int .i64 v] wr fun e w' => e = .returned (.bool q) ∧ Bel wr w' by rw [← hq, okF_fv HX.out k hlt, hv]; exact within k hlt v wr)
      rw [hv] at hcell
      have HQ := Lib.hid hq
      clear hv hq
      go_wp2_with fail
      refine WI.out.mono ?_
      rintro e w2 ⟨rfl, k2⟩
      have B2 : Hid (Bel wr w2) := Lib.hid k2
      clear k2 hcell
      cases q with
      | false =>
        go_wp2_with fail
        go_ret2
        exact ⟨3, (k : Int), rfl, .inl ⟨k, hlt, HA.out, HQ.out, rfl, rfl⟩, ((B0.out.trans B1.out).trans KB.out).trans B2.out⟩
      | true =>
        go_wp2_with fail
        refine ⟨⟨k + 1, by go_num, by omega, upto_succ HA.out HQ.out, KB.out.trans B2.out⟩, ?_⟩
        simp [intOf]; omega
    · obtain rfl : k = 11 := by omega
      have R2 := rng_bel (rng_bel R0.out B1.out) KB.out
      have c0 := rec_cell R2 0 (by omega)
      have c1 := rec_cell R2 1 (by omega)
      rw [show kd 0 = .i64 from rfl] at c0
      rw [show kd 1 = .i64 from rfl] at c1
      by_cases ho : x 1 ≤ x 0
      · clear R2
        go_wp2_with fail
        go_ret2
        exact ⟨0, 0, rfl, .inr (.inr ⟨HA.out, ho, rfl, rfl⟩), (B0.out.trans B1.out).trans KB.out⟩
      · have ho2 : x 0 < x 1 := by omega
        clear R2
        go_wp2_with fail
        go_ret2
        exact ⟨9, 1, rfl, .inr (.inl ⟨HA.out, ho2, rfl, rfl⟩), (B0.out.trans B1.out).trans KB.out⟩
end Pm
end Go.Proofs.YtpohcdfmkcfonaaGreatDoor
end

section
/-
  What the reference's Get, Set and Default answer, and the program's Default. Conditions: the eleven numbers are of their kinds; the number that is set is below 2^64.
-/
namespace Go.Proofs.YtpohcdfmkcfonaaGreatDoor
open Go.RowKit Go.Shelf
set_option linter.unusedVariables false
namespace Pm
open Kk

theorem Chk.ok {x : Nat → Int} (h : Chk x 0 0) : (∀ j, j < 11 → okF x j = true) ∧ x 1 ≤ x 0 := by
  rcases h with ⟨_, _, _, _, h, _⟩ | ⟨_, _, h, _⟩ | ⟨h1, h2, _, _⟩
  · omega
  · omega
  · exact ⟨h1, h2⟩
theorem okF_b {x : Nat → Int} (hx : Kinds x) (i : Nat) (hi11 : i < 11) (h : okF x i = true) : lo i ≤ x i ∧ x i ≤ hi i := by
  have hl := lohi i hi11
  have hk := hx i hi11
  rw [okF_fv hx i hi11] at h
  have h2 : lo i ≤ fv x i ∧ fv x i ≤ hi i := by simpa [okB] using h
  unfold fv at h2
  cases hu : isU i with
  | true =>
    rw [hu, if_pos rfl] at h2
    omega
  | false =>
    rw [hu, if_neg Bool.false_ne_true] at h2
    exact h2
theorem fv_ok {x : Nat → Int} (hx : Kinds x) (i : Nat) (hi11 : i < 11) (h : okF x i = true) : fv x i = x i := by
  have hl := lohi i hi11
  have hb := okF_b hx i hi11 h
  unfold fv
  split <;> omega
theorem wrap_in (n : Int) (h0 : 0 ≤ n) (h1 : n ≤ 18446744073709551615) : IntKind.u64.wrap n = n := by
  simp only [IntKind.wrap, IntKind.bits, IntKind.signed]
  simp
  omega
theorem wv_ok {x : Nat → Int} (hx : Kinds x) (i : Nat) (hi11 : i < 11) (h : okF x i = true) : wv x i = x i := by
  have hl := lohi i hi11
  have hb := okF_b hx i hi11 h
  unfold wv
  split
  · rfl
  · exact wrap_in _ (by omega) (by omega)
theorem recC_congr {x y : Nat → Int} (h : ∀ j, j < 11 → x j = y j) : recC x = recC y := by
  unfold recC
  rw [h 0 (by omega), h 1 (by omega), h 2 (by omega), h 3 (by omega), h 4 (by omega), h 5 (by omega), h 6 (by omega), h 7 (by omega), h 8 (by omega), h 9 (by omega), h 10 (by omega)]
theorem Chk.uniq {x : Nat → Int} {a b c d : Int} (h : Chk x a b) (k : Chk x c d) : a = c ∧ b = d := by
  rcases h with ⟨i, hi, h1, h2, h3, h4⟩ | ⟨h1, h2, h3, h4⟩ | ⟨h1, h2, h3, h4⟩
  · rcases k with ⟨j, hj, k1, k2, k3, k4⟩ | ⟨k1, k2, k3, k4⟩ | ⟨k1, k2, k3, k4⟩
    · have : i = j := by
        rcases Nat.lt_trichotomy i j with h | h | h
        · have := k1 i h; rw [h2] at this; cases this
        · exact h
        · have := h1 j h; rw [k2] at this; cases this
      subst this
      exact ⟨by omega, by omega⟩
    · have := k1 i hi; rw [h2] at this; cases this
    · have := k1 i hi; rw [h2] at this; cases this
  · rcases k with ⟨j, hj, k1, k2, k3, k4⟩ | ⟨k1, k2, k3, k4⟩ | ⟨k1, k2, k3, k4⟩
    · have := h1 j hj; rw [k2] at this; cases this
    · exact ⟨by omega, by omega⟩
    · omega
  · rcases k with ⟨j, hj, k1, k2, k3, k4⟩ | ⟨k1, k2, k3, k4⟩ | ⟨k1, k2, k3, k4⟩
    · have := h1 j hj; rw [k2] at this; cases this
    · omega
    · exact ⟨by omega, by omega⟩
theorem upd_at (x : Nat → Int) (i : Nat) (v : Int) : upd x i v i = v := by unfold upd; rw [if_pos rfl]
theorem upd_other (x : Nat → Int) {i j : Nat} (v : Int) (h : j ≠ i) : upd x i v j = x j := by unfold upd; rw [if_neg h]
theorem sv_small (i : Nat) (n : Int) (h0 : 0 ≤ n) (h1 : n ≤ 1099511627776) : sv i n = n := by
  unfold sv
  split
  · rfl
  · unfold wrap64; omega
theorem wv_upd (x : Nat → Int) (i : Nat) (n : Int) (h0 : 0 ≤ n) (h1 : n ≤ 18446744073709551615) : wv (upd x i (sv i n)) i = n := by
  unfold wv
  rw [upd_at]
  unfold sv
  cases hu : isU i with
  | true => rw [if_pos rfl, if_pos rfl]
  | false =>
    rw [if_neg Bool.false_ne_true, if_neg Bool.false_ne_true]
    simp only [IntKind.wrap, IntKind.bits, IntKind.signed, wrap64]
    simp
    omega
theorem okF_upd (x : Nat → Int) {i j : Nat} (v : Int) (h : j ≠ i) : okF (upd x i v) j = okF x j := by
  unfold okF wv
  rw [upd_other x v h]
/-- A number that is far too large is out of bounds, in any field. -/
theorem chk_big {x : Nat → Int} (h : Chk x 0 0) (i : Nat) (hi11 : i < 11) (n : Int) (h0 : 1099511627776 ≤ n) (h1 : n ≤ 18446744073709551615) : Chk (upd x i (sv i n)) 3 i := by
  refine .inl ⟨i, hi11, fun j hj => ?_, ?_, rfl, rfl⟩
  · rw [okF_upd x _ (by omega)]
    exact h.ok.1 j (by omega)
  · have hl := lohi i hi11
    unfold okF okB
    rw [wv_upd x i n (by omega) h1]
    simp
    omega
/-- The record that the reference makes of the numbers with another one. -/
theorem rec_set {x : Nat → Int} (hx : Kinds x) (h : Chk x 0 0) (i : Nat) (hi11 : i < 11) (m : Int) (h0 : 0 ≤ m) (h1 : m ≤ 1099511627776) : recC (toR ((fvs x).set i m)) = recC (upd x i (sv i m)) := by
  refine recC_congr fun j hj => ?_
  have hl : (fvs x).length = 11 := rfl
  unfold toR xg
  rw [List.getD_eq_getElem?_getD]
  by_cases e : j = i
  · subst e
    rw [List.getElem?_set_self (by rw [hl]; exact hj), upd_at, sv_small j m h0 h1]
    simp only [Option.getD_some]
    split
    · exact wrap_in m h0 (by omega)
    · rfl
  · rw [List.getElem?_set_ne (fun h => e h.symm), ← List.getD_eq_getElem?_getD, fvs_at x j hj, upd_other x _ e, fv_ok hx j hj (h.ok.1 j hj)]
    have hb := okF_b hx j hj (h.ok.1 j hj)
    have hl2 := lohi j hj
    split
    · exact wrap_in _ (by omega) (by omega)
    · rfl
theorem FErr.of_find {x : Nat → Int} {s : ByteArray} (h : Chk x 0 0) (hn : ∀ j, j < 11 → nm j ≠ s) : FErr x s 10 := .inr ⟨h, hn, rfl⟩

end Pm
end Go.Proofs.YtpohcdfmkcfonaaGreatDoor
end

section
/-
  What the reference's Set and Default answer, and the program's Default. Conditions: the eleven numbers are of their kinds; the number that is set is below 2^64.
-/
namespace Go.Proofs.YtpohcdfmkcfonaaGreatDoor
open Go.RowKit Go.Shelf
set_option linter.unusedVariables false
namespace Pm
open Kk

def dfl : List Int := [100, 100, 10, 8, 7, 8, 20, 50000000, 3, 50, 100000000]
def dv (i : Nat) : Int := dfl.getD i 0
theorem kinds_dv : Kinds dv := by
  intro i hi
  match i, hi with
  | 0, _ => decide
  | 1, _ => decide
  | 2, _ => decide
  | 3, _ => decide
  | 4, _ => decide
  | 5, _ => decide
  | 6, _ => decide
  | 7, _ => decide
  | 8, _ => decide
  | 9, _ => decide
  | 10, _ => decide
  | n + 11, h => omega

set_option maxRecDepth 100000 in
set_option maxHeartbeats 1000000 in
theorem default_ (w : World) : Calls Tryz.prog 15 #[] w (RecE dv w) := by
  have HE := Lib.hid (show (recC dv).toArray = #[.int .i64 100, .int .i64 100, .int .i64 10, .int .i64 8, .int .i64 7, .int .i64 8, .int .i64 20, .int .u64 50000000, .int .u64 3, .int .i64 50, .int .u64 100000000] from rfl)
  obtain ⟨E, hE⟩ : ∃ E, E = recC dv := ⟨_, rfl⟩
  rw [← hE] at HE
  obtain ⟨t1, t2⟩ := store_rec (z := dv) (y := fun _ => 0) (Blk.new w _ _)
  rw [← hE] at t1 t2
  have T1 := Lib.hid t1
  have T2 := Lib.hid t2
  have EI := Lib.hid (show (Tryz.prog.info? 24).map (·.size) = some E.length by rw [hE]; exact info_rec)
  have EI2 := Lib.hid (show (Tryz.prog.info? 24).map (·.size) = some E.toArray.size by rw [hE]; exact info_rec)
  have EO := Lib.hid (all_oneCell_toArray (cs := E) (by rw [hE]; exact recC_cells _))
  have HE2 := Lib.hid hE
  clear t1 t2 hE
  go_enter Tryz.func15, Tryz.ntmps15
  go_wp2_with (refine wpList_store_mid rfl 24 (.tmp 0) (.tmp 1) rfl w.heap.size 0 E.toArray rfl (by rw [HE.out]; rfl) T1.out EI2.out EO.out ?_)
  refine bodyPost_ret (res_c Tryz.results15 _ _ ⟨w.heap.size, 0, none⟩ (.agg E.toArray) rfl (load_b T2.out Tryz.underlying24 rfl EI.out)) rfl ⟨by rw [HE2.out], bel_setCells ((Bel.refl w).alloc _) (Nat.le_refl _) 0 E⟩

theorem toR_dv : recC (toR dfl) = recC dv := by
  refine recC_congr fun j hj => ?_
  match j, hj with
  | 0, _ => rfl
  | 1, _ => rfl
  | 2, _ => rfl
  | 3, _ => rfl
  | 4, _ => rfl
  | 5, _ => rfl
  | 6, _ => rfl
  | 7, _ => exact wrap_in _ (by decide) (by decide)
  | 8, _ => exact wrap_in _ (by decide) (by decide)
  | 9, _ => rfl
  | 10, _ => exact wrap_in _ (by decide) (by decide)
  | n + 11, h => omega

end Pm
end Go.Proofs.YtpohcdfmkcfonaaGreatDoor
end
