/-
  Texts of this claim, put together: QBase, QRound, QKeys, QPerm. What each one says, and under which conditions, stands ahead of it.
-/
import Derived.Test.YtjbbecplkkkiiaaDoorGB

section
/-
  What the reference's small functions answer: at, turns, rot. Conditions: small places; from 0 to 63 bits.
-/
namespace Go.Proofs.YtjbbecplkkkiiaaDoor
open Go.RowKit Go.Shelf
set_option linter.unusedVariables false
namespace Kk

theorem refAt (x y z : Int) (w : World) (hx0 : 0 ≤ x) (hx : x ≤ 1000) (hy0 : 0 ≤ y) (hy : y ≤ 1000) (hz : x % 5 + 5 * (y % 5) = z) :
    Calls Tryd.prog 111 #[.int .i64 x, .int .i64 y] w fun e w' => e = .returned (.int .i64 z) ∧ w' = w := by
  obtain ⟨p, hp⟩ : ∃ p, x % 5 = p := ⟨_, rfl⟩
  obtain ⟨q, hq⟩ : ∃ q, y % 5 = q := ⟨_, rfl⟩
  have m1 : x.tmod 5 = p := by rw [Int.tmod_eq_emod_of_nonneg hx0]; exact hp
  have m2 : y.tmod 5 = q := by rw [Int.tmod_eq_emod_of_nonneg hy0]; exact hq
  rw [hp, hq] at hz
  have HZ := Lib.hid hz
  clear hz
  have hp0 : 0 ≤ p := by omega
  have hq0 : 0 ≤ q := by omega
  have hp5 : p < 5 := by omega
  have hq5 : q < 5 := by omega
  clear hp hq
  have w1 : IntKind.i64.wrap p = p := IntWalk.i64_in _ (by omega)
  have w2 : IntKind.i64.wrap q = q := IntWalk.i64_in _ (by omega)
  have w3 : IntKind.i64.wrap (5 * q) = 5 * q := IntWalk.i64_in _ (by omega)
  have w4 : IntKind.i64.wrap (p + 5 * q) = p + 5 * q := IntWalk.i64_in _ (by omega)
  go_enter Tryd.func111, Tryd.ntmps111
  go_wp2
  go_ret
  have e := HZ.out
  subst e
  exact ⟨rfl, rfl⟩

theorem refRot (x : Wd) (k : Nat) (w : World) (hk : k ≤ 63) :
    Calls Tryd.prog 113 #[.int .u64 (U x), .int .i64 (k : Int)] w fun e w' => e = .returned (.int .u64 (U (rot x k))) ∧ ∃ m, w' = w.drewN m := by
  by_cases h0 : k = 0
  · subst h0
    rw [rot0]
    go_enter Tryd.func113, Tryd.ntmps113
    go_wp2
    go_ret
    exact ⟨rfl, 0, rfl⟩
  · have T := rot_u x k
    have hk0 : ¬ ((k : Int) = 0) := by omega
    have k1 : (1 : Int) ≤ (k : Int) := by omega
    have k2 : (k : Int) ≤ 63 := by omega
    have w1 : IntKind.i64.wrap (64 - (k : Int)) = ((64 - k : Nat) : Int) := by rw [IntWalk.i64_in _ (by omega)]; omega
    obtain ⟨m, hm⟩ : ∃ m, 64 - k = m := ⟨_, rfl⟩
    rw [hm] at T w1
    have hm1 : m ≤ 63 := by omega
    clear hm h0
    go_enter Tryd.func113, Tryd.ntmps113
    go_wp2
    go_quiet (fail)
    go_wp2
    go_ret
    exact ⟨rfl, nq, rfl⟩

/-- The cells of the table of turns. -/
def trCells : List Value := R.map fun n : Nat => Value.int .i64 (n : Int)
theorem len_tr : trCells.length = 25 := rfl
theorem tr_at {i : Nat} (h : i < 25) : trCells[i]? = some (.int .i64 (rr i : Int)) := by
  unfold trCells rr
  rw [List.getElem?_map, List.getD_eq_getElem?_getD, List.getElem?_eq_getElem (by exact h)]
  rfl
theorem int_tr : ∀ v ∈ trCells, v.oneCell' = true := by
  intro v hv
  obtain ⟨z, _, rfl⟩ := List.mem_map.1 hv
  rfl

abbrev ZI25 : Array Value := #[.int .i64 0, .int .i64 0, .int .i64 0, .int .i64 0, .int .i64 0, .int .i64 0, .int .i64 0, .int .i64 0, .int .i64 0, .int .i64 0, .int .i64 0, .int .i64 0, .int .i64 0, .int .i64 0, .int .i64 0, .int .i64 0, .int .i64 0, .int .i64 0, .int .i64 0, .int .i64 0, .int .i64 0, .int .i64 0, .int .i64 0, .int .i64 0, .int .i64 0]
theorem wpList_build_all {ops : Array Oper} {rest : List Oper} {op : Oper} {a : Act} {w : World} {Q : Exit → Act → World → Prop} (hgd : op.guard = none) (t : TypeId) (fs : List (Nat × Operand)) (ho : op.op = .build t fs.toArray)
    (us : List (Nat × Value)) (v : Value) (hx : (fs.map fun (i, x) => (i, a.eval x)) = us) (hb : ∀ w, (Instr.build t us.toArray).run Tryd.prog w = .ok v w)
    (h : wpList Tryd.prog ops Q rest (a.put op.dst v) w) : wpList Tryd.prog ops Q (op :: rest) a w :=
  wpList_plain hgd fun _ hK => by
    unfold Oper.wp execOp
    simp only [ho, List.map_toArray]
    rw [hx]
    simp [hb, Oper.upon]
    exact hK _ _ h
theorem build_tr (w : World) : (Instr.build 144 #[(0, Value.int .i64 0), (1, Value.int .i64 1), (2, Value.int .i64 62), (3, Value.int .i64 28), (4, Value.int .i64 27), (5, Value.int .i64 36), (6, Value.int .i64 44), (7, Value.int .i64 6), (8, Value.int .i64 55), (9, Value.int .i64 20), (10, Value.int .i64 3), (11, Value.int .i64 10), (12, Value.int .i64 43), (13, Value.int .i64 25), (14, Value.int .i64 39), (15, Value.int .i64 41), (16, Value.int .i64 45), (17, Value.int .i64 15), (18, Value.int .i64 21), (19, Value.int .i64 8), (20, Value.int .i64 18), (21, Value.int .i64 2), (22, Value.int .i64 61), (23, Value.int .i64 56), (24, Value.int .i64 14)]).run Tryd.prog w = .ok (.agg trCells.toArray) w := by kernel_rfl

set_option maxRecDepth 100000 in
set_option maxHeartbeats 4000000 in
theorem refTurns (w : World) :
    Calls Tryd.prog 112 #[] w fun e w' => e = .returned (.agg trCells.toArray) ∧ Bel w w' := by
  obtain ⟨Q, hQ⟩ : ∃ Q, Q = trCells := ⟨_, rfl⟩
  have BH := Lib.hid (fun w => by rw [hQ]; exact build_tr w : ∀ w, (Instr.build 144 #[(0, Value.int .i64 0), (1, Value.int .i64 1), (2, Value.int .i64 62), (3, Value.int .i64 28), (4, Value.int .i64 27), (5, Value.int .i64 36), (6, Value.int .i64 44), (7, Value.int .i64 6), (8, Value.int .i64 55), (9, Value.int .i64 20), (10, Value.int .i64 3), (11, Value.int .i64 10), (12, Value.int .i64 43), (13, Value.int .i64 25), (14, Value.int .i64 39), (15, Value.int .i64 41), (16, Value.int .i64 45), (17, Value.int .i64 15), (18, Value.int .i64 21), (19, Value.int .i64 8), (20, Value.int .i64 18), (21, Value.int .i64 2), (22, Value.int .i64 61), (23, Value.int .i64 56), (24, Value.int .i64 14)]).run Tryd.prog w = .ok (.agg Q.toArray) w)
  have HQ := Lib.hid hQ
  have HQl := Lib.hid (show Q.length = 25 by rw [hQ]; rfl)
  have QI := Lib.hid (show (Tryd.prog.info? 144).map (·.size) = some Q.length by rw [HQl.out]; kernel_rfl)
  have QI2 := Lib.hid (show (Tryd.prog.info? 144).map (·.size) = some Q.toArray.size by rw [List.size_toArray]; exact QI.out)
  have QO := Lib.hid (all_oneCell_toArray (cs := Q) (by rw [hQ]; exact int_tr))
  have TQ := Lib.hid (show (w.alloc (.cells ZI25 144)).there w.heap.size 0 Q.toArray.size by
    have e : Q.toArray.size = 25 := by rw [List.size_toArray]; exact HQl.out
    rw [e]
    exact there_newK (by decide))
  clear hQ
  go_enter Tryd.func112, Tryd.ntmps112
  go_wp2_with (first | (refine wpList_build_all rfl 144 _ rfl [(0, Value.int .i64 0), (1, Value.int .i64 1), (2, Value.int .i64 62), (3, Value.int .i64 28), (4, Value.int .i64 27), (5, Value.int .i64 36), (6, Value.int .i64 44), (7, Value.int .i64 6), (8, Value.int .i64 55), (9, Value.int .i64 20), (10, Value.int .i64 3), (11, Value.int .i64 10), (12, Value.int .i64 43), (13, Value.int .i64 25), (14, Value.int .i64 39), (15, Value.int .i64 41), (16, Value.int .i64 45), (17, Value.int .i64 15), (18, Value.int .i64 21), (19, Value.int .i64 8), (20, Value.int .i64 18), (21, Value.int .i64 2), (22, Value.int .i64 61), (23, Value.int .i64 56), (24, Value.int .i64 14)] (.agg Q.toArray) rfl BH.out ?_) | (refine wpList_store_mid rfl 144 (.tmp 0) (.tmp 1) rfl w.heap.size 0 Q.toArray rfl rfl TQ.out QI2.out QO.out ?_))
  have e : Q.toArray.size = Q.length := List.size_toArray
  have RE : ((w.alloc (.cells ZI25 144)).setCells w.heap.size 0 Q).rangeAt w.heap.size 0 Q := World.rangeAt_setCells_same _ _ _ _ (e ▸ TQ.out)
  refine bodyPost_ret (results_c1 Tryd.results112 _ _ ⟨w.heap.size, 0, none⟩ _ rfl (run_loadVar_mid (P := Tryd.prog) _ w.heap.size 0 144 Q _ RE Tryd.underlying144 rfl QI.out)) rfl ⟨by rw [HQ.out], ?_⟩
  exact Kep.bel ((Bel.refl w).alloc _) (kep_setCellsK w.heap.size Q 0 _) (fun i hi => by rw [hi]; exact Nat.le_refl _)
end Kk
end Go.Proofs.YtjbbecplkkkiiaaDoor
end

section
/-
  What the reference's round answers. Condition: a state has 25 words.
-/
namespace Go.Proofs.YtjbbecplkkkiiaaDoor
open Go.RowKit Go.Shelf
set_option linter.unusedVariables false
namespace Kk

/-- Which places are done: those of the columns ahead of x, and of column x the rows ahead of y. -/
def Done (x y i : Nat) : Prop := i % 5 < x ∨ (i % 5 = x ∧ i / 5 < y)
instance (x y i : Nat) : Decidable (Done x y i) := by unfold Done; infer_instance
def part2 (s : Nat → Nat) (f h : Nat → Wd) (x y : Nat) : List Wd := (List.range 25).map fun j => if Done x y (s j) then f j else h j
theorem len_part2 (s : Nat → Nat) (f h : Nat → Wd) (x y : Nat) : (part2 s f h x y).length = 25 := by simp [part2]
theorem part2_0 (s : Nat → Nat) (f h : Nat → Wd) : part2 s f h 0 0 = (List.range 25).map h := by
  unfold part2
  apply List.map_congr_left
  intro i hi
  rw [if_neg (by unfold Done; omega)]
theorem part2_5 {s : Nat → Nat} (f h : Nat → Wd) : part2 s f h 5 0 = (List.range 25).map f := by
  unfold part2
  apply List.map_congr_left
  intro i hi
  rw [if_pos (by unfold Done; omega)]
theorem part2_next {s : Nat → Nat} (hs : ∀ j, j < 25 → s j < 25) (f h : Nat → Wd) (x : Nat) : part2 s f h x 5 = part2 s f h (x + 1) 0 := by
  unfold part2
  apply List.map_congr_left
  intro j hj
  have h3 := hs j (by simpa using hj)
  by_cases h2 : Done x 5 (s j)
  · rw [if_pos h2, if_pos (by unfold Done at *; omega)]
  · rw [if_neg h2, if_neg (by unfold Done at *; omega)]
theorem part2_succ {s : Nat → Nat} (f h : Nat → Wd) {x y d : Nat} (hx : x < 5) (hy : y < 5) (hd : ∀ j, j < 25 → (j = d ↔ s j = y * 5 + x)) :
    (part2 s f h x y).set d (f d) = part2 s f h x (y + 1) := by
  unfold part2
  rw [set_map]
  apply List.map_congr_left
  intro j hj
  have hj : j < 25 := by simpa using hj
  have h3 := hd j hj
  by_cases h1 : j = d
  · have h4 := h3.1 h1
    rw [if_pos h1, if_pos (by unfold Done; omega), h1]
  · have h4 : s j ≠ y * 5 + x := fun e => h1 (h3.2 e)
    rw [if_neg h1]
    by_cases h2 : Done x y (s j)
    · rw [if_pos h2, if_pos (by unfold Done at *; omega)]
    · rw [if_neg h2, if_neg (by unfold Done at *; omega)]

/-- The columns' sums behind the columns ahead of x, and of column x the rows ahead of y. -/
def cA (A : List Wd) (x y i : Nat) : Wd := if i < x then col A i else if i = x then part5 A y i else 0
theorem cA_succ (A : List Wd) {x : Nat} (y : Nat) (hx : x < 5) : (colCells (cA A x y)).setIfInBounds x (.int .u64 (U (part5 A y x ^^^ g A (y * 5 + x)))) = colCells (cA A x (y + 1)) := by
  rw [col_set _ hx]
  refine colCells_congr fun i hi => ?_
  unfold cA
  by_cases h : i = x
  · subst h; rw [if_pos rfl, if_neg (by omega), if_pos rfl]; rfl
  · rw [if_neg h, if_neg h, if_neg h]
theorem cA_next (A : List Wd) (x : Nat) : colCells (cA A x 5) = colCells (cA A (x + 1) 0) := by
  refine colCells_congr fun i hi => ?_
  unfold cA
  by_cases h : i < x
  · rw [if_pos h, if_pos (by omega)]
  · rw [if_neg h]
    by_cases h2 : i = x
    · subst h2; rw [if_pos rfl, if_pos (by omega), part_col]
    · rw [if_neg h2, if_neg (by omega)]
      by_cases h3 : i = x + 1
      · subst h3; rw [if_pos rfl]; rfl
      · rw [if_neg h3]
theorem cA_0 (A : List Wd) : colCells (cA A 0 0) = colCells fun _ => 0 := by
  refine colCells_congr fun i hi => ?_
  unfold cA
  rw [if_neg (by omega)]
  by_cases h : i = 0
  · subst h; rfl
  · rw [if_neg h]
theorem cA_5 (A : List Wd) : colCells (cA A 5 0) = colCells (col A) := by
  refine colCells_congr fun i hi => ?_
  unfold cA
  rw [if_pos hi]

/-- The word that goes to place j. -/
def mvW (A : List Wd) (j : Nat) : Wd := rot (g (theta A) (src j)) (rr (src j))
theorem mv_all (A : List Wd) : (List.range 25).map (mvW A) = rhoPi (theta A) := rfl
theorem theta_at (A : List Wd) {x y : Nat} (hx : x < 5) (hy : y < 5) : g (theta A) (y * 5 + x) = g A (y * 5 + x) ^^^ dd A x := by
  unfold theta
  rw [g_map _ (by omega), show (y * 5 + x) % 5 = x by omega]
theorem zero_map : (List.range 25).map (fun _ => (0 : Wd)) = zero := by decide
theorem chi_all (B : List Wd) : (List.range 25).map (bendW B) = chi B := rfl

set_option maxRecDepth 100000 in
set_option maxHeartbeats 4000000 in
theorem refRound (A : List Wd) (k : Wd) (w : World) (hA : A.length = 25) :
    Calls Tryd.prog 104 #[.agg (A.map V).toArray, .int .u64 (U k)] w fun e w' => e = .returned (.agg ((round A k).map V).toArray) ∧ Bel w w' := by
  obtain ⟨D, hD⟩ : ∃ D, D = A.map V := ⟨_, rfl⟩
  obtain ⟨h, hh⟩ : ∃ h, h = w.heap.size := ⟨_, rfl⟩
  rw [← hD]
  have HDl := Lib.hid (show D.length = 25 by rw [hD, List.length_map]; exact hA)
  obtain ⟨W2, hW2⟩ : ∃ W2, W2 = ((w.alloc (.cells D.toArray 109)).alloc Z25w).alloc (.cells (colCells fun _ => 0) 76) := ⟨_, rfl⟩
  have BA := Lib.hid (show Blk W2 h D.toArray 109 by rw [hh, hW2]; exact ((Blk.new w _ _).alloc _).alloc _)
  have TH := Lib.hid (show W2.there (h + 1) 0 25 by
    have := there_newK (w := w.alloc (.cells D.toArray 109)) (C := #[.int .u64 0, .int .u64 0, .int .u64 0, .int .u64 0, .int .u64 0, .int .u64 0, .int .u64 0, .int .u64 0, .int .u64 0, .int .u64 0, .int .u64 0, .int .u64 0, .int .u64 0, .int .u64 0, .int .u64 0, .int .u64 0, .int .u64 0, .int .u64 0, .int .u64 0, .int .u64 0, .int .u64 0, .int .u64 0, .int .u64 0, .int .u64 0, .int .u64 0]) (t := 109) (n := 25) (by decide)
    rw [World.size_alloc, ← hh] at this
    rw [hW2]
    exact there_bel this ((Bel.refl _).alloc _))
  have BC := Lib.hid (show Blk W2 (h + 2) (colCells fun _ => 0) 76 by
    rw [hW2, hh]
    have := Blk.new ((w.alloc (.cells D.toArray 109)).alloc Z25w) (colCells fun _ => 0) 76
    rwa [World.size_alloc, World.size_alloc] at this)
  have HB := Lib.hid (show Bel w W2 by rw [hW2]; exact (((Bel.refl w).alloc _).alloc _).alloc _)
  have HS2 := Lib.hid (show W2.heap.size = h + 3 by rw [hW2, hh]; simp)
  have HW2 := Lib.hid (show ((w.alloc (.cells D.toArray 109)).alloc Z25w).alloc (.cells #[.int .u64 0, .int .u64 0, .int .u64 0, .int .u64 0, .int .u64 0] 76) = W2 from hW2.symm)
  have HDD := Lib.hid hD
  have HH := Lib.hid hh
  clear hD hh hW2
  go_enter Tryd.func104, Tryd.ntmps104
  go_wp2_with fail
  rw [HW2.out, ← HH.out]
  rw [show h + 1 + 1 = h + 2 from rfl]
  go_loopw [6] (fun i wr => ∃ x : Nat, i = .int .i64 x ∧ x ≤ 5 ∧ Blk wr (h + 2) (colCells (cA A x 0)) 76 ∧ Kep (fun i => i = h + 2) W2 wr) (fun i _ => 5 - (intOf i).toNat)
  case atStart => exact ⟨0, rfl, by omega, by rw [cA_0]; exact BC.out, Kep.refl _ _⟩
  case round =>
    obtain ⟨x, rfl, hx, hs, hk⟩ := hrel
    have HS := Lib.hid hs
    have HK := Lib.hid hk
    by_cases hlx : x < 5
    · clear hs hk
      go_wp2
      rw [show decide ((x : Int) < 5) = true from decide_eq_true (by omega)]
      go_loopw [7] (fun i wr => ∃ y : Nat, i = .int .i64 y ∧ y ≤ 5 ∧ Blk wr (h + 2) (colCells (cA A x y)) 76 ∧ Kep (fun i => i = h + 2) W2 wr) (fun i _ => 5 - (intOf i).toNat)
      case atStart => exact ⟨0, rfl, by omega, HS.out, HK.out⟩
      case round =>
        obtain ⟨y, rfl, hy, hs, hk⟩ := hrel
        have HS := Lib.hid hs
        have HK := Lib.hid hk
        by_cases hly : y < 5
        · have c0 := hs.cell x (col_at (cA A x y) hlx)
          rw [show cA A x y x = part5 A y x by unfold cA; rw [if_neg (by omega), if_pos rfl]] at c0
          have f0 := hs.frozen x
          have a0 := (BA.out.kep hk (by omega)).cell (y * 5 + x) (v := .int .u64 (U (g A (y * 5 + x)))) (by rw [HDD.out]; exact word_at hA (by omega))
          have qx := xor_u (part5 A y x) (g A (y * 5 + x))
          have AT := Lib.hid (fun W => refAt (x : Int) (y : Int) ((y : Int) * 5 + x) W (by omega) (by omega) (by omega) (by omega) (by omega))
          clear hs hk
          have hx5 : (x : Int) < 5 := by omega
          have i25 : (y : Int) * 5 + x < 25 := by omega
          have i0 : (0 : Int) ≤ (y : Int) * 5 + x := by omega
          have it : ((y : Int) * 5 + x).toNat = y * 5 + x := by omega
          go_wp2_with fail
          go_still_tail 11, (by kernel_rfl)
          still_call (AT.out _)
          repeat still_step
          refine wpStill_nil ?_
          change wpList _ _ _ _ _ wr.drew
          have c0' := c0
          go_wp2
          go_roundw
          case rel =>
            refine ⟨y + 1, by go_num, by omega, ?_, (HK.out.drew).set_self _ _⟩
            have h2 := (HS.out.bel (Bel.refl wr).drew).set x (.int .u64 (U (part5 A y x ^^^ g A (y * 5 + x))))
            rw [cA_succ A y hlx] at h2
            exact h2
          case measure => simp [intOf] <;> omega
        · obtain rfl : y = 5 := by omega
          rw [cA_next] at hs
          have HS := Lib.hid hs
          clear hs hk
          go_wp2
          go_roundw
          case rel => exact ⟨x + 1, by go_num, by omega, HS.out, HK.out⟩
          case measure => simp [intOf] <;> omega
    · obtain rfl : x = 5 := by omega
      rw [cA_5] at hs
      have C2 := Lib.hid hs
      have A2 := Lib.hid (BA.out.kep hk (by omega))
      have T2 := Lib.hid (there_kep TH.out hk (by omega))
      have B2 := Lib.hid (Kep.bel HB.out hk (fun i hi => by rw [hi, ← HH.out]; omega))
      have hwr : h + 3 ≤ wr.heap.size := by rw [← HS2.out]; exact hk.size
      clear hs hk HS HK
      go_wp2_with fail
      refine (refTurns _).mono ?_
      rintro e w3 ⟨rfl, h3⟩
      have H3 : Bel wr w3 := h3
      clear h3
      obtain ⟨Q, hQ⟩ : ∃ Q, Q = trCells := ⟨_, rfl⟩
      have HQ := Lib.hid hQ
      have HQl := Lib.hid (show Q.length = 25 by rw [hQ]; rfl)
      have QI := Lib.hid (show (Tryd.prog.info? 144).map (·.size) = some Q.length by rw [HQl.out]; kernel_rfl)
      have QS := Lib.hid (show Q.toArray.size = Q.length from List.size_toArray)
      have QI2 := Lib.hid (show (Tryd.prog.info? 144).map (·.size) = some Q.toArray.size by rw [QS.out]; exact QI.out)
      have QO := Lib.hid (all_oneCell_toArray (cs := Q) (by rw [hQ]; exact int_tr))
      have TQ := Lib.hid (show (w3.alloc (.cells ZI25 144)).there w3.heap.size 0 Q.toArray.size by
        rw [QS.out, HQl.out]
        exact there_newK (by decide))
      have h33 : h + 3 ≤ w3.heap.size := Nat.le_trans hwr (Below.size H3)
      rw [← hQ]
      clear hQ
      go_wp2_with (refine wpList_store_mid rfl 144 (.tmp 8) (.tmp 34) rfl w3.heap.size 0 Q.toArray rfl rfl TQ.out QI2.out QO.out ?_)
      obtain ⟨hr, hhr⟩ : ∃ hr, hr = w3.heap.size := ⟨_, rfl⟩
      obtain ⟨w4, hw4⟩ : ∃ w4, (w3.alloc (.cells ZI25 144)).setCells w3.heap.size 0 Q = w4 := ⟨_, rfl⟩
      have R4 : w4.rangeAt hr 0 Q := by
        rw [← hw4, hhr]
        have e := QS.out
        exact World.rangeAt_setCells_same _ _ _ _ (e ▸ TQ.out)
      have S4 : w4.heap.size = hr + 1 := by rw [← hw4, hhr, size_setCells]; simp
      have B4 : Bel w3 w4 := by
        rw [← hw4]
        exact Kep.bel ((Bel.refl w3).alloc _) (kep_setCellsK w3.heap.size Q 0 _) (fun i hi => by rw [hi]; exact Nat.le_refl _)
      rw [hw4, S4, ← hhr]
      rw [← hhr] at h33
      clear hw4 hhr
      obtain ⟨w5, hw5⟩ : ∃ w5, w4.alloc Z25w = w5 := ⟨_, rfl⟩
      have B5 : Bel w4 w5 := by rw [← hw5]; exact (Bel.refl w4).alloc _
      have N5 : Blk w5 (hr + 1) ((part2 src (mvW A) (fun _ => 0) 0 0).map V).toArray 109 := by
        rw [← hw5, ← S4, part2_0, zero_map]
        exact Blk.new w4 _ _
      rw [hw5]
      have HN5 := Lib.hid N5
      have A5 := Lib.hid (((A2.out.bel H3).bel B4).bel B5)
      have C5 := Lib.hid (((C2.out.bel H3).bel B4).bel B5)
      have T5 := Lib.hid (there_bel (there_bel (there_bel T2.out H3) B4) B5)
      have BB5 := Lib.hid (((B2.out.trans H3).trans B4).trans B5)
      have TR5 := Lib.hid (show ∀ i, i < 25 → w5.cell? ⟨hr, i, none⟩ = some (.int .i64 (rr i : Int)) from fun i hi => by
        have h1 := R4 i _ (by rw [HQ.out]; exact tr_at hi)
        rw [Nat.zero_add] at h1
        exact (Below.cell (p := ⟨hr, i, none⟩) B5 (by rw [S4]; exact Nat.lt_succ_self hr)).trans h1)
      have hr5 : hr < w5.heap.size := Nat.lt_of_lt_of_le (by rw [S4]; exact Nat.lt_succ_self hr) (Below.size B5)
      clear hw5 N5 B5 B4 R4 S4 H3 A2 C2 T2 B2 BA TH BC HB HW2 TQ QO QI2 QI HQl HQ QS
      go_loopw [10] (fun i wr => ∃ x : Nat, i = .int .i64 x ∧ x ≤ 5 ∧ Blk wr (hr + 1) ((part2 src (mvW A) (fun _ => 0) x 0).map V).toArray 109 ∧ Kep (fun i => i = hr + 1) w5 wr) (fun i _ => 5 - (intOf i).toNat)
      case atStart => exact ⟨0, rfl, by omega, HN5.out, Kep.refl _ _⟩
      case round =>
        obtain ⟨x, rfl, hx, hs, hk⟩ := hrel
        have HS := Lib.hid hs
        have HK := Lib.hid hk
        by_cases hlx : x < 5
        · have hc := C5.out.kep hk (by omega)
          have c1 := hc.cell ((x + 4) % 5) (col_at (col A) (by omega))
          have c2 := hc.cell ((x + 1) % 5) (col_at (col A) (by omega))
          have d1 := (hc.bel (Bel.refl _).drew).cell ((x + 4) % 5) (col_at (col A) (by omega))
          have d2 := (hc.bel (Bel.refl _).drew).cell ((x + 1) % 5) (col_at (col A) (by omega))
          have q1 : IntKind.i64.wrap ((x : Int) + 4) = x + 4 := IntWalk.i64_in _ (by omega)
          have q2 : IntKind.i64.wrap ((x : Int) + 1) = x + 1 := IntWalk.i64_in _ (by omega)
          have q3 : ((x : Int) + 4).tmod 5 = (((x + 4) % 5 : Nat) : Int) := by rw [Int.tmod_eq_emod_of_nonneg (by omega)]; omega
          have q4 : ((x : Int) + 1).tmod 5 = (((x + 1) % 5 : Nat) : Int) := by rw [Int.tmod_eq_emod_of_nonneg (by omega)]; omega
          have qx := xor_u (col A ((x + 4) % 5)) (rot (col A ((x + 1) % 5)) 1)
          clear hs hk hc
          go_wp2
          go_quiet ((go_at_call 113; exact Calls.quiet_of (refRot (col A ((x + 1) % 5)) 1 _ (by omega))))
          rw [show col A ((x + 4) % 5) ^^^ rot (col A ((x + 1) % 5)) 1 = dd A x from rfl, show decide ((x : Int) < 5) = true from decide_eq_true (by omega)]
          have S3 := Lib.hid (HS.out.bel ((Bel.refl wr).drewN nq))
          have K3 := Lib.hid (HK.out.drewN nq)
          clear c1 c2 d1 d2 q1 q2 q3 q4 qx HS HK
          generalize wr.drewN nq = w6 at *
          go_wp2
          go_loopw [12] (fun i wr => ∃ y : Nat, i = .int .i64 y ∧ y ≤ 5 ∧ Blk wr (hr + 1) ((part2 src (mvW A) (fun _ => 0) x y).map V).toArray 109 ∧ Kep (fun i => i = hr + 1) w5 wr) (fun i _ => 5 - (intOf i).toNat)
          case atStart => exact ⟨0, rfl, by omega, S3.out, K3.out⟩
          case round =>
            obtain ⟨y, rfl, hy, hs, hk⟩ := hrel
            have HS := Lib.hid hs
            have HK := Lib.hid hk
            by_cases hly : y < 5
            · obtain ⟨q, hq⟩ : ∃ q, (2 * x + 3 * y) % 5 = q := ⟨_, rfl⟩
              have hq5 : q < 5 := by omega
              have hqi : (2 * (x : Int) + 3 * (y : Int)) % 5 = (q : Int) := by rw [← hq, Int.natCast_emod]; push_cast; rfl
              have ed : dst (y * 5 + x) = q * 5 + y := by
                unfold dst
                rw [show (y * 5 + x) % 5 = x by omega, show (y * 5 + x) / 5 = y by omega, hq]
              have hi25 : y * 5 + x < 25 := by omega
              have DS := Lib.hid (show ∀ j, j < 25 → (j = q * 5 + y ↔ src j = y * 5 + x) from fun j hj => by rw [← ed]; exact src_dst hi25 hj)
              have MW := Lib.hid (show mvW A (q * 5 + y) = rot (g A (y * 5 + x) ^^^ dd A x) (rr (y * 5 + x)) by
                unfold mvW
                rw [(DS.out _ (by omega)).1 rfl, theta_at A hlx hly])
              have j0 := hs.cell (q * 5 + y) (word_at (len_part2 _ _ _ _ _) (by omega))
              have f0 := hs.frozen (q * 5 + y)
              have a0 := (A5.out.kep hk (by omega)).cell (y * 5 + x) (v := .int .u64 (U (g A (y * 5 + x)))) (by rw [HDD.out]; exact word_at hA (by omega))
              have t0 : wr.cell? ⟨hr, y * 5 + x, none⟩ = some (.int .i64 (rr (y * 5 + x) : Int)) := hk.cell (by omega) (TR5.out _ hi25)
              have t63 := rr63 (y * 5 + x)
              have qx := xor_u (g A (y * 5 + x)) (dd A x)
              obtain ⟨s1, s2, s3, s4⟩ := sum5 x y hlx hly
              have AT1 := Lib.hid (fun W => refAt (y : Int) (2 * (x : Int) + 3 * (y : Int)) ((q : Int) * 5 + y) W (by omega) (by omega) (by omega) (by omega) (by rw [hqi]; omega))
              have AT2 := Lib.hid (fun W => refAt (x : Int) (y : Int) ((y : Int) * 5 + x) W (by omega) (by omega) (by omega) (by omega) (by omega))
              have RT := Lib.hid (fun W => refRot (g A (y * 5 + x) ^^^ dd A x) (rr (y * 5 + x)) W t63)
              clear hs hk ed hq hqi s4 t63
              have i0 : (0 : Int) ≤ (y : Int) * 5 + x := by omega
              have i25 : (y : Int) * 5 + x < 25 := by omega
              have it : ((y : Int) * 5 + x).toNat = y * 5 + x := by omega
              have e0 : (0 : Int) ≤ (q : Int) * 5 + y := by omega
              have e25 : (q : Int) * 5 + y < 25 := by omega
              have et : ((q : Int) * 5 + y).toNat = q * 5 + y := by omega
              go_wp2
              go_region_with (first | (go_at_call 111; first | (with_reducible refine (AT1.out _).mono ?_; rintro e w' ⟨rfl, rfl⟩) | (with_reducible refine (AT2.out _).mono ?_; rintro e w' ⟨rfl, rfl⟩)) | (go_at_call 113; with_reducible refine (RT.out _).mono ?_; rintro e w' ⟨rfl, m, rfl⟩))
              all_goals
                go_wp2
                go_roundw
                case rel =>
                  have hb := fun n => (HS.out.bel ((Bel.refl wr).drewN n)).set (q * 5 + y) (.int .u64 (U (rot (g A (y * 5 + x) ^^^ dd A x) (rr (y * 5 + x)))))
                  rw [key_set, ← MW.out, part2_succ _ _ hlx hly DS.out, MW.out] at hb
                  exact ⟨y + 1, by go_num, by omega, hb _, (HK.out.drewN _).set_self _ _⟩
                case measure => simp [intOf] <;> omega
            · obtain rfl : y = 5 := by omega
              rw [part2_next (fun j hj => src_lt hj)] at hs
              have HS := Lib.hid hs
              clear hs hk
              go_wp2
              go_roundw
              case rel => exact ⟨x + 1, by go_num, by omega, HS.out, HK.out⟩
              case measure => simp [intOf] <;> omega
        · obtain rfl : x = 5 := by omega
          rw [part2_5, mv_all] at hs
          obtain ⟨B, hB⟩ : ∃ B, rhoPi (theta A) = B := ⟨_, rfl⟩
          rw [hB] at hs
          have lB : B.length = 25 := by rw [← hB]; exact len_rhoPi _
          have HBB := Lib.hid hB
          have B7 := Lib.hid hs
          have A7 := Lib.hid (show Blk wr h ((part2 id (bendW B) (g A) 0 0).map V).toArray 109 by
            rw [part2_0, map_g hA, ← HDD.out]
            exact A5.out.kep hk (by omega))
          have T7 := Lib.hid (there_kep T5.out hk (by omega))
          have K7 := Lib.hid (Kep.bel BB5.out hk (fun i hi => by rw [hi, ← HH.out]; omega))
          clear hs hk HS HK hB A5 C5 T5 BB5 TR5 HN5
          go_wp2
          generalize wr = w8 at *
          go_loopw [13] (fun i wr => ∃ x : Nat, i = .int .i64 x ∧ x ≤ 5 ∧ Blk wr h ((part2 id (bendW B) (g A) x 0).map V).toArray 109 ∧ Kep (fun i => i = h) w8 wr) (fun i _ => 5 - (intOf i).toNat)
          case atStart => exact ⟨0, rfl, by omega, A7.out, Kep.refl _ _⟩
          case round =>
            obtain ⟨x, rfl, hx, hs, hk⟩ := hrel
            have HS := Lib.hid hs
            have HK := Lib.hid hk
            by_cases hlx : x < 5
            · clear hs hk
              go_wp2
              rw [show decide ((x : Int) < 5) = true from decide_eq_true (by omega)]
              go_loopw [14] (fun i wr => ∃ y : Nat, i = .int .i64 y ∧ y ≤ 5 ∧ Blk wr h ((part2 id (bendW B) (g A) x y).map V).toArray 109 ∧ Kep (fun i => i = h) w8 wr) (fun i _ => 5 - (intOf i).toNat)
              case atStart => exact ⟨0, rfl, by omega, HS.out, HK.out⟩
              case round =>
                obtain ⟨y, rfl, hy, hs, hk⟩ := hrel
                have HS := Lib.hid hs
                have HK := Lib.hid hk
                by_cases hly : y < 5
                · obtain ⟨p, hp⟩ : ∃ p, (x + 1) % 5 = p := ⟨_, rfl⟩
                  obtain ⟨q, hq⟩ : ∃ q, (x + 2) % 5 = q := ⟨_, rfl⟩
                  have hp5 : p < 5 := by omega
                  have hq5 : q < 5 := by omega
                  have hB := B7.out.kep hk (by omega)
                  have b0 := hB.cell (y * 5 + x) (word_at lB (by omega))
                  have b1 := hB.cell (p + 5 * y) (word_at lB (by omega))
                  have b2 := hB.cell (q + 5 * y) (word_at lB (by omega))
                  have j0 := hs.cell (y * 5 + x) (word_at (len_part2 _ _ _ _ _) (by omega))
                  have f0 := hs.frozen (y * 5 + x)
                  have q1 : IntKind.i64.wrap ((x : Int) + 1) = x + 1 := IntWalk.i64_in _ (by omega)
                  have q2 : IntKind.i64.wrap ((x : Int) + 2) = x + 2 := IntWalk.i64_in _ (by omega)
                  have BW := Lib.hid (show bendW B (y * 5 + x) = g B (y * 5 + x) ^^^ (~~~ g B (p + 5 * y) &&& g B (q + 5 * y)) by
                    unfold bendW
                    rw [show (y * 5 + x) % 5 = x by omega, show (y * 5 + x) / 5 = y by omega, hp, hq])
                  have AT1 := Lib.hid (fun W => refAt (x : Int) (y : Int) ((y : Int) * 5 + x) W (by omega) (by omega) (by omega) (by omega) (by omega))
                  have AT2 := Lib.hid (fun W => refAt ((x : Int) + 1) (y : Int) ((p : Int) + 5 * y) W (by omega) (by omega) (by omega) (by omega) (by omega))
                  have AT3 := Lib.hid (fun W => refAt ((x : Int) + 2) (y : Int) ((q : Int) + 5 * y) W (by omega) (by omega) (by omega) (by omega) (by omega))
                  clear hs hk hp hq hB
                  have i0 : (0 : Int) ≤ (y : Int) * 5 + x := by omega
                  have i25 : (y : Int) * 5 + x < 25 := by omega
                  have it : ((y : Int) * 5 + x).toNat = y * 5 + x := by omega
                  have p0 : (0 : Int) ≤ (p : Int) + 5 * y := by omega
                  have p25 : (p : Int) + 5 * y < 25 := by omega
                  have pt : ((p : Int) + 5 * y).toNat = p + 5 * y := by omega
                  have r0 : (0 : Int) ≤ (q : Int) + 5 * y := by omega
                  have r25 : (q : Int) + 5 * y < 25 := by omega
                  have rt : ((q : Int) + 5 * y).toNat = q + 5 * y := by omega
                  go_wp2_with fail
                  go_still_tail 24, (by kernel_rfl)
                  still_call (AT1.out _)
                  repeat still_step
                  still_call (AT1.out _)
                  repeat still_step
                  still_call (AT2.out _)
                  repeat still_step
                  still_call (AT3.out _)
                  repeat still_step
                  refine wpStill_nil ?_
                  change wpList _ _ _ _ _ wr.drew
                  go_wp2
                  go_roundw
                  case rel =>
                    refine ⟨y + 1, by go_num, by omega, ?_, (HK.out.drew).set_self _ _⟩
                    have h2 := (HS.out.bel (Bel.refl wr).drew).set (y * 5 + x) (.int .u64 (U (bendW B (y * 5 + x))))
                    rw [key_set, part2_succ (s := id) _ _ hlx hly (fun j _ => Iff.rfl), BW.out] at h2
                    rw [← xor_u, ← and_u, ← not_u] at h2
                    exact h2
                  case measure => simp [intOf] <;> omega
                · obtain rfl : y = 5 := by omega
                  rw [part2_next (s := id) (fun j hj => hj)] at hs
                  have HS := Lib.hid hs
                  clear hs hk
                  go_wp2
                  go_roundw
                  case rel => exact ⟨x + 1, by go_num, by omega, HS.out, HK.out⟩
                  case measure => simp [intOf] <;> omega
            · obtain rfl : x = 5 := by omega
              rw [part2_5, chi_all] at hs
              obtain ⟨C, hC⟩ : ∃ C, chi B = C := ⟨_, rfl⟩
              rw [hC] at hs
              have lC : C.length = 25 := by rw [← hC]; exact len_chi _
              have c0 := hs.cell 0 (word_at lC (by omega))
              have f0 := hs.frozen 0
              have qx := xor_u (g C 0) k
              have HE := Lib.hid (show iota C k = round A k by rw [← hC, ← HBB.out]; rfl)
              obtain ⟨Y, hY⟩ : ∃ Y, Y = (iota C k).map V := ⟨_, rfl⟩
              have S9 := show Blk (wr.setCell ⟨h, 0, none⟩ (.int .u64 (U (g C 0 ^^^ k)))) h Y.toArray 109 by
                have h2 := hs.set 0 (.int .u64 (U (g C 0 ^^^ k)))
                rw [key_set] at h2
                rw [hY]
                exact h2
              have HYl := Lib.hid (show Y.length = 25 by rw [hY, List.length_map, len_iota]; exact lC)
              have HY := Lib.hid hY
              have RY := Lib.hid (blk_range S9)
              have YI := Lib.hid (show (Tryd.prog.info? 109).map (·.size) = some Y.length by rw [HYl.out]; kernel_rfl)
              have YS := Lib.hid (show Y.toArray.size = Y.length from List.size_toArray)
              have YI2 := Lib.hid (show (Tryd.prog.info? 109).map (·.size) = some Y.toArray.size by rw [YS.out]; exact YI.out)
              have YO := Lib.hid (all_oneCell_toArray (cs := Y) (by rw [hY]; exact ints1 _))
              have k9 := hk.set_self 0 (.int .u64 (U (g C 0 ^^^ k)))
              have K9 := Lib.hid (Kep.bel K7.out k9 (fun i hi => by rw [hi, HH.out]; exact Nat.le_refl _))
              have T9 := Lib.hid (show (wr.setCell ⟨h, 0, none⟩ (.int .u64 (U (g C 0 ^^^ k)))).there (h + 1) 0 Y.toArray.size by
                rw [YS.out, HYl.out]
                exact there_kep T7.out k9 (by omega))
              clear hs hk HS HK hC hY S9 k9
              go_wp2_with (first | (refine wpList_load_mid rfl 109 (.tmp 2) rfl h 0 rfl Y _ RY.out Tryd.underlying109 rfl YI.out ?_) | (refine wpList_store_mid rfl 109 (.tmp 4) (.tmp 113) rfl (h + 1) 0 Y.toArray rfl rfl T9.out YI2.out YO.out ?_))
              have RE : ((wr.setCell ⟨h, 0, none⟩ (.int .u64 (U (g C 0 ^^^ k)))).setCells (h + 1) 0 Y).rangeAt (h + 1) 0 Y := World.rangeAt_setCells_same _ _ _ _ (by have e := YS.out; exact e ▸ T9.out)
              refine bodyPost_ret (results_c1 Tryd.results104 _ _ ⟨h + 1, 0, none⟩ _ rfl (run_loadVar_mid (P := Tryd.prog) _ (h + 1) 0 109 Y _ RE Tryd.underlying109 rfl YI.out)) rfl ⟨by rw [HY.out, HE.out], ?_⟩
              exact Kep.bel K9.out (kep_setCellsK (h + 1) Y 0 _) (fun i hi => by rw [hi, HH.out]; omega)
end Kk
end Go.Proofs.YtjbbecplkkkiiaaDoor
end

section
/-
  What the reference's constants answers: the 24 keys of the rounds. No condition.
-/
namespace Go.Proofs.YtjbbecplkkkiiaaDoor
open Go.RowKit Go.Shelf
set_option linter.unusedVariables false
namespace Kk

theorem reg_xor_i {m : Int} (h0 : 0 ≤ m) (h1 : m < 256) : bits .xor .i64 m 113 = ((m.toNat ^^^ 113 : Nat) : Int) := by
  obtain ⟨n, rfl⟩ := Int.eq_ofNat_of_zero_le h0
  have hn : n < 256 := by omega
  have : ∀ m : Fin 256, bits .xor .i64 ((m.1 : Nat) : Int) 113 = ((m.1 ^^^ 113 : Nat) : Int) := by decide +kernel
  exact this ⟨n, hn⟩
theorem set_or0 {A : List Wd} (i : Nat) (p : Nat) (h : i < A.length) : A.set i (g A i ||| BitVec.ofInt 64 0 <<< p) = A := by
  have e : BitVec.ofInt 64 0 <<< p = 0 := by simp
  rw [e]
  apply List.ext_getElem (by simp)
  intro k h1 h2
  rw [List.getElem_set]
  by_cases hk : i = k
  · subst hk
    rw [if_pos rfl]
    simp [g, List.getElem?_eq_getElem h2]
  · rw [if_neg hk]
theorem ks_next {n r j : Nat} (hn : n = 7 * r + j) (hj : j < 7) (hr : r < 24) :
    ks (regBits (n + 1)) = if reg n % 2 = 1 then (ks (regBits n)).set r (g (ks (regBits n)) r ||| BitVec.ofInt 64 1 <<< (2 ^ j - 1)) else ks (regBits n) := by
  rw [regBits_succ, ks_snoc, regBits_len, show n / 7 = r by omega, show n % 7 = j by omega]
  unfold regBit
  by_cases h : reg n % 2 = 1
  · rw [if_pos h, h]; rfl
  · rw [if_neg h, show reg n % 2 = 0 by omega]
    exact set_or0 r _ (by rw [ks_len]; exact hr)
theorem or_one (x : Wd) (p : Nat) : bits .or .u64 (U x) (IntKind.u64.wrap (2 ^ p)) = U (x ||| BitVec.ofInt 64 1 <<< p) := by
  have h := or_shl x 1 p
  rwa [Int.one_mul] at h
theorem pow7u {m : Nat} (h : m < 7) : IntKind.u64.wrap ((2 : Int) ^ m) = 2 ^ m ∧ IntKind.u64.wrap ((2 : Int) ^ m - 1) = ((2 ^ m - 1 : Nat) : Int) ∧ 2 ^ m - 1 ≤ 63 := by
  match m, h with
  | 0, _ => decide
  | 1, _ => decide
  | 2, _ => decide
  | 3, _ => decide
  | 4, _ => decide
  | 5, _ => decide
  | 6, _ => decide

set_option maxRecDepth 100000 in
set_option maxHeartbeats 4000000 in
theorem refKeys (w : World) :
    Calls Tryd.prog 103 #[] w fun e w' => e = .returned (.agg (K.map V).toArray) ∧ Bel w w' := by
  obtain ⟨h, hh⟩ : ∃ h, h = w.heap.size := ⟨_, rfl⟩
  obtain ⟨w1, hw1⟩ : ∃ w1, w1 = (w.alloc (.cells Z24 78)).alloc (.cells Z24 78) := ⟨_, rfl⟩
  have B1 : Bel w w1 := by rw [hw1]; exact ((Bel.refl w).alloc _).alloc _
  have N1 : Blk w1 (h + 1) Z24 78 := by
    rw [hw1, hh]
    have := Blk.new (w.alloc (.cells Z24 78)) Z24 78
    rwa [World.size_alloc] at this
  have N0 : Blk w1 h Z24 78 := by
    rw [hw1, hh]
    exact (Blk.new w Z24 78).alloc _
  have HW1 := Lib.hid (show (w.alloc (.cells Z24 78)).alloc (.cells Z24 78) = w1 from hw1.symm)
  have HH := Lib.hid hh
  have HN1 := Lib.hid (show Blk w1 (h + 1) ((ks (regBits (7 * 0))).map V).toArray 78 from N1)
  have HN0 := Lib.hid N0
  have HB1 := Lib.hid B1
  clear hw1 hh B1 N1 N0
  go_enter Tryd.func103, Tryd.ntmps103
  go_wp2_with fail
  rw [HW1.out, ← HH.out]
  go_loopw [2, 3] (fun s i wr => ∃ r : Nat, i = .int .i64 r ∧ r ≤ 24 ∧ s = .int .i64 (reg (7 * r) : Nat) ∧ Blk wr (h + 1) ((ks (regBits (7 * r))).map V).toArray 78 ∧ Kep (fun i => i = h + 1) w1 wr) (fun _ i _ => 24 - (intOf i).toNat)
  case atStart => exact ⟨0, rfl, by omega, rfl, HN1.out, Kep.refl _ _⟩
  case round =>
    obtain ⟨r, rfl, hr, rfl, hs, hk⟩ := hrel
    have HS := Lib.hid hs
    have HK := Lib.hid hk
    by_cases hlt : r < 24
    · clear hs hk
      obtain ⟨q0, hq0⟩ : ∃ q0, reg (7 * r) = q0 := ⟨_, rfl⟩
      rw [hq0]
      have HQ0 := Lib.hid hq0
      clear hq0
      go_wp2
      rw [show decide ((r : Int) < 24) = true from decide_eq_true (by omega)]
      go_loopw [2, 4] (fun s i wr => ∃ j q : Nat, i = .int .i64 j ∧ j ≤ 7 ∧ s = .int .i64 q ∧ reg (7 * r + j) = q ∧ Blk wr (h + 1) ((ks (regBits (7 * r + j))).map V).toArray 78 ∧ Kep (fun i => i = h + 1) w1 wr) (fun _ i _ => 7 - (intOf i).toNat)
      case atStart => exact ⟨0, q0, rfl, by omega, rfl, HQ0.out, HS.out, HK.out⟩
      case round =>
        obtain ⟨j, q, rfl, hj, rfl, hq, hs, hk⟩ := hrel
        have HS := Lib.hid hs
        have HK := Lib.hid hk
        by_cases hlj : j < 7
        · have hq2 : q < 256 := by rw [← hq]; exact reg_lt _
          have HN := Lib.hid (ks_next (n := 7 * r + j) rfl hlj hlt)
          have HG := Lib.hid (show reg (7 * r + j + 1) = if 256 ≤ 2 * q then (2 * q) % 256 ^^^ 113 else 2 * q by rw [← hq]; rfl)
          have HQ := Lib.hid hq
          have k0 := hs.cell r (key_at (ks_len _) hlt)
          have f0 := hs.frozen r
          have ho := or_one (g (ks (regBits (7 * r + j))) r)
          obtain ⟨p1, p2, p3⟩ := pow7u hlj
          obtain ⟨p, hp⟩ : ∃ p, 2 ^ j - 1 = p := ⟨_, rfl⟩
          rw [hp] at p2 p3 HN
          have ho := ho p
          clear hp
          have p64 : (p : Int) ≤ 63 := by omega
          clear hs hk hq
          have w2 : IntKind.i64.wrap (2 * (q : Int)) = 2 * q := IntWalk.i64_in _ (by omega)
          have hx := reg_xor_i (m := (((2 * q) % 256 : Nat) : Int)) (by omega) (by omega)
          rw [Int.toNat_natCast] at hx
          have m1 : (2 * (q : Int)).tmod 256 = (((2 * q) % 256 : Nat) : Int) := by
            rw [Int.tmod_eq_emod_of_nonneg (by omega)]; omega
          have hr24 : (r : Int) < 24 := by omega
          by_cases hb : q % 2 = 1
          · have m2 : ((q : Int)).tmod 2 = 1 := by rw [Int.tmod_eq_emod_of_nonneg (by omega)]; omega
            by_cases hgr : 256 ≤ 2 * q
            · go_wp2
              go_region
              go_wp2
              go_roundw
              case rel =>
                refine ⟨j + 1, 2 * q % 256 ^^^ 113, by go_num, by omega, by rw [← hx]; congr 2, ?_, ?_, ?_⟩
                · have hg := HG.out; rw [if_pos hgr] at hg; exact hg
                · have hs := ((HS.out.set r (.int .u64 (U (g (ks (regBits (7 * r + j))) r ||| BitVec.ofInt 64 1 <<< p)))).bel (Bel.refl _).drew)
                  have hn := HN.out
                  rw [HQ.out, if_pos hb] at hn
                  rw [key_set, ← hn] at hs
                  exact hs
                · exact (HK.out.set_self _ _).drew
              case measure => simp [intOf] <;> omega
            · go_wp2
              go_region
              go_wp2
              go_roundw
              case rel =>
                refine ⟨j + 1, 2 * q, by go_num, by omega, by simp, ?_, ?_, ?_⟩
                · have hg := HG.out; rw [if_neg hgr] at hg; exact hg
                · have hs := ((HS.out.set r (.int .u64 (U (g (ks (regBits (7 * r + j))) r ||| BitVec.ofInt 64 1 <<< p)))).bel (Bel.refl _).drew)
                  have hn := HN.out
                  rw [HQ.out, if_pos hb] at hn
                  rw [key_set, ← hn] at hs
                  exact hs
                · exact (HK.out.set_self _ _).drew
              case measure => simp [intOf] <;> omega
          · have m2 : ((q : Int)).tmod 2 = 0 := by rw [Int.tmod_eq_emod_of_nonneg (by omega)]; omega
            by_cases hgr : 256 ≤ 2 * q
            · go_wp2
              go_roundw
              case rel =>
                refine ⟨j + 1, 2 * q % 256 ^^^ 113, by go_num, by omega, by rw [← hx]; congr 2, ?_, ?_, HK.out⟩
                · have hg := HG.out; rw [if_pos hgr] at hg; exact hg
                · have hn := HN.out
                  rw [HQ.out, if_neg hb] at hn
                  have hs := HS.out
                  rw [← hn] at hs
                  exact hs
              case measure => simp [intOf] <;> omega
            · go_wp2
              go_roundw
              case rel =>
                refine ⟨j + 1, 2 * q, by go_num, by omega, by simp, ?_, ?_, HK.out⟩
                · have hg := HG.out; rw [if_neg hgr] at hg; exact hg
                · have hn := HN.out
                  rw [HQ.out, if_neg hb] at hn
                  have hs := HS.out
                  rw [← hn] at hs
                  exact hs
              case measure => simp [intOf] <;> omega
        · obtain rfl : j = 7 := by omega
          have HQ := Lib.hid hq
          clear hs hk hq
          go_wp2
          go_roundw
          case rel => exact ⟨r + 1, by go_num, by omega, by rw [show 7 * (r + 1) = 7 * r + 7 by omega, HQ.out], HS.out, HK.out⟩
          case measure => simp [intOf] <;> omega
    · obtain rfl : r = 24 := by omega
      rw [show 7 * 24 = 168 from rfl, ks168] at hs
      obtain ⟨Q, hQ⟩ : ∃ Q, Q = K.map V := ⟨_, rfl⟩
      rw [← hQ] at hs
      have HQl := Lib.hid (show Q.length = 24 by rw [hQ]; rfl)
      have RQ := Lib.hid (blk_range hs)
      have QI := Lib.hid (show (Tryd.prog.info? 78).map (·.size) = some Q.length by rw [HQl.out]; kernel_rfl)
      have QI2 := Lib.hid (show (Tryd.prog.info? 78).map (·.size) = some Q.toArray.size by rw [List.size_toArray]; exact QI.out)
      have QO := Lib.hid (all_oneCell_toArray (cs := Q) (by rw [hQ]; exact ints1 _))
      have TQ := Lib.hid (show wr.there h 0 Q.toArray.size by
        rw [List.size_toArray, HQl.out]
        exact (HN0.out.kep hk (by omega)).there 0 24 (by decide))
      have HQ := Lib.hid hQ
      have K2 := Lib.hid (Kep.bel HB1.out hk (fun i hi => by rw [hi, HH.out]; omega))
      clear hs hk HS HK hQ
      go_wp2_with (first | (refine wpList_load_mid rfl 78 (.tmp 1) rfl (h + 1) 0 rfl Q _ RQ.out Tryd.underlying78 rfl QI.out ?_) | (refine wpList_store_mid rfl 78 (.tmp 0) (.tmp 33) rfl h 0 Q.toArray rfl rfl TQ.out QI2.out QO.out ?_))
      have RE : (wr.setCells h 0 Q).rangeAt h 0 Q := World.rangeAt_setCells_same _ _ _ _ (by have := TQ.out; rw [List.size_toArray] at this; exact this)
      refine bodyPost_ret (results_c1 Tryd.results103 _ _ ⟨h, 0, none⟩ _ rfl (run_loadVar_mid (P := Tryd.prog) _ h 0 78 Q _ RE Tryd.underlying78 rfl QI.out)) rfl ⟨by rw [HQ.out], ?_⟩
      exact Kep.bel K2.out (kep_setCellsK h Q 0 wr) (fun i hi => by rw [hi, HH.out]; exact Nat.le_refl _)
end Kk
end Go.Proofs.YtjbbecplkkkiiaaDoor
end

section
/-
  What the reference's Permute answers. Condition: a state has 25 words.
-/
namespace Go.Proofs.YtjbbecplkkkiiaaDoor
open Go.RowKit Go.Shelf
set_option linter.unusedVariables false
namespace Kk

theorem wpStill_load_mid {ops : Array Oper} {Q : Act → Prop} {o : Oper} {rest : List Oper} {a : Act} {w : World} (hgd : o.guard = none) (ty : TypeId) (x : Operand) (ho : o.op = .load ty x)
    (b off : Nat) (hx : a.eval x = .pointer (some ⟨b, off, none⟩)) (cs : List Value) (d : TypeDesc) (hc : w.rangeAt b off cs)
    (hu : Tryd.prog.underlying ty = some d) (hd : d.isRow = true) (hi : (Tryd.prog.info? ty).map (·.size) = some cs.length)
    (h : wpStill Tryd.prog ops w Q rest (a.put o.dst (.agg cs.toArray))) : wpStill Tryd.prog ops w Q (o :: rest) a := by
  unfold wpStill
  rw [if_pos (by simp [Region.wanted, hgd])]
  unfold Oper.still execOp
  simp only [ho, hx, Instr.loadAt, Instr.sureAddr, Sem.run_bind, Sem.run_pure, Result.andThen_ok, run_loadVar_mid w b off ty cs d hc hu hd hi]
  exact ⟨rfl, h⟩

set_option maxRecDepth 100000 in
set_option maxHeartbeats 4000000 in
theorem refPermute (A : List Wd) (w : World) (hA : A.length = 25) :
    Calls Tryd.prog 83 #[.agg (A.map V).toArray] w fun e w' => e = .returned (.agg ((perm A).map V).toArray) ∧ Bel w w' := by
  obtain ⟨D, hD⟩ : ∃ D, D = A.map V := ⟨_, rfl⟩
  obtain ⟨h, hh⟩ : ∃ h, h = w.heap.size := ⟨_, rfl⟩
  rw [← hD]
  have HDl := Lib.hid (show D.length = 25 by rw [hD, List.length_map]; exact hA)
  obtain ⟨W2, hW2⟩ : ∃ W2, (w.alloc (.cells D.toArray 109)).alloc Z25w = W2 := ⟨_, rfl⟩
  have BA := Lib.hid (show Blk W2 h D.toArray 109 by rw [hh, ← hW2]; exact (Blk.new w _ _).alloc _)
  have TH := Lib.hid (show W2.there (h + 1) 0 25 by
    have := there_newK (w := w.alloc (.cells D.toArray 109)) (C := #[.int .u64 0, .int .u64 0, .int .u64 0, .int .u64 0, .int .u64 0, .int .u64 0, .int .u64 0, .int .u64 0, .int .u64 0, .int .u64 0, .int .u64 0, .int .u64 0, .int .u64 0, .int .u64 0, .int .u64 0, .int .u64 0, .int .u64 0, .int .u64 0, .int .u64 0, .int .u64 0, .int .u64 0, .int .u64 0, .int .u64 0, .int .u64 0, .int .u64 0]) (t := 109) (n := 25) (by decide)
    rw [World.size_alloc, ← hh] at this
    rw [← hW2]
    exact this)
  have HB := Lib.hid (show Bel w W2 by rw [← hW2]; exact ((Bel.refl w).alloc _).alloc _)
  have HS2 := Lib.hid (show W2.heap.size = h + 2 by rw [← hW2, hh]; simp)
  have HW2 := Lib.hid hW2
  have HDD := Lib.hid hD
  have HH := Lib.hid hh
  clear hD hh hW2
  obtain ⟨Q, hQ⟩ : ∃ Q, Q = K.map V := ⟨_, rfl⟩
  have HQl := Lib.hid (show Q.length = 24 by rw [hQ]; rfl)
  have QI := Lib.hid (show (Tryd.prog.info? 78).map (·.size) = some Q.length by rw [HQl.out]; kernel_rfl)
  have QS := Lib.hid (show Q.toArray.size = Q.length from List.size_toArray)
  have QI2 := Lib.hid (show (Tryd.prog.info? 78).map (·.size) = some Q.toArray.size by rw [QS.out]; exact QI.out)
  have QO := Lib.hid (all_oneCell_toArray (cs := Q) (by rw [hQ]; exact ints1 _))
  have HQ := Lib.hid hQ
  go_enter Tryd.func83, Tryd.ntmps83
  go_wp2_with fail
  rw [HW2.out, ← HH.out]
  refine (refKeys _).mono ?_
  rintro e w3 ⟨rfl, h3⟩
  have H3 : Bel W2 w3 := h3
  have h33 : h + 2 ≤ w3.heap.size := by rw [← HS2.out]; exact Below.size H3
  rw [← hQ]
  clear h3 hQ
  have TQ := Lib.hid (show (w3.alloc (.cells Z24 78)).there w3.heap.size 0 Q.toArray.size by
    rw [QS.out, HQl.out]
    exact there_newK (by decide))
  go_wp2_with (refine wpList_store_mid rfl 78 (.tmp 3) (.tmp 5) rfl w3.heap.size 0 Q.toArray rfl rfl TQ.out QI2.out QO.out ?_)
  obtain ⟨hr, hhr⟩ : ∃ hr, hr = w3.heap.size := ⟨_, rfl⟩
  obtain ⟨w4, hw4⟩ : ∃ w4, (w3.alloc (.cells Z24 78)).setCells w3.heap.size 0 Q = w4 := ⟨_, rfl⟩
  have R4 : w4.rangeAt hr 0 Q := by
    rw [← hw4, hhr]
    have e := QS.out
    exact World.rangeAt_setCells_same _ _ _ _ (e ▸ TQ.out)
  have S4 : w4.heap.size = hr + 1 := by rw [← hw4, hhr, size_setCells]; simp
  have B4 : Bel w3 w4 := by
    rw [← hw4]
    exact Kep.bel ((Bel.refl w3).alloc _) (kep_setCellsK w3.heap.size Q 0 _) (fun i hi => by rw [hi]; exact Nat.le_refl _)
  rw [hw4, ← hhr]
  rw [← hhr] at h33
  clear hw4 hhr
  have A4 := Lib.hid (show Blk w4 h ((permN 0 A).map V).toArray 109 by
    rw [show permN 0 A = A from rfl, ← HDD.out]
    exact (BA.out.bel H3).bel B4)
  have T4 := Lib.hid (there_bel (there_bel TH.out H3) B4)
  have BB4 := Lib.hid ((HB.out.trans H3).trans B4)
  have K4 := Lib.hid (show ∀ i, i < 24 → w4.cell? ⟨hr, i, none⟩ = some (.int .u64 (U (g K i))) from fun i hi => by
    have h1 := R4 i (V (g K i)) (by
      rw [HQ.out]
      have := key_at (A := K) rfl hi
      rwa [List.getElem?_toArray] at this)
    rwa [Nat.zero_add] at h1)
  have SS4 := Lib.hid S4
  clear R4 S4 B4 H3 BA TH HB TQ QO QI2 QI HQl HQ QS HW2 HDl
  go_loopw [4] (fun i wr => ∃ k : Nat, i = .int .i64 k ∧ k ≤ 24 ∧ Blk wr h ((permN k A).map V).toArray 109 ∧ Kep (fun i => i = h) w4 wr) (fun i _ => 24 - (intOf i).toNat)
  case atStart => exact ⟨0, rfl, by omega, A4.out, Kep.refl _ _⟩
  case round =>
    obtain ⟨k, rfl, hk, hs, hkep⟩ := hrel
    have HS := Lib.hid hs
    have HK := Lib.hid hkep
    have lP := len_permN hA k
    obtain ⟨P, hP⟩ : ∃ P, P = permN k A := ⟨_, rfl⟩
    rw [← hP] at hs lP
    obtain ⟨Y, hY⟩ : ∃ Y, Y = P.map V := ⟨_, rfl⟩
    rw [← hY] at hs
    have HYl := Lib.hid (show Y.length = 25 by rw [hY, List.length_map]; exact lP)
    have YI := Lib.hid (show (Tryd.prog.info? 109).map (·.size) = some Y.length by rw [HYl.out]; kernel_rfl)
    by_cases hlt : k < 24
    · have k0 : wr.cell? ⟨hr, k, none⟩ = some (.int .u64 (U (g K k))) := hkep.cell (by omega) (K4.out k hlt)
      have RY := Lib.hid (show wr.drew.rangeAt h 0 Y from blk_range (hs.bel (Bel.refl wr).drew))
      have CR := Lib.hid (show ∀ W, Calls Tryd.prog 104 #[.agg Y.toArray, .int .u64 (U (g K k))] W fun e w' => e = .returned (.agg ((permN (k + 1) A).map V).toArray) ∧ Bel W w' from fun W => by
        have hg : K.getD k 0 = g K k := rfl
        rw [permN_succ hlt, hg, ← hP, hY]
        exact refRound P (g K k) W lP)
      clear hs hkep hP hY
      go_wp2
      refine wp_region_still_tail 4 (by kernel_rfl) (by kernel_rfl) ?_
      simp only [List.take_succ_cons, List.take_zero, List.drop_succ_cons, List.drop_zero]
      refine wpStill_load_mid rfl 109 (.tmp 1) rfl h 0 rfl Y _ RY.out Tryd.underlying109 rfl YI.out ?_
      repeat still_step
      refine wpStill_nil ?_
      change wpList _ _ _ _ _ wr.drew
      go_wp2_with fail
      refine (CR.out _).mono ?_
      rintro e w6 ⟨rfl, h6⟩
      have H6 : Bel wr.drew w6 := h6
      have K6 := (HK.out.drew).trans (Kep.of_bel H6)
      have S6 := (HS.out.bel (Bel.refl wr).drew).bel H6
      obtain ⟨X, hX⟩ : ∃ X, X = (permN (k + 1) A).map V := ⟨_, rfl⟩
      rw [← hX]
      have HXl := Lib.hid (show X.length = 25 by rw [hX, List.length_map]; exact len_permN hA _)
      have XS := Lib.hid (show X.toArray.size = X.length from List.size_toArray)
      have XI2 := Lib.hid (show (Tryd.prog.info? 109).map (·.size) = some X.toArray.size by rw [XS.out, HXl.out]; kernel_rfl)
      have XO := Lib.hid (all_oneCell_toArray (cs := X) (by rw [hX]; exact ints1 _))
      have TX := Lib.hid (show w6.there h 0 X.toArray.size by
        rw [XS.out, HXl.out]
        exact S6.there 0 25 (by rw [List.size_toArray, List.length_map, len_permN hA k]; omega))
      have W6 := Lib.hid (show Blk (w6.setCells h 0 X) h X.toArray 109 from Blk.whole S6 (by rw [HXl.out, List.size_toArray, List.length_map, len_permN hA k]))
      have HX := Lib.hid hX
      have KK6 := Lib.hid (K6.trans (kep_setCellsK h X 0 w6))
      clear h6 hX H6 K6 S6
      go_wp2_with (refine wpList_store_mid rfl 109 (.tmp 1) (.tmp 14) rfl h 0 X.toArray rfl rfl TX.out XI2.out XO.out ?_)
      go_roundw
      case rel => exact ⟨k + 1, by go_num, by omega, by rw [← HX.out]; exact W6.out, KK6.out⟩
      case measure => simp [intOf] <;> omega
    · obtain rfl : k = 24 := by omega
      have RY := Lib.hid (blk_range hs)
      have YS := Lib.hid (show Y.toArray.size = Y.length from List.size_toArray)
      have YI2 := Lib.hid (show (Tryd.prog.info? 109).map (·.size) = some Y.toArray.size by rw [YS.out]; exact YI.out)
      have YO := Lib.hid (all_oneCell_toArray (cs := Y) (by rw [hY]; exact ints1 _))
      have T9 := Lib.hid (show wr.there (h + 1) 0 Y.toArray.size by
        rw [YS.out, HYl.out]
        exact there_kep T4.out hkep (by omega))
      have K9 := Lib.hid (Kep.bel BB4.out hkep (fun i hi => by rw [hi, HH.out]; exact Nat.le_refl _))
      have HY := Lib.hid (show Y = (perm A).map V by rw [hY, hP]; rfl)
      clear hs hkep hY hP HS HK
      go_wp2_with (first | (refine wpList_load_mid rfl 109 (.tmp 1) rfl h 0 rfl Y _ RY.out Tryd.underlying109 rfl YI.out ?_) | (refine wpList_store_mid rfl 109 (.tmp 2) (.tmp 15) rfl (h + 1) 0 Y.toArray rfl rfl T9.out YI2.out YO.out ?_))
      have RE : (wr.setCells (h + 1) 0 Y).rangeAt (h + 1) 0 Y := World.rangeAt_setCells_same _ _ _ _ (by have e := YS.out; exact e ▸ T9.out)
      refine bodyPost_ret (results_c1 Tryd.results83 _ _ ⟨h + 1, 0, none⟩ _ rfl (run_loadVar_mid (P := Tryd.prog) _ (h + 1) 0 109 Y _ RE Tryd.underlying109 rfl YI.out)) rfl ⟨by rw [HY.out], ?_⟩
      exact Kep.bel K9.out (kep_setCellsK (h + 1) Y 0 _) (fun i hi => by rw [hi, HH.out]; omega)
end Kk
end Go.Proofs.YtjbbecplkkkiiaaDoor
end
