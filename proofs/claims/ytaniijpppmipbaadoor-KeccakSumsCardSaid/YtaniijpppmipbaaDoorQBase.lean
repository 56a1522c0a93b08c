/-
  What the reference's small functions answer: at, turns, rot. Conditions: small places; from 0 to 63 bits.
-/
import Derived.Test.YtaniijpppmipbaaDoorKSum2
namespace Go.Proofs.YtaniijpppmipbaaDoor
open Go.RowKit Go.Shelf
set_option linter.unusedVariables false
namespace Kk

theorem refAt (x y z : Int) (w : World) (hx0 : 0 ≤ x) (hx : x ≤ 1000) (hy0 : 0 ≤ y) (hy : y ≤ 1000) (hz : x % 5 + 5 * (y % 5) = z) :
    Calls Tryd.prog 59 #[.int .i64 x, .int .i64 y] w fun e w' => e = .returned (.int .i64 z) ∧ w' = w := by
  obtain ⟨p, hp⟩ : ∃ p, x % 5 = p := ⟨_, rfl⟩
  obtain ⟨q, hq⟩ : ∃ q, y % 5 = q := ⟨_, rfl⟩
  have m1 : x.tmod 5 = p := by rw [Int.tmod_eq_emod_of_nonneg hx0]; exact hp
  have m2 : y.tmod 5 = q := by rw [Int.tmod_eq_emod_of_nonneg hy0]; exact hq
  rw [hp, hq] at hz
  have HZ := Lib.hid hz
  clear hz
  have hp0 : 0 ≤ p := by omega
  have hq0 : 0 ≤ q := by omega
  have hp5 : p < 5 := by omega
  have hq5 : q < 5 := by omega
  clear hp hq
  have w1 : IntKind.i64.wrap p = p := IntWalk.i64_in _ (by omega)
  have w2 : IntKind.i64.wrap q = q := IntWalk.i64_in _ (by omega)
  have w3 : IntKind.i64.wrap (5 * q) = 5 * q := IntWalk.i64_in _ (by omega)
  have w4 : IntKind.i64.wrap (p + 5 * q) = p + 5 * q := IntWalk.i64_in _ (by omega)
  go_enter Tryd.func59, Tryd.ntmps59
  go_wp2
  go_ret
  have e := HZ.out
  subst e
  exact ⟨rfl, rfl⟩

theorem refRot (x : Wd) (k : Nat) (w : World) (hk : k ≤ 63) :
    Calls Tryd.prog 61 #[.int .u64 (U x), .int .i64 (k : Int)] w fun e w' => e = .returned (.int .u64 (U (rot x k))) ∧ ∃ m, w' = w.drewN m := by
  by_cases h0 : k = 0
  · subst h0
    rw [rot0]
    go_enter Tryd.func61, Tryd.ntmps61
    go_wp2
    go_ret
    exact ⟨rfl, 0, rfl⟩
  · have T := rot_u x k
    have hk0 : ¬ ((k : Int) = 0) := by omega
    have k1 : (1 : Int) ≤ (k : Int) := by omega
    have k2 : (k : Int) ≤ 63 := by omega
    have w1 : IntKind.i64.wrap (64 - (k : Int)) = ((64 - k : Nat) : Int) := by rw [IntWalk.i64_in _ (by omega)]; omega
    obtain ⟨m, hm⟩ : ∃ m, 64 - k = m := ⟨_, rfl⟩
    rw [hm] at T w1
    have hm1 : m ≤ 63 := by omega
    clear hm h0
    go_enter Tryd.func61, Tryd.ntmps61
    go_wp2
    go_quiet (fail)
    go_wp2
    go_ret
    exact ⟨rfl, nq, rfl⟩

/-- The cells of the table of turns. -/
def trCells : List Value := R.map fun n : Nat => Value.int .i64 (n : Int)
theorem len_tr : trCells.length = 25 := rfl
theorem tr_at {i : Nat} (h : i < 25) : trCells[i]? = some (.int .i64 (rr i : Int)) := by
  unfold trCells rr
  rw [List.getElem?_map, List.getD_eq_getElem?_getD, List.getElem?_eq_getElem (by exact h)]
  rfl
theorem int_tr : ∀ v ∈ trCells, v.oneCell' = true := by
  intro v hv
  obtain ⟨z, _, rfl⟩ := List.mem_map.1 hv
  rfl

abbrev ZI25 : Array Value := #[.int .i64 0, .int .i64 0, .int .i64 0, .int .i64 0, .int .i64 0, .int .i64 0, .int .i64 0, .int .i64 0, .int .i64 0, .int .i64 0, .int .i64 0, .int .i64 0, .int .i64 0, .int .i64 0, .int .i64 0, .int .i64 0, .int .i64 0, .int .i64 0, .int .i64 0, .int .i64 0, .int .i64 0, .int .i64 0, .int .i64 0, .int .i64 0, .int .i64 0]
theorem wpList_build_all {ops : Array Oper} {rest : List Oper} {op : Oper} {a : Act} {w : World} {Q : Exit → Act → World → Prop} (hgd : op.guard = none) (t : TypeId) (fs : List (Nat × Operand)) (ho : op.op = .build t fs.toArray)
    (us : List (Nat × Value)) (v : Value) (hx : (fs.map fun (i, x) => (i, a.eval x)) = us) (hb : ∀ w, (Instr.build t us.toArray).run Tryd.prog w = .ok v w)
    (h : wpList Tryd.prog ops Q rest (a.put op.dst v) w) : wpList Tryd.prog ops Q (op :: rest) a w :=
  wpList_plain hgd fun _ hK => by
    unfold Oper.wp execOp
    simp only [ho, List.map_toArray]
    rw [hx]
    simp [hb, Oper.upon]
    exact hK _ _ h
theorem build_tr (w : World) : (Instr.build 92 #[(0, Value.int .i64 0), (1, Value.int .i64 1), (2, Value.int .i64 62), (3, Value.int .i64 28), (4, Value.int .i64 27), (5, Value.int .i64 36), (6, Value.int .i64 44), (7, Value.int .i64 6), (8, Value.int .i64 55), (9, Value.int .i64 20), (10, Value.int .i64 3), (11, Value.int .i64 10), (12, Value.int .i64 43), (13, Value.int .i64 25), (14, Value.int .i64 39), (15, Value.int .i64 41), (16, Value.int .i64 45), (17, Value.int .i64 15), (18, Value.int .i64 21), (19, Value.int .i64 8), (20, Value.int .i64 18), (21, Value.int .i64 2), (22, Value.int .i64 61), (23, Value.int .i64 56), (24, Value.int .i64 14)]).run Tryd.prog w = .ok (.agg trCells.toArray) w := by kernel_rfl

set_option maxRecDepth 100000 in
set_option maxHeartbeats 4000000 in
theorem refTurns (w : World) :
    Calls Tryd.prog 60 #[] w fun e w' => e = .returned (.agg trCells.toArray) ∧ Bel w w' := by
  obtain ⟨Q, hQ⟩ : ∃ Q, Q = trCells := ⟨_, rfl⟩
  have BH := Lib.hid (fun w => by rw [hQ]; exact build_tr w : ∀ w, (Instr.build 92 #[(0, Value.int .i64 0), (1, Value.int .i64 1), (2, Value.int .i64 62), (3, Value.int .i64 28), (4, Value.int .i64 27), (5, Value.int .i64 36), (6, Value.int .i64 44), (7, Value.int .i64 6), (8, Value.int .i64 55), (9, Value.int .i64 20), (10, Value.int .i64 3), (11, Value.int .i64 10), (12, Value.int .i64 43), (13, Value.int .i64 25), (14, Value.int .i64 39), (15, Value.int .i64 41), (16, Value.int .i64 45), (17, Value.int .i64 15), (18, Value.int .i64 21), (19, Value.int .i64 8), (20, Value.int .i64 18), (21, Value.int .i64 2), (22, Value.int .i64 61), (23, Value.int .i64 56), (24, Value.int .i64 14)]).run Tryd.prog w = .ok (.agg Q.toArray) w)
  have HQ := Lib.hid hQ
  have HQl := Lib.hid (show Q.length = 25 by rw [hQ]; rfl)
  have QI := Lib.hid (show (Tryd.prog.info? 92).map (·.size) = some Q.length by rw [HQl.out]; kernel_rfl)
  have QI2 := Lib.hid (show (Tryd.prog.info? 92).map (·.size) = some Q.toArray.size by rw [List.size_toArray]; exact QI.out)
  have QO := Lib.hid (all_oneCell_toArray (cs := Q) (by rw [hQ]; exact int_tr))
  have TQ := Lib.hid (show (w.alloc (.cells ZI25 92)).there w.heap.size 0 Q.toArray.size by
    have e : Q.toArray.size = 25 := by rw [List.size_toArray]; exact HQl.out
    rw [e]
    exact there_newK (by decide))
  clear hQ
  go_enter Tryd.func60, Tryd.ntmps60
  go_wp2_with (first | (refine wpList_build_all rfl 92 _ rfl [(0, Value.int .i64 0), (1, Value.int .i64 1), (2, Value.int .i64 62), (3, Value.int .i64 28), (4, Value.int .i64 27), (5, Value.int .i64 36), (6, Value.int .i64 44), (7, Value.int .i64 6), (8, Value.int .i64 55), (9, Value.int .i64 20), (10, Value.int .i64 3), (11, Value.int .i64 10), (12, Value.int .i64 43), (13, Value.int .i64 25), (14, Value.int .i64 39), (15, Value.int .i64 41), (16, Value.int .i64 45), (17, Value.int .i64 15), (18, Value.int .i64 21), (19, Value.int .i64 8), (20, Value.int .i64 18), (21, Value.int .i64 2), (22, Value.int .i64 61), (23, Value.int .i64 56), (24, Value.int .i64 14)] (.agg Q.toArray) rfl BH.out ?_) | (refine wpList_store_mid rfl 92 (.tmp 0) (.tmp 1) rfl w.heap.size 0 Q.toArray rfl rfl TQ.out QI2.out QO.out ?_))
  have e : Q.toArray.size = Q.length := List.size_toArray
  have RE : ((w.alloc (.cells ZI25 92)).setCells w.heap.size 0 Q).rangeAt w.heap.size 0 Q := World.rangeAt_setCells_same _ _ _ _ (e ▸ TQ.out)
  refine bodyPost_ret (results_c1 Tryd.results60 _ _ ⟨w.heap.size, 0, none⟩ _ rfl (run_loadVar_mid (P := Tryd.prog) _ w.heap.size 0 92 Q _ RE Tryd.underlying92 rfl QI.out)) rfl ⟨by rw [HQ.out], ?_⟩
  exact Kep.bel ((Bel.refl w).alloc _) (kep_setCellsK w.heap.size Q 0 _) (fun i hi => by rw [hi]; exact Nat.le_refl _)
end Kk
end Go.Proofs.YtaniijpppmipbaaDoor
