/-
  What the row's premise tells a walk: the table of turns lies in its variable. No condition.
-/
import Derived.Test.YtaniijpppmipbaaDoorKNone
import Derived.Test.YtaniijpppmipbaaDoorRows
import Derived.ProofKit
import Derived.LaidMore
import Derived.OpenShut
import Derived.ChangeOld
import Derived.Stop.Joined
namespace Go.Proofs.YtaniijpppmipbaaDoor
open Go.ChangeShapes Go.WideShapes Go.ChangeAt Go.RowKit
set_option linter.unusedVariables false

theorem own : ownKnob Tryd.prog.godebug = none := by kernel_rfl
theorem laidOut : laidOutB Tryd.prog = true := by kernel_rfl
theorem gTurns : Tryd.prog.globalNamed "distraint/keccak.turns" = some 0 := by kernel_rfl
theorem tTurns : (Tryd.prog.globals[0]?).map (·.type) = some 103 := by kernel_rfl
abbrev laid1 {H : Type} : List (String × DataW H) := [("distraint/keccak.turns", Rows.laid_distraint_keccak_turns)]

/-- The door's own heap meets the premise. -/
theorem door_met (os : Os) (args : Array Value) : laidMetH Tryd.prog laid1 ((World.doorLaid Tryd.prog 400 os).forCall (fun _ _ => 0) ⟨#[], args, []⟩).memory :=
  laidMetH_of_parts3 (fuel := 8) (laidMet_of_run' 8 (by kernel_rfl) (by kernel_rfl)) (by kernel_rfl) (by kernel_rfl)

theorem row_ints {H : Type} {enc : TypeId × Value → H} {W : World} {m : Nat} {cs : List Value} {x : DataW H × List MemPlace} (zs : List Int) (hx0 : x.1 = .agg (zs.map fun a => .lit (.int .i64 a)))
    (h : DataW.trod enc Tryd.prog W 0 (fun _ => true) false m 102 cs = some x) : ∀ (j : Nat) (a : Int), zs[j]? = some a → cs[j]? = some (.int .i64 a) := by
  intro j a hj
  obtain ⟨xs, m1, rfl, rfl, hlen, hn, hel⟩ := DataW.trod_array Tryd.underlying102 h
  have c1 : Tryd.prog.cellsOf 3 = 1 := by kernel_rfl
  simp only [DataW.agg.injEq] at hx0
  have hjl : j < zs.length := (List.getElem?_eq_some_iff.1 hj).1
  have hzl : zs.length = 5 := by
    have := congrArg List.length hx0
    simp at this
    omega
  have e := hel j (by omega)
  rw [c1, Nat.mul_one] at e
  obtain ⟨y, hy⟩ : ∃ y, xs[j]? = some y := ⟨xs[j]'(by omega), List.getElem?_eq_getElem _⟩
  rw [hy] at e
  obtain ⟨k, e1, e2, _⟩ := DataW.trod_int Tryd.underlying3 e
  have e3 : (xs.map (·.1))[j]? = some (.lit (.int .i64 k)) := by rw [List.getElem?_map, hy, e2]; rfl
  rw [hx0, List.getElem?_map, hj] at e3
  have hk : a = k := by simpa using e3
  subst hk
  have e4 : (cs.drop j)[0]? = some (.int .i64 a) := by
    have : ((cs.drop j).take 1)[0]? = some (.int .i64 a) := by rw [e1]; rfl
    rwa [List.getElem?_take_of_lt (by omega)] at this
  rwa [List.getElem?_drop, Nat.add_zero] at e4

def rowsOf : List (List Int) := [[0, 1, 62, 28, 27], [36, 44, 6, 55, 20], [3, 10, 43, 25, 39], [41, 45, 15, 21, 8], [18, 2, 61, 56, 14]]
theorem rows_rr : ∀ i, i < 5 → ∀ j, j < 5 → ∃ row, rowsOf[i]? = some row ∧ row[j]? = some ((Kk.rr (i * 5 + j) : Nat) : Int) := by
  have : ∀ i : Fin 5, ∀ j : Fin 5, (rowsOf[i.1]?).bind (fun row => row[j.1]?) = some ((Kk.rr (i.1 * 5 + j.1) : Nat) : Int) := by decide
  intro i hi j hj
  obtain ⟨row, h1, h2⟩ := Option.bind_eq_some_iff.1 (this ⟨i, hi⟩ ⟨j, hj⟩)
  exact ⟨row, h1, h2⟩

/-- What the premise gives the walks. -/
theorem of_laid {W : World} (h : laidMetH Tryd.prog laid1 W) : Kk.Tn W := by
  rw [MakeChecks.laidMetH_plain _ _ _ (by kernel_rfl)] at h
  obtain ⟨ps, ⟨g0, t0, cs0, f0, p0, q0, hg0, ht0, hv0, hd0, _⟩, _⟩ := h
  obtain rfl := Option.some.inj (gTurns.symm.trans hg0)
  obtain rfl := Option.some.inj (tTurns.symm.trans ht0)
  have hcell := fun j => World.var?_cell gTurns hv0 j
  obtain ⟨xs, m, rfl, hx, hlen, hn, hel⟩ := DataW.trod_array Tryd.underlying103 hd0
  have c5 : Tryd.prog.cellsOf 102 = 5 := by kernel_rfl
  have hx1 : xs.map (·.1) = rowsOf.map fun row => .agg (row.map fun a => .lit (.int .i64 a)) := by
    have := congrArg (·.1) hx
    simp only [DataW.agg.injEq, Rows.laid_distraint_keccak_turns] at this
    rw [← this]
    rfl
  have key : ∀ i, i < 25 → cs0[i]? = some (.int .i64 (Kk.rr i : Nat)) := by
    intro i hi
    obtain ⟨row, h1, h2⟩ := rows_rr (i / 5) (by omega) (i % 5) (by omega)
    rw [show i / 5 * 5 + i % 5 = i by omega] at h2
    have e := hel (i / 5) (by omega)
    rw [c5] at e
    obtain ⟨y, hy⟩ : ∃ y, xs[i / 5]? = some y := ⟨xs[i / 5]'(by omega), List.getElem?_eq_getElem _⟩
    rw [hy] at e
    have ey : y.1 = .agg (row.map fun a => .lit (.int .i64 a)) := by
      have : (xs.map (·.1))[i / 5]? = some y.1 := by rw [List.getElem?_map, hy]; rfl
      rw [hx1, List.getElem?_map, h1] at this
      simpa using this.symm
    have r := row_ints row ey e (i % 5) _ h2
    rw [List.getElem?_take_of_lt (by omega), List.getElem?_drop, show i / 5 * 5 + i % 5 = i by omega] at r
    rw [← r]
    exact (Array.getElem?_toList).symm
  refine ⟨?_, fun i hi => (hcell i).trans (key i hi)⟩
  exact World.block_lt_of_cell? W ⟨0, 0, none⟩ ((hcell 0).trans (key 0 (by omega)))

end Go.Proofs.YtaniijpppmipbaaDoor
