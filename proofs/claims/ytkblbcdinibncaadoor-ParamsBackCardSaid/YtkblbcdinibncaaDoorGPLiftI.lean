/-
  What a law's argument that is a slice of integers, as it comes in, tells a walk. No condition.
-/
import Derived.Test.YtkblbcdinibncaaDoorGPLiftR
namespace Go.Proofs.YtkblbcdinibncaaDoor
open Go.ChangeShapes Go.WideShapes Go.ChangeAt Go.RowKit
open Kk
set_option linter.unusedVariables false

/-- A slice of integers that came in reads as a list of numbers that fit their kind. -/
theorem ints_in {H : Type} {enc : TypeId × Value → H} {W : World} {t e : TypeId} {k : IntKind} {A : Option Addr} {len cap : Nat} {d : DataW H} {p : List MemPlace} {fuel : Nat}
    (ht : Tryd.prog.underlying t = some (.slice e)) (he : Tryd.prog.underlying e = some (.int k)) (hc : Tryd.prog.cellsOf e = 1)
    (hf : DataW.trod enc Tryd.prog W 0 (fun _ => true) true fuel t (Value.slice A len cap).cells.toList = some (d, p)) :
    ∃ zs, Kk.Ints k W A len zs ∧ (∀ z ∈ zs, (Lit.int k z).wf = true) ∧ len ≤ maxLen ∧ (A = none → cap = 0) := by
  rcases open_ints ht he hc hf with ⟨hcs, _⟩ | ⟨x, l, c, zs, hcs, _, hl, hm, hz, _, hcell, hwz⟩
  · simp [Value.cells] at hcs
    obtain ⟨rfl, rfl, rfl⟩ := hcs
    exact ⟨[], Kk.Ints.nil_, by simp, by simp [maxLen], fun _ => rfl⟩
  · simp [Value.cells] at hcs
    obtain ⟨rfl, rfl, rfl⟩ := hcs
    have hz' : zs.length = cap := by simpa using hz
    refine ⟨zs.take len, ⟨by rw [List.length_take]; omega, fun hn => ?_⟩, fun z h => hwz z (List.mem_of_mem_take h), Nat.le_trans hl hm, fun h => by cases h⟩
    obtain ⟨b, o, s⟩ := x
    have h0 := hcell 0 (by omega)
    have hs : s = none := by simpa [Addr.add] using World.cell?_spot h0
    subst hs
    refine ⟨b, o, rfl, World.block_lt_of_cell? W ⟨b, o, none⟩ (by simpa [Addr.add] using h0), fun i hi => ?_⟩
    have h1 := hcell i (by omega)
    have h2 : (zs.take len).getD i 0 = zs.getD i 0 := by simp [List.getD_eq_getElem?_getD, hi]
    rw [h2, ← h1]
    unfold Addr.add
    by_cases hi0 : i = 0
    · subst hi0; simp
    · simp [hi0]
end Go.Proofs.YtkblbcdinibncaaDoor
