/-
  What structs of plain integers, as they come in as arguments, tell a walk. No condition.
-/
import Derived.Test.YtmbodfmdaocppaaLiftC
import Derived.Test.YtmbodfmdaocppaaAcIn
import Derived.Deep.Slices
namespace Go.Proofs.Ytmbodfmdaocppaa
open Go.ChangeShapes Go.WideShapes Go.ChangeAt Go.RowKit
set_option linter.unusedVariables false

theorem take_one {l : List Value} {o : Nat} {v : Value} (h : (l.drop o).take 1 = [v]) : l[o]? = some v := by
  have : ((l.drop o).take 1)[0]? = some v := by rw [h]; rfl
  simpa [List.getElem?_take, List.getElem?_drop] using this

set_option maxRecDepth 10000 in
theorem wrd_of {H : Type} {enc : TypeId × Value → H} {W : World} {cs : List Value} {fuel : Nat} {u : DataW H × List MemPlace} (hsz : cs.length = 1)
    (hf : DataW.trod enc Try.prog W 0 (fun _ => true) true fuel 36 cs = some u) : ∃ (z0 : Int), (0 ≤ z0 ∧ z0 ≤ 18446744073709551615) ∧ cs = [.int .u64 z0] := by
  obtain ⟨z, hz, _, hw⟩ := DataW.trod_int Try.underlying36 hf
  exact ⟨z, u64_of_wf hw, hz⟩

set_option maxRecDepth 10000 in
theorem wrd_row {H : Type} {enc : TypeId × Value → H} {W : World} {A : Option Addr} {len cap : Nat} {d : DataW H} {p : List MemPlace} {fuel : Nat}
    (hf : DataW.trod enc Try.prog W 0 (fun _ => true) true fuel 22 (Value.slice A len cap).cells.toList = some (d, p)) : Ac.Wrds W A len cap ∧ len ≤ maxLen := by
  have e46 : Try.prog.cellsOf 36 = 1 := by kernel_rfl
  rcases DataW.trod_slice Try.underlying22 hf with ⟨hcs, _⟩ | ⟨a, l, c, elems, rest, n, _, hcs, _, _, hle, hcap, hel, hi, _⟩
  · simp [Value.cells] at hcs
    obtain ⟨rfl, rfl, rfl⟩ := hcs
    exact ⟨⟨Nat.le_refl _, fun _ => rfl, fun h => absurd h (by omega)⟩, by simp [maxLen]⟩
  · simp [Value.cells] at hcs
    obtain ⟨rfl, rfl, rfl⟩ := hcs
    refine ⟨⟨hle, fun h => (by cases h), fun hn => ?_⟩, Nat.le_trans hle hcap⟩
    have key : ∀ i, i < len → ∃ (cs : List Value) (z0 : Int), (0 ≤ z0 ∧ z0 ≤ 18446744073709551615) ∧ cs = [.int .u64 z0] ∧ ∀ j v, cs[j]? = some v → W.cell? ((a.add (i * 1)).add j) = some v := fun i hil => by
      have h := hi i hil
      rw [e46, List.getElem?_eq_getElem (by omega)] at h
      obtain ⟨cs', hc, ht⟩ := Option.bind_eq_some_iff.1 h
      obtain ⟨_, hcl, hat⟩ := World.cells?_some hc
      obtain ⟨z0, hb, e⟩ := wrd_of (by simpa using hcl) ht
      refine ⟨cs', z0, hb, e, fun j v hv => ?_⟩
      have hj : j < 1 := by
        have := (List.getElem?_eq_some_iff.1 hv).1
        omega
      rw [hat j hj]
      exact hv
    obtain ⟨b, o, s⟩ := a
    obtain ⟨cs0, x0, hb0, e0, h0⟩ := key 0 hn
    have hc0 := h0 0 (.int .u64 x0) (by rw [e0]; rfl)
    have hs : s = none := by simpa [Addr.add] using World.cell?_spot hc0
    subst hs
    refine ⟨b, o, rfl, World.block_lt_of_cell? W ⟨b, o, none⟩ (by simpa [Addr.add] using hc0), fun i hil => ?_⟩
    obtain ⟨cs, z0, hb, e, hc⟩ := key i hil
    refine ⟨z0, hb, fun j v hv => ?_⟩
    have h1 := hc j v (by rw [e]; exact hv)
    rw [Go.Deep.add_add] at h1
    have h2 : (⟨b, o, none⟩ : Addr).add (i * 1 + j) = ⟨b, o + i * 1 + j, none⟩ := by
      unfold Addr.add
      by_cases e : i * 1 + j = 0
      · rw [if_pos e]
        first | (simp; done) | (simp; omega)
      · rw [if_neg e]
        first | rfl | (rw [Nat.add_assoc]; done) | (simp; done) | (simp; omega) | (simp [Nat.add_assoc]; done)
    rwa [h2] at h1

set_option maxRecDepth 10000 in
theorem bol_of {H : Type} {enc : TypeId × Value → H} {W : World} {cs : List Value} {fuel : Nat} {u : DataW H × List MemPlace} (hsz : cs.length = 1)
    (hf : DataW.trod enc Try.prog W 0 (fun _ => true) true fuel 4 cs = some u) : ∃ (z0 : Bool), (True) ∧ cs = [.bool z0] := by
  obtain ⟨z, hz, _⟩ := DataW.trod_bool Try.underlying4 hf
  exact ⟨z, trivial, hz⟩

set_option maxRecDepth 10000 in
theorem bol_row {H : Type} {enc : TypeId × Value → H} {W : World} {A : Option Addr} {len cap : Nat} {d : DataW H} {p : List MemPlace} {fuel : Nat}
    (hf : DataW.trod enc Try.prog W 0 (fun _ => true) true fuel 23 (Value.slice A len cap).cells.toList = some (d, p)) : Ac.Bols W A len cap ∧ len ≤ maxLen := by
  have e46 : Try.prog.cellsOf 4 = 1 := by kernel_rfl
  rcases DataW.trod_slice Try.underlying23 hf with ⟨hcs, _⟩ | ⟨a, l, c, elems, rest, n, _, hcs, _, _, hle, hcap, hel, hi, _⟩
  · simp [Value.cells] at hcs
    obtain ⟨rfl, rfl, rfl⟩ := hcs
    exact ⟨⟨Nat.le_refl _, fun _ => rfl, fun h => absurd h (by omega)⟩, by simp [maxLen]⟩
  · simp [Value.cells] at hcs
    obtain ⟨rfl, rfl, rfl⟩ := hcs
    refine ⟨⟨hle, fun h => (by cases h), fun hn => ?_⟩, Nat.le_trans hle hcap⟩
    have key : ∀ i, i < len → ∃ (cs : List Value) (z0 : Bool), (True) ∧ cs = [.bool z0] ∧ ∀ j v, cs[j]? = some v → W.cell? ((a.add (i * 1)).add j) = some v := fun i hil => by
      have h := hi i hil
      rw [e46, List.getElem?_eq_getElem (by omega)] at h
      obtain ⟨cs', hc, ht⟩ := Option.bind_eq_some_iff.1 h
      obtain ⟨_, hcl, hat⟩ := World.cells?_some hc
      obtain ⟨z0, hb, e⟩ := bol_of (by simpa using hcl) ht
      refine ⟨cs', z0, hb, e, fun j v hv => ?_⟩
      have hj : j < 1 := by
        have := (List.getElem?_eq_some_iff.1 hv).1
        omega
      rw [hat j hj]
      exact hv
    obtain ⟨b, o, s⟩ := a
    obtain ⟨cs0, x0, hb0, e0, h0⟩ := key 0 hn
    have hc0 := h0 0 (.bool x0) (by rw [e0]; rfl)
    have hs : s = none := by simpa [Addr.add] using World.cell?_spot hc0
    subst hs
    refine ⟨b, o, rfl, World.block_lt_of_cell? W ⟨b, o, none⟩ (by simpa [Addr.add] using hc0), fun i hil => ?_⟩
    obtain ⟨cs, z0, hb, e, hc⟩ := key i hil
    refine ⟨z0, hb, fun j v hv => ?_⟩
    have h1 := hc j v (by rw [e]; exact hv)
    rw [Go.Deep.add_add] at h1
    have h2 : (⟨b, o, none⟩ : Addr).add (i * 1 + j) = ⟨b, o + i * 1 + j, none⟩ := by
      unfold Addr.add
      by_cases e : i * 1 + j = 0
      · rw [if_pos e]
        first | (simp; done) | (simp; omega)
      · rw [if_neg e]
        first | rfl | (rw [Nat.add_assoc]; done) | (simp; done) | (simp; omega) | (simp [Nat.add_assoc]; done)
    rwa [h2] at h1

end Go.Proofs.Ytmbodfmdaocppaa
