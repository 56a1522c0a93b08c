/-
  What a law's argument that is a slice of Things, as it comes in, tells a walk: each one's 38 cells. No condition.
-/
import Derived.Test.YtejbhfcmhijfcaaLiftT
import Derived.Test.YtejbhfcmhijfcaaReads4
import Derived.Deep.Slices
namespace Go.Proofs.Ytejbhfcmhijfcaa
open Go.ChangeShapes Go.WideShapes Go.ChangeAt Go.RowKit
set_option linter.unusedVariables false

set_option maxRecDepth 10000 in
theorem thing_of {H : Type} {enc : TypeId × Value → H} {W : World} {cs : Array Value} {fuel : Nat} {u : DataW H × List MemPlace} (hsz : cs.size = 38)
    (hf : DataW.trod enc Try.prog W 0 (fun _ => true) true fuel 46 cs.toList = some u) : Cd.Thing cs := by
  obtain ⟨xs, n, _, _, hl, hlen, hg⟩ := DataW.trod_struct Try.underlying46 hf
  have hlen : xs.length = 7 := hlen
  have get : ∀ i, i < 7 → xs[i]? = some (xs.getD i (.nil, [])) := fun i hi => by
    rw [List.getD_eq_getElem?_getD, List.getElem?_eq_getElem (by omega)]
    rfl
  have one : ∀ (t : TypeId) (k : IntKind) (o : Nat) (u : DataW H × List MemPlace), Try.prog.underlying t = some (.int k) → DataW.trod enc Try.prog W 0 (fun _ => true) true n t ((cs.toList.drop o).take 1) = some u → ∃ z, cs[o]? = some (.int k z) ∧ (Lit.int k z).wf = true := fun t k o u ht hu => by
    obtain ⟨z, hz, _, hw⟩ := DataW.trod_int ht hu
    exact ⟨z, by rw [← Array.getElem?_toList]; exact take_one hz, hw⟩
  have h0 : DataW.trod enc Try.prog W 0 (fun _ => true) true n 3 ((cs.toList.drop 0).take (Try.prog.cellsOf 3)) = some (xs.getD 0 (.nil, [])) := (hg 0 _ rfl).trans (get 0 (by decide))
  have h1 : DataW.trod enc Try.prog W 0 (fun _ => true) true n 3 ((cs.toList.drop 1).take (Try.prog.cellsOf 3)) = some (xs.getD 1 (.nil, [])) := (hg 1 _ rfl).trans (get 1 (by decide))
  have h2 : DataW.trod enc Try.prog W 0 (fun _ => true) true n 3 ((cs.toList.drop 2).take (Try.prog.cellsOf 3)) = some (xs.getD 2 (.nil, [])) := (hg 2 _ rfl).trans (get 2 (by decide))
  have h5 : DataW.trod enc Try.prog W 0 (fun _ => true) true n 23 ((cs.toList.drop 36).take (Try.prog.cellsOf 23)) = some (xs.getD 5 (.nil, [])) := (hg 5 _ rfl).trans (get 5 (by decide))
  have h6 : DataW.trod enc Try.prog W 0 (fun _ => true) true n 27 ((cs.toList.drop 37).take (Try.prog.cellsOf 27)) = some (xs.getD 6 (.nil, [])) := (hg 6 _ rfl).trans (get 6 (by decide))
  have e1 : Try.prog.cellsOf 3 = 1 := by kernel_rfl
  have e5 : Try.prog.cellsOf 23 = 1 := by kernel_rfl
  have e6 : Try.prog.cellsOf 27 = 1 := by kernel_rfl
  rw [e1] at h0 h1 h2
  rw [e5] at h5
  rw [e6] at h6
  obtain ⟨kind, c0, _⟩ := one _ _ 0 _ Try.underlying3 h0
  obtain ⟨x, c1, w1⟩ := one _ _ 1 _ Try.underlying3 h1
  obtain ⟨l, c2, w2⟩ := one _ _ 2 _ Try.underlying3 h2
  obtain ⟨er, c6, _⟩ := one _ _ 37 _ Try.underlying27 h6
  refine ⟨hsz, ⟨kind, c0⟩, ⟨x, c1, (i64_of_wf w1).2⟩, ⟨l, c2, (i64_of_wf w2).2⟩, ?_, ⟨er, c6⟩⟩
  rcases DataW.trod_slice Try.underlying23 h5 with ⟨hc, _⟩ | ⟨a, len, cap, _, _, _, _, hc, _, _, hle, hcap, _⟩
  · exact ⟨_, _, _, by rw [← Array.getElem?_toList]; exact take_one hc, by simp [maxLen]⟩
  · exact ⟨_, _, _, by rw [← Array.getElem?_toList]; exact take_one hc, Nat.le_trans hle hcap⟩

theorem things_in {H : Type} {enc : TypeId × Value → H} {W : World} {A : Option Addr} {len cap : Nat} {d : DataW H} {p : List MemPlace} {fuel : Nat}
    (hf : DataW.trod enc Try.prog W 0 (fun _ => true) true fuel 36 (Value.slice A len cap).cells.toList = some (d, p)) : Cd.Things W A len ∧ len ≤ maxLen := by
  have e46 : Try.prog.cellsOf 46 = 38 := by kernel_rfl
  rcases DataW.trod_slice Try.underlying36 hf with ⟨hcs, _⟩ | ⟨a, l, c, elems, rest, n, _, hcs, _, _, hle, hcap, hel, hi, _⟩
  · simp [Value.cells] at hcs
    obtain ⟨rfl, rfl, rfl⟩ := hcs
    exact ⟨fun h => absurd h (by omega), by simp [maxLen]⟩
  · simp [Value.cells] at hcs
    obtain ⟨rfl, rfl, rfl⟩ := hcs
    refine ⟨fun hn => ?_, Nat.le_trans hle hcap⟩
    have key : ∀ i, i < len → ∃ cs : Array Value, Cd.Thing cs ∧ ∀ j v, cs[j]? = some v → W.cell? ((a.add (i * 38)).add j) = some v := fun i hil => by
      have h := hi i hil
      rw [e46, List.getElem?_eq_getElem (by omega)] at h
      obtain ⟨cs', hc, ht⟩ := Option.bind_eq_some_iff.1 h
      obtain ⟨_, hcl, hat⟩ := World.cells?_some hc
      refine ⟨cs'.toArray, thing_of (by simpa using hcl) ht, fun j v hv => ?_⟩
      have hj : j < 38 := by
        have := (Array.getElem?_eq_some_iff.1 hv).1
        simp at this
        omega
      rw [hat j hj, ← List.getElem?_toArray]
      exact hv
    obtain ⟨b, o, s⟩ := a
    obtain ⟨cs0, hT0, h0⟩ := key 0 hn
    obtain ⟨k0, hk0⟩ := hT0.2.1
    have hc0 := h0 0 _ hk0
    have hs : s = none := by simpa [Addr.add] using World.cell?_spot hc0
    subst hs
    refine ⟨b, o, rfl, World.block_lt_of_cell? W ⟨b, o, none⟩ (by simpa [Addr.add] using hc0), fun i hil => ?_⟩
    obtain ⟨cs, hT, hc⟩ := key i hil
    refine ⟨cs, hT, fun j v hv => ?_⟩
    have h1 := hc j v hv
    rw [Go.Deep.add_add] at h1
    have h2 : (⟨b, o, none⟩ : Addr).add (i * 38 + j) = ⟨b, o + i * 38 + j, none⟩ := by
      unfold Addr.add
      by_cases e : i * 38 + j = 0
      · rw [if_pos e]
        first | (simp; done) | (simp; omega)
      · rw [if_neg e]
        first | rfl | (rw [Nat.add_assoc]; done) | (simp; done) | (simp; omega) | (simp [Nat.add_assoc]; done)
    rwa [h2] at h1
end Go.Proofs.Ytejbhfcmhijfcaa
