/-
  What a law's argument that is a Thing, as it comes in, tells a walk: its 38 cells. No condition.
-/
import Derived.Test.YtejbhfcmhijfcaaLiftI
namespace Go.Proofs.Ytejbhfcmhijfcaa
open Go.ChangeShapes Go.WideShapes Go.ChangeAt Go.RowKit
set_option linter.unusedVariables false

theorem take_one {l : List Value} {o : Nat} {v : Value} (h : (l.drop o).take 1 = [v]) : l[o]? = some v := by
  have : ((l.drop o).take 1)[0]? = some v := by rw [h]; rfl
  simpa [List.getElem?_take, List.getElem?_drop] using this
theorem ints_map : ∀ (L : List Value), (∀ v ∈ L, ∃ z, v = Value.int .u8 z) → ∃ hs : List Int, L = hs.map (Value.int .u8)
  | [], _ => ⟨[], rfl⟩
  | v :: L, h => by
    obtain ⟨z, rfl⟩ := h v (List.mem_cons_self ..)
    obtain ⟨hs, rfl⟩ := ints_map L (fun v hv => h v (List.mem_cons_of_mem _ hv))
    exact ⟨z :: hs, rfl⟩

set_option maxRecDepth 10000 in
theorem thing_in {H : Type} {enc : TypeId × Value → H} {W : World} {r : Reach} {b0 : Nat} {v : Value} {d : DataW H} {p : List MemPlace}
    (hv : Value.okWide Try.prog W r b0 46 v) (h : DataW.Trod enc Try.prog W 0 (fun _ => true) true 46 v d p) :
    ∃ (cs : Array Value) (x y er : Int) (A : Option Addr) (m c : Nat) (hs : List Int), v = .agg cs ∧ cs.size = 38 ∧ cs[1]? = some (.int .i64 x) ∧ cs[3]? = some (.int .u64 y) ∧ (Lit.int .u64 y).wf = true ∧ cs[36]? = some (.slice A m c) ∧ cs[37]? = some (.int .i64 er) ∧ (cs.extract 4 36).toList = hs.map (Value.int .u8) ∧ hs.length = 32 ∧ m ≤ maxLen := by
  obtain ⟨cs, rfl, hsz⟩ := okWide_struct Try.underlying46 hv
  have hsz : cs.size = 38 := hsz.trans (by kernel_rfl)
  obtain ⟨fuel, hf⟩ := h
  have hf : DataW.trod enc Try.prog W 0 (fun _ => true) true fuel 46 cs.toList = some (d, p) := hf
  obtain ⟨xs, n, _, _, hl, hlen, hg⟩ := DataW.trod_struct Try.underlying46 hf
  have hlen : xs.length = 7 := hlen
  have get : ∀ i, i < 7 → xs[i]? = some (xs.getD i (.nil, [])) := fun i hi => by
    rw [List.getD_eq_getElem?_getD, List.getElem?_eq_getElem (by omega)]
    rfl
  have one : ∀ (t : TypeId) (k : IntKind) (o : Nat) (u : DataW H × List MemPlace), Try.prog.underlying t = some (.int k) → DataW.trod enc Try.prog W 0 (fun _ => true) true n t ((cs.toList.drop o).take 1) = some u → ∃ z, cs[o]? = some (.int k z) ∧ (Lit.int k z).wf = true := fun t k o u ht hu => by
    obtain ⟨z, hz, _, hw⟩ := DataW.trod_int ht hu
    exact ⟨z, by rw [← Array.getElem?_toList]; exact take_one hz, hw⟩
  have h1 : DataW.trod enc Try.prog W 0 (fun _ => true) true n 3 ((cs.toList.drop 1).take (Try.prog.cellsOf 3)) = some (xs.getD 1 (.nil, [])) := (hg 1 _ rfl).trans (get 1 (by decide))
  have h3 : DataW.trod enc Try.prog W 0 (fun _ => true) true n 22 ((cs.toList.drop 3).take (Try.prog.cellsOf 22)) = some (xs.getD 3 (.nil, [])) := (hg 3 _ rfl).trans (get 3 (by decide))
  have h4 : DataW.trod enc Try.prog W 0 (fun _ => true) true n 44 ((cs.toList.drop 4).take (Try.prog.cellsOf 44)) = some (xs.getD 4 (.nil, [])) := (hg 4 _ rfl).trans (get 4 (by decide))
  have h5 : DataW.trod enc Try.prog W 0 (fun _ => true) true n 23 ((cs.toList.drop 36).take (Try.prog.cellsOf 23)) = some (xs.getD 5 (.nil, [])) := (hg 5 _ rfl).trans (get 5 (by decide))
  have h6 : DataW.trod enc Try.prog W 0 (fun _ => true) true n 27 ((cs.toList.drop 37).take (Try.prog.cellsOf 27)) = some (xs.getD 6 (.nil, [])) := (hg 6 _ rfl).trans (get 6 (by decide))
  have e1 : Try.prog.cellsOf 3 = 1 := by kernel_rfl
  have e3 : Try.prog.cellsOf 22 = 1 := by kernel_rfl
  have e4 : Try.prog.cellsOf 44 = 32 := by kernel_rfl
  have e5 : Try.prog.cellsOf 23 = 1 := by kernel_rfl
  have e6 : Try.prog.cellsOf 27 = 1 := by kernel_rfl
  have e7 : Try.prog.cellsOf 5 = 1 := by kernel_rfl
  rw [e1] at h1
  rw [e3] at h3
  rw [e4] at h4
  rw [e5] at h5
  rw [e6] at h6
  obtain ⟨x, c1, _⟩ := one _ _ 1 _ Try.underlying3 h1
  obtain ⟨y, c3, hy⟩ := one _ _ 3 _ Try.underlying22 h3
  obtain ⟨er, c6, _⟩ := one _ _ 37 _ Try.underlying27 h6
  obtain ⟨A, m, c, c5, hm⟩ : ∃ A m c, cs[36]? = some (.slice A m c) ∧ m ≤ maxLen := by
    rcases DataW.trod_slice Try.underlying23 h5 with ⟨hc, _⟩ | ⟨a, len, cap, _, _, _, _, hc, _, _, hle, hcap, _⟩
    · exact ⟨_, _, _, by rw [← Array.getElem?_toList]; exact take_one hc, by simp [maxLen]⟩
    · exact ⟨_, _, _, by rw [← Array.getElem?_toList]; exact take_one hc, Nat.le_trans hle hcap⟩
  obtain ⟨ys, mm, _, _, hl4, hys, hi⟩ := DataW.trod_array Try.underlying44 h4
  rw [e4] at hl4
  obtain ⟨hs, hh⟩ := ints_map ((cs.toList.drop 4).take 32) (fun v hv => by
    obtain ⟨i, hi2, rfl⟩ := List.getElem_of_mem hv
    have h7 := hi i (by omega)
    rw [e7, Nat.mul_one, List.getElem?_eq_getElem (by omega)] at h7
    obtain ⟨z, hz, _⟩ := DataW.trod_int Try.underlying5 h7
    have := take_one hz
    rw [List.getElem?_eq_getElem hi2] at this
    exact ⟨z, Option.some.inj this⟩)
  refine ⟨cs, x, y, er, A, m, c, hs, rfl, hsz, c1, c3, hy, c5, c6, ?_, ?_, hm⟩
  · rw [← hh]
    simp [Array.toList_extract, List.extract]
  · have := congrArg List.length hh
    rw [List.length_map] at this
    omega
end Go.Proofs.Ytejbhfcmhijfcaa
