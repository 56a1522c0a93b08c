/-
  What a bank as an argument tells a walk, as it comes in. No condition.
-/
import Derived.ChangeSame
import Derived.Laws.IdiomArrays
import Derived.Test.YtgdaojbflokmoaaGBkLift
namespace Go.Proofs.Ytgdaojbflokmoaa
open Go.ChangeShapes Go.WideShapes Go.ChangeAt Go.RowKit
set_option linter.unusedVariables false

theorem word_of {H : Type} {enc : TypeId × Value → H} {W : World} {v : Value} {fuel : Nat} {u : DataW H × List MemPlace}
    (h : DataW.trod enc Try.prog W 0 (fun _ => true) true fuel 23 [v] = some u) : ∃ x, v = .int .u64 x ∧ 0 ≤ x ∧ x ≤ 18446744073709551615 := by
  obtain ⟨x, hx, _, hw⟩ := DataW.trod_int Try.underlying23 h
  injection hx with hx
  exact ⟨x, hx, (u64_of_wf hw).1, (u64_of_wf hw).2⟩
set_option maxRecDepth 10000 in
theorem bank_in {H : Type} {enc : TypeId × Value → H} {W : World} {r : Reach} {b0 : Nat} {v : Value} {d : DataW H} {p : List MemPlace}
    (hv : Value.okWide Try.prog W r b0 26 v) (h : DataW.Trod enc Try.prog W 0 (fun _ => true) true 26 v d p) :
    ∃ A n c zs x y s u, v = .agg #[.slice A n c, .int .u64 x, .int .u64 y, .int .u64 s, .int .u64 u] ∧ Bk.SU W A n c zs ∧ n ≤ 9223372036854775807 ∧ Words zs ∧ Words [x, y, s, u] := by
  obtain ⟨cs, rfl, hsz⟩ := okWide_struct Try.underlying26 hv
  have hsz : cs.size = 5 := hsz.trans (by kernel_rfl)
  obtain ⟨fuel, hf0⟩ := h
  have hf : DataW.trod enc Try.prog W 0 (fun _ => true) true fuel 26 cs.toList = some (d, p) := hf0
  clear hf0 hv
  obtain ⟨y0, y1, n, _, _, f0, f1⟩ := trod_struct2 Try.underlying26 hf
  clear hf
  match cs, hsz with
  | ⟨[v0, v1, v2, v3, v4]⟩, _ =>
    have q0 : DataW.trod enc Try.prog W 0 (fun _ => true) true n 22 ([v0, v1, v2, v3, v4].take (Try.prog.cellsOf 22)) = some y0 := f0
    have q1 : DataW.trod enc Try.prog W 0 (fun _ => true) true n 24 ([v1, v2, v3, v4].take (Try.prog.cellsOf 24)) = some y1 := f1
    rw [show Try.prog.cellsOf 22 = 1 by kernel_rfl] at q0
    rw [show Try.prog.cellsOf 24 = 4 by kernel_rfl] at q1
    have q0 : DataW.trod enc Try.prog W 0 (fun _ => true) true n 22 [v0] = some y0 := q0
    have q1 : DataW.trod enc Try.prog W 0 (fun _ => true) true n 24 [v1, v2, v3, v4] = some y1 := q1
    obtain ⟨A, m, c, rfl⟩ : ∃ A m c, v0 = .slice A m c := by
      rcases open_ints Try.underlying22 Try.underlying23 (by kernel_rfl) q0 with ⟨hcs, _⟩ | ⟨a, l, c, zs, hcs, _⟩
      · injection hcs with hcs; exact ⟨_, _, _, hcs⟩
      · injection hcs with hcs; exact ⟨_, _, _, hcs⟩
    obtain ⟨zs, hs, hw, hm⟩ := words_in (d := y0.1) (p := y0.2) (show DataW.trod enc Try.prog W 0 (fun _ => true) true n 22 (Value.slice A m c).cells.toList = some (y0.1, y0.2) from q0)
    obtain ⟨_, _, _, _, k, _, g0, g1, g2, g3⟩ := trod_array4 Try.underlying24 (by kernel_rfl) q1
    obtain ⟨x, rfl, x0, x1⟩ := word_of g0
    obtain ⟨y, rfl, z0, z1⟩ := word_of g1
    obtain ⟨s, rfl, s0, s1⟩ := word_of g2
    obtain ⟨u, rfl, u0, u1⟩ := word_of g3
    refine ⟨A, m, c, zs, x, y, s, u, rfl, hs, by unfold maxLen at hm; omega, hw, words_of fun z h => ?_⟩
    simp at h
    rcases h with rfl | rfl | rfl | rfl <;> constructor <;> assumption
end Go.Proofs.Ytgdaojbflokmoaa
