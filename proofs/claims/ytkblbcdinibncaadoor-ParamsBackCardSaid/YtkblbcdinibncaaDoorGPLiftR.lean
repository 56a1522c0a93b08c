/-
  What an argument that is a record of params, as it comes in, tells a walk. No condition.
-/
import Derived.ProofKit
import Derived.LaidMore
import Derived.OpenShut
import Derived.ChangeOld
import Derived.Stop.Joined
import Derived.Test.YtkblbcdinibncaaDoorPA
import Derived.Test.YtkblbcdinibncaaDoorRows
namespace Go.Proofs.YtkblbcdinibncaaDoor
open Go.ChangeShapes Go.WideShapes Go.ChangeAt Go.RowKit
set_option linter.unusedVariables false
set_option maxRecDepth 100000

theorem own : ownKnob Tryd.prog.godebug = none := by kernel_rfl
theorem laidOut : laidOutB Tryd.prog = true := by kernel_rfl
theorem u64_of_wf {x : Int} (h : (Lit.int .u64 x).wf = true) : 0 ≤ x ∧ x ≤ 18446744073709551615 := by
  simp [Lit.wf, IntKind.min, IntKind.max, IntKind.signed, IntKind.bits] at h
  exact ⟨by omega, by omega⟩
theorem i64_of_wf {x : Int} (h : (Lit.int .i64 x).wf = true) : -9223372036854775808 ≤ x ∧ x ≤ 9223372036854775807 := by
  simp [Lit.wf, IntKind.min, IntKind.max, IntKind.signed, IntKind.bits] at h
  exact ⟨by omega, by omega⟩
theorem take_one {l : List Value} {o : Nat} {v : Value} (h : (l.drop o).take 1 = [v]) : l[o]? = some v := by
  have : ((l.drop o).take 1)[0]? = some v := by rw [h]; rfl
  simpa [List.getElem?_take, List.getElem?_drop] using this
theorem open_string {H : Type} {enc : TypeId × Value → H} {P : Program} {w : World} {base b0 : Nat} {sp : Nat → Bool} {held : Bool} {r : Reach} {t : TypeId} {v : Value} {d : DataW H} {ps : List MemPlace} (ht : P.underlying t = some .string) (hval : Value.okWide P w r b0 t v) (hd : DataW.Trod enc P w base sp held t v d ps) :
    ∃ s : ByteArray, v = .string s ∧ d = .lit (.string s.data.toList) ∧ ps = [] ∧ s.size ≤ maxLen := Go.ChangeMaps.open_string ht hval hd
theorem shut_string {H : Type} {enc : TypeId × Value → H} {P : Program} {w : World} {base : Nat} {sp : Nat → Bool} {held : Bool} {t : TypeId} {s : ByteArray} (ht : P.underlying t = some .string) (hs : s.size ≤ maxLen) : DataW.Trod enc P w base sp held t (.string s) (.lit (.string s.data.toList)) [] := Go.ChangeMaps.shut_string ht hs
theorem rec_in {H : Type} {enc : TypeId × Value → H} {W : World} {r : Reach} {b0 : Nat} {v : Value} {d : DataW H} {p : List MemPlace}
    (hv : Value.okWide Tryd.prog W r b0 26 v) (h : DataW.Trod enc Tryd.prog W 0 (fun _ => true) true 26 v d p) :
    ∃ x : Nat → Int, v = .agg (Pm.recC x).toArray ∧ Pm.Kinds x := by
  obtain ⟨cs, rfl, hsz⟩ := okWide_struct Tryd.underlying26 hv
  have hsz : cs.size = 11 := hsz.trans (by kernel_rfl)
  obtain ⟨fuel, hf⟩ := h
  have hf : DataW.trod enc Tryd.prog W 0 (fun _ => true) true fuel 26 cs.toList = some (d, p) := hf
  obtain ⟨xs, n, _, _, hl, hlen, hg⟩ := DataW.trod_struct Tryd.underlying26 hf
  have hlen : xs.length = 11 := hlen
  have get : ∀ i, i < 11 → xs[i]? = some (xs.getD i (.nil, [])) := fun i hi => by
    rw [List.getD_eq_getElem?_getD, List.getElem?_eq_getElem (by omega)]
    rfl
  have one : ∀ (t : TypeId) (k : IntKind) (o : Nat) (u : DataW H × List MemPlace), Tryd.prog.underlying t = some (.int k) → DataW.trod enc Tryd.prog W 0 (fun _ => true) true n t ((cs.toList.drop o).take 1) = some u → ∃ z, cs.toList[o]? = some (.int k z) ∧ (Lit.int k z).wf = true := fun t k o u ht hu => by
    obtain ⟨z, hz, _, hw⟩ := DataW.trod_int ht hu
    exact ⟨z, take_one hz, hw⟩
  have ei : Tryd.prog.cellsOf 3 = 1 := by kernel_rfl
  have eu : Tryd.prog.cellsOf 23 = 1 := by kernel_rfl
  have q0 : DataW.trod enc Tryd.prog W 0 (fun _ => true) true n 3 ((cs.toList.drop 0).take (Tryd.prog.cellsOf 3)) = some (xs.getD 0 (.nil, [])) := (hg 0 _ rfl).trans (get 0 (by decide))
  rw [ei] at q0
  obtain ⟨x0, c0, w0⟩ := one _ _ 0 _ Tryd.underlying3 q0
  have q1 : DataW.trod enc Tryd.prog W 0 (fun _ => true) true n 3 ((cs.toList.drop 1).take (Tryd.prog.cellsOf 3)) = some (xs.getD 1 (.nil, [])) := (hg 1 _ rfl).trans (get 1 (by decide))
  rw [ei] at q1
  obtain ⟨x1, c1, w1⟩ := one _ _ 1 _ Tryd.underlying3 q1
  have q2 : DataW.trod enc Tryd.prog W 0 (fun _ => true) true n 3 ((cs.toList.drop 2).take (Tryd.prog.cellsOf 3)) = some (xs.getD 2 (.nil, [])) := (hg 2 _ rfl).trans (get 2 (by decide))
  rw [ei] at q2
  obtain ⟨x2, c2, w2⟩ := one _ _ 2 _ Tryd.underlying3 q2
  have q3 : DataW.trod enc Tryd.prog W 0 (fun _ => true) true n 3 ((cs.toList.drop 3).take (Tryd.prog.cellsOf 3)) = some (xs.getD 3 (.nil, [])) := (hg 3 _ rfl).trans (get 3 (by decide))
  rw [ei] at q3
  obtain ⟨x3, c3, w3⟩ := one _ _ 3 _ Tryd.underlying3 q3
  have q4 : DataW.trod enc Tryd.prog W 0 (fun _ => true) true n 3 ((cs.toList.drop 4).take (Tryd.prog.cellsOf 3)) = some (xs.getD 4 (.nil, [])) := (hg 4 _ rfl).trans (get 4 (by decide))
  rw [ei] at q4
  obtain ⟨x4, c4, w4⟩ := one _ _ 4 _ Tryd.underlying3 q4
  have q5 : DataW.trod enc Tryd.prog W 0 (fun _ => true) true n 3 ((cs.toList.drop 5).take (Tryd.prog.cellsOf 3)) = some (xs.getD 5 (.nil, [])) := (hg 5 _ rfl).trans (get 5 (by decide))
  rw [ei] at q5
  obtain ⟨x5, c5, w5⟩ := one _ _ 5 _ Tryd.underlying3 q5
  have q6 : DataW.trod enc Tryd.prog W 0 (fun _ => true) true n 3 ((cs.toList.drop 6).take (Tryd.prog.cellsOf 3)) = some (xs.getD 6 (.nil, [])) := (hg 6 _ rfl).trans (get 6 (by decide))
  rw [ei] at q6
  obtain ⟨x6, c6, w6⟩ := one _ _ 6 _ Tryd.underlying3 q6
  have q7 : DataW.trod enc Tryd.prog W 0 (fun _ => true) true n 23 ((cs.toList.drop 7).take (Tryd.prog.cellsOf 23)) = some (xs.getD 7 (.nil, [])) := (hg 7 _ rfl).trans (get 7 (by decide))
  rw [eu] at q7
  obtain ⟨x7, c7, w7⟩ := one _ _ 7 _ Tryd.underlying23 q7
  have q8 : DataW.trod enc Tryd.prog W 0 (fun _ => true) true n 23 ((cs.toList.drop 8).take (Tryd.prog.cellsOf 23)) = some (xs.getD 8 (.nil, [])) := (hg 8 _ rfl).trans (get 8 (by decide))
  rw [eu] at q8
  obtain ⟨x8, c8, w8⟩ := one _ _ 8 _ Tryd.underlying23 q8
  have q9 : DataW.trod enc Tryd.prog W 0 (fun _ => true) true n 3 ((cs.toList.drop 9).take (Tryd.prog.cellsOf 3)) = some (xs.getD 9 (.nil, [])) := (hg 9 _ rfl).trans (get 9 (by decide))
  rw [ei] at q9
  obtain ⟨x9, c9, w9⟩ := one _ _ 9 _ Tryd.underlying3 q9
  have q10 : DataW.trod enc Tryd.prog W 0 (fun _ => true) true n 23 ((cs.toList.drop 10).take (Tryd.prog.cellsOf 23)) = some (xs.getD 10 (.nil, [])) := (hg 10 _ rfl).trans (get 10 (by decide))
  rw [eu] at q10
  obtain ⟨x10, c10, w10⟩ := one _ _ 10 _ Tryd.underlying23 q10
  refine ⟨fun i => ([x0, x1, x2, x3, x4, x5, x6, x7, x8, x9, x10] : List Int).getD i 0, ?_, ?_⟩
  · have hcl : cs.toList = [.int .i64 x0, .int .i64 x1, .int .i64 x2, .int .i64 x3, .int .i64 x4, .int .i64 x5, .int .i64 x6, .int .u64 x7, .int .u64 x8, .int .i64 x9, .int .u64 x10] := by
      have hl11 : cs.toList.length = 11 := by rw [Array.length_toList]; exact hsz
      generalize cs.toList = L at *
      match L, hl11 with
      | [y0, y1, y2, y3, y4, y5, y6, y7, y8, y9, y10], _ =>
        simp only [List.getElem?_cons_zero, List.getElem?_cons_succ, Option.some.injEq] at c0 c1 c2 c3 c4 c5 c6 c7 c8 c9 c10
        rw [c0, c1, c2, c3, c4, c5, c6, c7, c8, c9, c10]
    rw [← Array.toArray_toList (xs := cs), hcl]
    rfl
  · intro i hi
    match i, hi with
    | 0, _ => exact ⟨fun h => absurd h (by decide), fun h => i64_of_wf w0⟩
    | 1, _ => exact ⟨fun h => absurd h (by decide), fun h => i64_of_wf w1⟩
    | 2, _ => exact ⟨fun h => absurd h (by decide), fun h => i64_of_wf w2⟩
    | 3, _ => exact ⟨fun h => absurd h (by decide), fun h => i64_of_wf w3⟩
    | 4, _ => exact ⟨fun h => absurd h (by decide), fun h => i64_of_wf w4⟩
    | 5, _ => exact ⟨fun h => absurd h (by decide), fun h => i64_of_wf w5⟩
    | 6, _ => exact ⟨fun h => absurd h (by decide), fun h => i64_of_wf w6⟩
    | 7, _ => exact ⟨fun h => u64_of_wf w7, fun h => absurd h (by decide)⟩
    | 8, _ => exact ⟨fun h => u64_of_wf w8, fun h => absurd h (by decide)⟩
    | 9, _ => exact ⟨fun h => absurd h (by decide), fun h => i64_of_wf w9⟩
    | 10, _ => exact ⟨fun h => u64_of_wf w10, fun h => absurd h (by decide)⟩
    | n + 11, h => omega
end Go.Proofs.YtkblbcdinibncaaDoor
