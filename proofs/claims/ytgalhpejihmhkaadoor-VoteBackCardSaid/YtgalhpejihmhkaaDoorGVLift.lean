/-
  What arguments that are votes, as they come in, tell a walk. No condition.
-/
import Derived.Test.YtgalhpejihmhkaaDoorGL
import Derived.Test.YtgalhpejihmhkaaDoorGC
namespace Go.Proofs.YtgalhpejihmhkaaDoor
open Go.ChangeShapes Go.WideShapes Go.ChangeAt Go.RowKit
set_option linter.unusedVariables false
set_option maxRecDepth 100000

theorem vi64_of_wf {x : Int} (h : (Lit.int .i64 x).wf = true) : -9223372036854775808 ≤ x ∧ x ≤ 9223372036854775807 := by
  simp [Lit.wf, IntKind.min, IntKind.max, IntKind.signed, IntKind.bits] at h
  exact ⟨by omega, by omega⟩

/-- What is told of a vote that comes in. -/
structure attF (v s t g : Int) (h : List Int) : Prop where
  len : h.length = 32
  by_ : Kk.By h
  tag : 0 ≤ g ∧ g ≤ 18446744073709551615
  v_ : -9223372036854775808 ≤ v ∧ v ≤ 9223372036854775807
  s_ : -9223372036854775808 ≤ s ∧ s ≤ 9223372036854775807
  t_ : -9223372036854775808 ≤ t ∧ t ≤ 9223372036854775807
set_option maxRecDepth 10000 in
theorem att_in {H : Type} {enc : TypeId × Value → H} {W : World} {r : Reach} {b0 : Nat} {v : Value} {d : DataW H} {p : List MemPlace}
    (hv : Value.okWide Tryd.prog W r b0 26 v) (h : DataW.Trod enc Tryd.prog W 0 (fun _ => true) true 26 v d p) :
    ∃ (v0 s0 t0 g0 : Int) (h0 : List Int), v = .agg (Vt.attC v0 s0 t0 h0 g0).toArray ∧ attF v0 s0 t0 g0 h0 := by
  obtain ⟨cs, rfl, hsz⟩ := okWide_struct Tryd.underlying26 hv
  have hsz : cs.size = 36 := hsz.trans (by kernel_rfl)
  obtain ⟨fuel, hf⟩ := h
  have hf : DataW.trod enc Tryd.prog W 0 (fun _ => true) true fuel 26 cs.toList = some (d, p) := hf
  obtain ⟨xs, n, _, _, hl, hlen, hg⟩ := DataW.trod_struct Tryd.underlying26 hf
  have hlen : xs.length = 5 := hlen
  have get : ∀ i, i < 5 → xs[i]? = some (xs.getD i (.nil, [])) := fun i hi => by
    rw [List.getD_eq_getElem?_getD, List.getElem?_eq_getElem (by omega)]
    rfl
  have one : ∀ (t : TypeId) (k : IntKind) (o : Nat) (u : DataW H × List MemPlace), Tryd.prog.underlying t = some (.int k) → DataW.trod enc Tryd.prog W 0 (fun _ => true) true n t ((cs.toList.drop o).take 1) = some u → ∃ z, cs.toList[o]? = some (.int k z) ∧ (Lit.int k z).wf = true := fun t k o u ht hu => by
    obtain ⟨z, hz, _, hw⟩ := DataW.trod_int ht hu
    exact ⟨z, take_one hz, hw⟩
  have e1 : Tryd.prog.cellsOf 3 = 1 := by kernel_rfl
  have e3 : Tryd.prog.cellsOf 24 = 1 := by kernel_rfl
  have e4 : Tryd.prog.cellsOf 23 = 32 := by kernel_rfl
  have e7 : Tryd.prog.cellsOf 5 = 1 := by kernel_rfl
  have q0 : DataW.trod enc Tryd.prog W 0 (fun _ => true) true n 3 ((cs.toList.drop 0).take (Tryd.prog.cellsOf 3)) = some (xs.getD 0 (.nil, [])) := (hg 0 _ rfl).trans (get 0 (by decide))
  rw [e1] at q0
  obtain ⟨x0, c0, w0⟩ := one _ _ 0 _ Tryd.underlying3 q0
  have q1 : DataW.trod enc Tryd.prog W 0 (fun _ => true) true n 3 ((cs.toList.drop 1).take (Tryd.prog.cellsOf 3)) = some (xs.getD 1 (.nil, [])) := (hg 1 _ rfl).trans (get 1 (by decide))
  rw [e1] at q1
  obtain ⟨x1, c1, w1⟩ := one _ _ 1 _ Tryd.underlying3 q1
  have q2 : DataW.trod enc Tryd.prog W 0 (fun _ => true) true n 3 ((cs.toList.drop 2).take (Tryd.prog.cellsOf 3)) = some (xs.getD 2 (.nil, [])) := (hg 2 _ rfl).trans (get 2 (by decide))
  rw [e1] at q2
  obtain ⟨x2, c2, w2⟩ := one _ _ 2 _ Tryd.underlying3 q2
  have qt : DataW.trod enc Tryd.prog W 0 (fun _ => true) true n 24 ((cs.toList.drop 35).take (Tryd.prog.cellsOf 24)) = some (xs.getD 4 (.nil, [])) := (hg 4 _ rfl).trans (get 4 (by decide))
  rw [e3] at qt
  obtain ⟨xt, ct, wt⟩ := one _ _ 35 _ Tryd.underlying24 qt
  have h4 : DataW.trod enc Tryd.prog W 0 (fun _ => true) true n 23 ((cs.toList.drop 3).take (Tryd.prog.cellsOf 23)) = some (xs.getD 3 (.nil, [])) := (hg 3 _ rfl).trans (get 3 (by decide))
  rw [e4] at h4
  obtain ⟨ys, mm, _, _, hl4, hys, hi⟩ := DataW.trod_array Tryd.underlying23 h4
  rw [e4] at hl4
  obtain ⟨hs, hh, hw⟩ := ints_map (q := .u8) ((cs.toList.drop 3).take 32) (fun v hv => by
    obtain ⟨i, hi2, rfl⟩ := List.getElem_of_mem hv
    have h7 := hi i (by omega)
    rw [e7, Nat.mul_one, List.getElem?_eq_getElem (by omega)] at h7
    obtain ⟨z, hz, _, hw⟩ := DataW.trod_int Tryd.underlying5 h7
    have := take_one hz
    rw [List.getElem?_eq_getElem hi2] at this
    exact ⟨z, Option.some.inj this, hw⟩)
  have hl2 : hs.length = 32 := by
    have := congrArg List.length hh
    rw [List.length_map] at this
    omega
  refine ⟨x0, x1, x2, xt, hs, ?_, ⟨hl2, fun z hz => u8_of_wf (hw z hz), u64_of_wf wt, vi64_of_wf w0, vi64_of_wf w1, vi64_of_wf w2⟩⟩
  have hcl : cs.toList = Vt.attC x0 x1 x2 hs xt := by
    have hsz' : cs.toList.length = 36 := by rw [Array.length_toList]; exact hsz
    generalize cs.toList = L at *
    rw [← List.take_append_drop 3 L, ← List.take_append_drop 32 (L.drop 3), hh, List.drop_drop]
    rw [show L.take 3 = [.int .i64 x0, .int .i64 x1, .int .i64 x2] by
      match L, hsz', c0, c1, c2 with
      | a0 :: a1 :: a2 :: r, _, c0, c1, c2 =>
        obtain rfl := Option.some.inj c0; obtain rfl := Option.some.inj c1; obtain rfl := Option.some.inj c2
        rfl]
    rw [show L.drop (3 + 32) = [.int .u64 xt] by
      rw [List.drop_eq_getElem_cons (by omega), List.drop_eq_nil_of_le (by omega)]
      rw [List.getElem?_eq_getElem (by omega)] at ct
      rw [Option.some.inj ct]]
    simp [Vt.attC]
  rw [← hcl]

/-- What is told of a vote that comes in. -/
structure propF (v s g : Int) (h : List Int) : Prop where
  len : h.length = 32
  by_ : Kk.By h
  tag : 0 ≤ g ∧ g ≤ 18446744073709551615
  v_ : -9223372036854775808 ≤ v ∧ v ≤ 9223372036854775807
  s_ : -9223372036854775808 ≤ s ∧ s ≤ 9223372036854775807
set_option maxRecDepth 10000 in
theorem prop_in {H : Type} {enc : TypeId × Value → H} {W : World} {r : Reach} {b0 : Nat} {v : Value} {d : DataW H} {p : List MemPlace}
    (hv : Value.okWide Tryd.prog W r b0 28 v) (h : DataW.Trod enc Tryd.prog W 0 (fun _ => true) true 28 v d p) :
    ∃ (v0 s0 g0 : Int) (h0 : List Int), v = .agg (Vt.propC v0 s0 h0 g0).toArray ∧ propF v0 s0 g0 h0 := by
  obtain ⟨cs, rfl, hsz⟩ := okWide_struct Tryd.underlying28 hv
  have hsz : cs.size = 35 := hsz.trans (by kernel_rfl)
  obtain ⟨fuel, hf⟩ := h
  have hf : DataW.trod enc Tryd.prog W 0 (fun _ => true) true fuel 28 cs.toList = some (d, p) := hf
  obtain ⟨xs, n, _, _, hl, hlen, hg⟩ := DataW.trod_struct Tryd.underlying28 hf
  have hlen : xs.length = 4 := hlen
  have get : ∀ i, i < 4 → xs[i]? = some (xs.getD i (.nil, [])) := fun i hi => by
    rw [List.getD_eq_getElem?_getD, List.getElem?_eq_getElem (by omega)]
    rfl
  have one : ∀ (t : TypeId) (k : IntKind) (o : Nat) (u : DataW H × List MemPlace), Tryd.prog.underlying t = some (.int k) → DataW.trod enc Tryd.prog W 0 (fun _ => true) true n t ((cs.toList.drop o).take 1) = some u → ∃ z, cs.toList[o]? = some (.int k z) ∧ (Lit.int k z).wf = true := fun t k o u ht hu => by
    obtain ⟨z, hz, _, hw⟩ := DataW.trod_int ht hu
    exact ⟨z, take_one hz, hw⟩
  have e1 : Tryd.prog.cellsOf 3 = 1 := by kernel_rfl
  have e3 : Tryd.prog.cellsOf 24 = 1 := by kernel_rfl
  have e4 : Tryd.prog.cellsOf 23 = 32 := by kernel_rfl
  have e7 : Tryd.prog.cellsOf 5 = 1 := by kernel_rfl
  have q0 : DataW.trod enc Tryd.prog W 0 (fun _ => true) true n 3 ((cs.toList.drop 0).take (Tryd.prog.cellsOf 3)) = some (xs.getD 0 (.nil, [])) := (hg 0 _ rfl).trans (get 0 (by decide))
  rw [e1] at q0
  obtain ⟨x0, c0, w0⟩ := one _ _ 0 _ Tryd.underlying3 q0
  have q1 : DataW.trod enc Tryd.prog W 0 (fun _ => true) true n 3 ((cs.toList.drop 1).take (Tryd.prog.cellsOf 3)) = some (xs.getD 1 (.nil, [])) := (hg 1 _ rfl).trans (get 1 (by decide))
  rw [e1] at q1
  obtain ⟨x1, c1, w1⟩ := one _ _ 1 _ Tryd.underlying3 q1
  have qt : DataW.trod enc Tryd.prog W 0 (fun _ => true) true n 24 ((cs.toList.drop 34).take (Tryd.prog.cellsOf 24)) = some (xs.getD 3 (.nil, [])) := (hg 3 _ rfl).trans (get 3 (by decide))
  rw [e3] at qt
  obtain ⟨xt, ct, wt⟩ := one _ _ 34 _ Tryd.underlying24 qt
  have h4 : DataW.trod enc Tryd.prog W 0 (fun _ => true) true n 23 ((cs.toList.drop 2).take (Tryd.prog.cellsOf 23)) = some (xs.getD 2 (.nil, [])) := (hg 2 _ rfl).trans (get 2 (by decide))
  rw [e4] at h4
  obtain ⟨ys, mm, _, _, hl4, hys, hi⟩ := DataW.trod_array Tryd.underlying23 h4
  rw [e4] at hl4
  obtain ⟨hs, hh, hw⟩ := ints_map (q := .u8) ((cs.toList.drop 2).take 32) (fun v hv => by
    obtain ⟨i, hi2, rfl⟩ := List.getElem_of_mem hv
    have h7 := hi i (by omega)
    rw [e7, Nat.mul_one, List.getElem?_eq_getElem (by omega)] at h7
    obtain ⟨z, hz, _, hw⟩ := DataW.trod_int Tryd.underlying5 h7
    have := take_one hz
    rw [List.getElem?_eq_getElem hi2] at this
    exact ⟨z, Option.some.inj this, hw⟩)
  have hl2 : hs.length = 32 := by
    have := congrArg List.length hh
    rw [List.length_map] at this
    omega
  refine ⟨x0, x1, xt, hs, ?_, ⟨hl2, fun z hz => u8_of_wf (hw z hz), u64_of_wf wt, vi64_of_wf w0, vi64_of_wf w1⟩⟩
  have hcl : cs.toList = Vt.propC x0 x1 hs xt := by
    have hsz' : cs.toList.length = 35 := by rw [Array.length_toList]; exact hsz
    generalize cs.toList = L at *
    rw [← List.take_append_drop 2 L, ← List.take_append_drop 32 (L.drop 2), hh, List.drop_drop]
    rw [show L.take 2 = [.int .i64 x0, .int .i64 x1] by
      match L, hsz', c0, c1 with
      | a0 :: a1 :: r, _, c0, c1 =>
        obtain rfl := Option.some.inj c0; obtain rfl := Option.some.inj c1
        rfl]
    rw [show L.drop (2 + 32) = [.int .u64 xt] by
      rw [List.drop_eq_getElem_cons (by omega), List.drop_eq_nil_of_le (by omega)]
      rw [List.getElem?_eq_getElem (by omega)] at ct
      rw [Option.some.inj ct]]
    simp [Vt.propC]
  rw [← hcl]
end Go.Proofs.YtgalhpejihmhkaaDoor
