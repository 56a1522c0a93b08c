/-
  Texts of this claim, put together: LiftC, QuLiftC. What each one says, and under which conditions, stands ahead of it.
-/
import Derived.ProofKit
import Derived.OpenShut
import Derived.ChangeOld
import Derived.Deep.Slices
import Derived.Test.YtcefjigbaglmeaaGreatGKit
import Derived.Test.YtcefjigbaglmeaaGreatRows
import Derived.Test.YtcefjigbaglmeaaGreatQE

section
/-
  What a law's arguments, as they come in, tell a walk: an integer's bounds, a slice of integers as a list. No condition.
-/
namespace Go.Proofs.YtcefjigbaglmeaaGreat
open Go.ChangeShapes Go.WideShapes Go.ChangeAt Go.RowKit
set_option linter.unusedVariables false

theorem own : ownKnob Tryz.prog.godebug = none := by kernel_rfl
theorem laidOut : laidOutB Tryz.prog = true := by kernel_rfl

theorem u64_of_wf {x : Int} (h : (Lit.int .u64 x).wf = true) : 0 ≤ x ∧ x ≤ 18446744073709551615 := by
  simp [Lit.wf, IntKind.min, IntKind.max, IntKind.signed, IntKind.bits] at h
  exact ⟨by omega, by omega⟩
theorem i64_of_wf {x : Int} (h : (Lit.int .i64 x).wf = true) : -9223372036854775808 ≤ x ∧ x ≤ 9223372036854775807 := by
  simp [Lit.wf, IntKind.min, IntKind.max, IntKind.signed, IntKind.bits] at h
  exact ⟨by omega, by omega⟩
theorem u8_of_wf {x : Int} (h : (Lit.int .u8 x).wf = true) : 0 ≤ x ∧ x ≤ 255 := by
  simp [Lit.wf, IntKind.min, IntKind.max, IntKind.signed, IntKind.bits] at h
  exact ⟨by omega, by omega⟩

/-- A slice of bytes that came in reads as a list of bytes. -/
theorem sl_in {H : Type} {enc : TypeId × Value → H} {W : World} {t e : TypeId} {A : Option Addr} {len cap : Nat} {d : DataW H} {p : List MemPlace} {fuel : Nat}
    (ht : Tryz.prog.underlying t = some (.slice e)) (he : Tryz.prog.underlying e = some (.int .u8)) (hc : Tryz.prog.cellsOf e = 1)
    (hf : DataW.trod enc Tryz.prog W 0 (fun _ => true) true fuel t (Value.slice A len cap).cells.toList = some (d, p)) :
    ∃ zs, Cd.Sl W A len cap zs ∧ (∀ z ∈ zs, (Lit.int .u8 z).wf = true) ∧ len ≤ maxLen := by
  rcases open_ints ht he hc hf with ⟨hcs, _⟩ | ⟨x, l, c, zs, hcs, _, hl, hm, hz, _, hcell, hwz⟩
  · simp [Value.cells] at hcs
    obtain ⟨rfl, rfl, rfl⟩ := hcs
    exact ⟨[], ⟨Ints.nil_, Nat.le_refl _, fun _ => rfl⟩, by simp, by simp [maxLen]⟩
  · simp [Value.cells] at hcs
    obtain ⟨rfl, rfl, rfl⟩ := hcs
    have hz' : zs.length = cap := by simpa using hz
    refine ⟨zs.take len, ⟨⟨by rw [List.length_take]; omega, fun hn => ?_⟩, hl, fun h => by cases h⟩, fun z h => hwz z (List.mem_of_mem_take h), Nat.le_trans hl hm⟩
    obtain ⟨b, o, s⟩ := x
    have h0 := hcell 0 (by omega)
    have hs : s = none := by simpa [Addr.add] using World.cell?_spot h0
    subst hs
    refine ⟨b, o, rfl, World.block_lt_of_cell? W ⟨b, o, none⟩ (by simpa [Addr.add] using h0), fun i hi => ?_⟩
    have h1 := hcell i (by omega)
    have h2 : (zs.take len).getD i 0 = zs.getD i 0 := by simp [List.getD_eq_getElem?_getD, hi]
    rw [h2, ← h1]
    unfold Addr.add
    by_cases hi0 : i = 0
    · subst hi0; simp
    · simp [hi0]
end Go.Proofs.YtcefjigbaglmeaaGreat
end

section
/-
  What structs of integers, as they come in as arguments, tell a walk. No condition.
-/
namespace Go.Proofs.YtcefjigbaglmeaaGreat
open Go.ChangeShapes Go.WideShapes Go.ChangeAt Go.RowKit
set_option linter.unusedVariables false
set_option linter.unusedSimpArgs false

theorem take_one {l : List Value} {o : Nat} {v : Value} (h : (l.drop o).take 1 = [v]) : l[o]? = some v := by
  have : ((l.drop o).take 1)[0]? = some v := by rw [h]; rfl
  simpa [List.getElem?_take, List.getElem?_drop] using this

set_option maxRecDepth 10000 in
theorem stm_of {H : Type} {enc : TypeId × Value → H} {W : World} {cs : List Value} {fuel : Nat} {u : DataW H × List MemPlace} (hsz : cs.length = 4)
    (hf : DataW.trod enc Tryz.prog W 0 (fun _ => true) true fuel 51 cs = some u) : ∃ z0 z1 z2 z3 : Int, (-9223372036854775808 ≤ z0 ∧ z0 ≤ 9223372036854775807 ∧ -9223372036854775808 ≤ z1 ∧ z1 ≤ 9223372036854775807 ∧ -9223372036854775808 ≤ z2 ∧ z2 ≤ 9223372036854775807 ∧ -9223372036854775808 ≤ z3 ∧ z3 ≤ 9223372036854775807) ∧ cs = [.int .i64 z0, .int .i64 z1, .int .i64 z2, .int .i64 z3] := by
  obtain ⟨xs, n, _, _, hl, hlen, hg⟩ := DataW.trod_struct Tryz.underlying51 hf
  have hlen : xs.length = 4 := hlen
  have get : ∀ i, i < 4 → xs[i]? = some (xs.getD i (.nil, [])) := fun i hi => by
    rw [List.getD_eq_getElem?_getD, List.getElem?_eq_getElem (by omega)]
    rfl
  have one : ∀ (t : TypeId) (k : IntKind) (o : Nat) (u : DataW H × List MemPlace), Tryz.prog.underlying t = some (.int k) → DataW.trod enc Tryz.prog W 0 (fun _ => true) true n t ((cs.drop o).take 1) = some u → ∃ z, (cs.drop o).take 1 = [.int k z] ∧ (Lit.int k z).wf = true := fun t k o u ht hu => by
    obtain ⟨z, hz, _, hw⟩ := DataW.trod_int ht hu
    exact ⟨z, hz, hw⟩
  have q0 : DataW.trod enc Tryz.prog W 0 (fun _ => true) true n 3 ((cs.drop 0).take (Tryz.prog.cellsOf 3)) = some (xs.getD 0 (.nil, [])) := (hg 0 _ rfl).trans (get 0 (by decide))
  rw [show Tryz.prog.cellsOf 3 = 1 by kernel_rfl] at q0
  obtain ⟨z0, c0, w0⟩ := one _ _ 0 _ Tryz.underlying3 q0
  have q1 : DataW.trod enc Tryz.prog W 0 (fun _ => true) true n 3 ((cs.drop 1).take (Tryz.prog.cellsOf 3)) = some (xs.getD 1 (.nil, [])) := (hg 1 _ rfl).trans (get 1 (by decide))
  rw [show Tryz.prog.cellsOf 3 = 1 by kernel_rfl] at q1
  obtain ⟨z1, c1, w1⟩ := one _ _ 1 _ Tryz.underlying3 q1
  have q2 : DataW.trod enc Tryz.prog W 0 (fun _ => true) true n 3 ((cs.drop 2).take (Tryz.prog.cellsOf 3)) = some (xs.getD 2 (.nil, [])) := (hg 2 _ rfl).trans (get 2 (by decide))
  rw [show Tryz.prog.cellsOf 3 = 1 by kernel_rfl] at q2
  obtain ⟨z2, c2, w2⟩ := one _ _ 2 _ Tryz.underlying3 q2
  have q3 : DataW.trod enc Tryz.prog W 0 (fun _ => true) true n 3 ((cs.drop 3).take (Tryz.prog.cellsOf 3)) = some (xs.getD 3 (.nil, [])) := (hg 3 _ rfl).trans (get 3 (by decide))
  rw [show Tryz.prog.cellsOf 3 = 1 by kernel_rfl] at q3
  obtain ⟨z3, c3, w3⟩ := one _ _ 3 _ Tryz.underlying3 q3
  refine ⟨z0, z1, z2, z3, ⟨(i64_of_wf w0).1, (i64_of_wf w0).2, (i64_of_wf w1).1, (i64_of_wf w1).2, (i64_of_wf w2).1, (i64_of_wf w2).2, (i64_of_wf w3).1, (i64_of_wf w3).2⟩, ?_⟩
  match cs, hsz with
  | [v0, v1, v2, v3], _ =>
    simp only [List.drop_succ_cons, List.drop_zero, List.take_succ_cons, List.take_zero, List.cons.injEq, and_true, List.drop, List.take] at c0 c1 c2 c3
    simp [c0, c1, c2, c3]

set_option maxRecDepth 10000 in
theorem stm_in {H : Type} {enc : TypeId × Value → H} {W : World} {r : Reach} {b0 : Nat} {v : Value} {d : DataW H} {p : List MemPlace}
    (hv : Value.okWide Tryz.prog W r b0 51 v) (h : DataW.Trod enc Tryz.prog W 0 (fun _ => true) true 51 v d p) :
    ∃ z0 z1 z2 z3 : Int, v = .agg #[.int .i64 z0, .int .i64 z1, .int .i64 z2, .int .i64 z3] ∧ (-9223372036854775808 ≤ z0 ∧ z0 ≤ 9223372036854775807 ∧ -9223372036854775808 ≤ z1 ∧ z1 ≤ 9223372036854775807 ∧ -9223372036854775808 ≤ z2 ∧ z2 ≤ 9223372036854775807 ∧ -9223372036854775808 ≤ z3 ∧ z3 ≤ 9223372036854775807) := by
  obtain ⟨cs, rfl, hsz⟩ := okWide_struct Tryz.underlying51 hv
  have hsz : cs.size = 4 := hsz.trans (by kernel_rfl)
  obtain ⟨fuel, hf⟩ := h
  obtain ⟨z0, z1, z2, z3, hb, e⟩ := stm_of (cs := cs.toList) (by simpa using hsz) hf
  refine ⟨z0, z1, z2, z3, ?_, hb⟩
  have : cs = [.int .i64 z0, .int .i64 z1, .int .i64 z2, .int .i64 z3].toArray := by rw [← e]
  rw [this]

set_option maxRecDepth 10000 in
theorem ent_of {H : Type} {enc : TypeId × Value → H} {W : World} {cs : List Value} {fuel : Nat} {u : DataW H × List MemPlace} (hsz : cs.length = 8)
    (hf : DataW.trod enc Tryz.prog W 0 (fun _ => true) true fuel 53 cs = some u) : ∃ z0 z1 z2 z3 z4 z5 z6 z7 : Int, (-9223372036854775808 ≤ z0 ∧ z0 ≤ 9223372036854775807 ∧ -9223372036854775808 ≤ z1 ∧ z1 ≤ 9223372036854775807 ∧ -9223372036854775808 ≤ z2 ∧ z2 ≤ 9223372036854775807 ∧ -9223372036854775808 ≤ z3 ∧ z3 ≤ 9223372036854775807 ∧ -9223372036854775808 ≤ z4 ∧ z4 ≤ 9223372036854775807 ∧ -9223372036854775808 ≤ z5 ∧ z5 ≤ 9223372036854775807 ∧ 0 ≤ z6 ∧ z6 ≤ 18446744073709551615 ∧ 0 ≤ z7 ∧ z7 ≤ 18446744073709551615) ∧ cs = [.int .i64 z0, .int .i64 z1, .int .i64 z2, .int .i64 z3, .int .i64 z4, .int .i64 z5, .int .u64 z6, .int .u64 z7] := by
  obtain ⟨xs, n, _, _, hl, hlen, hg⟩ := DataW.trod_struct Tryz.underlying53 hf
  have hlen : xs.length = 5 := hlen
  have get : ∀ i, i < 5 → xs[i]? = some (xs.getD i (.nil, [])) := fun i hi => by
    rw [List.getD_eq_getElem?_getD, List.getElem?_eq_getElem (by omega)]
    rfl
  have one : ∀ (t : TypeId) (k : IntKind) (o : Nat) (u : DataW H × List MemPlace), Tryz.prog.underlying t = some (.int k) → DataW.trod enc Tryz.prog W 0 (fun _ => true) true n t ((cs.drop o).take 1) = some u → ∃ z, (cs.drop o).take 1 = [.int k z] ∧ (Lit.int k z).wf = true := fun t k o u ht hu => by
    obtain ⟨z, hz, _, hw⟩ := DataW.trod_int ht hu
    exact ⟨z, hz, hw⟩
  have q0 : DataW.trod enc Tryz.prog W 0 (fun _ => true) true n 3 ((cs.drop 0).take (Tryz.prog.cellsOf 3)) = some (xs.getD 0 (.nil, [])) := (hg 0 _ rfl).trans (get 0 (by decide))
  rw [show Tryz.prog.cellsOf 3 = 1 by kernel_rfl] at q0
  obtain ⟨z0, c0, w0⟩ := one _ _ 0 _ Tryz.underlying3 q0
  have q1 : DataW.trod enc Tryz.prog W 0 (fun _ => true) true n 51 ((cs.drop 1).take (Tryz.prog.cellsOf 51)) = some (xs.getD 1 (.nil, [])) := (hg 1 _ rfl).trans (get 1 (by decide))
  rw [show Tryz.prog.cellsOf 51 = 4 by kernel_rfl] at q1
  obtain ⟨z1, z2, z3, z4, ⟨l1, h1, l2, h2, l3, h3, l4, h4⟩, c1⟩ := stm_of (by rw [List.length_take, List.length_drop, hsz]; rfl) q1
  have q2 : DataW.trod enc Tryz.prog W 0 (fun _ => true) true n 3 ((cs.drop 5).take (Tryz.prog.cellsOf 3)) = some (xs.getD 2 (.nil, [])) := (hg 2 _ rfl).trans (get 2 (by decide))
  rw [show Tryz.prog.cellsOf 3 = 1 by kernel_rfl] at q2
  obtain ⟨z5, c2, w2⟩ := one _ _ 5 _ Tryz.underlying3 q2
  have q3 : DataW.trod enc Tryz.prog W 0 (fun _ => true) true n 39 ((cs.drop 6).take (Tryz.prog.cellsOf 39)) = some (xs.getD 3 (.nil, [])) := (hg 3 _ rfl).trans (get 3 (by decide))
  rw [show Tryz.prog.cellsOf 39 = 1 by kernel_rfl] at q3
  obtain ⟨z6, c3, w3⟩ := one _ _ 6 _ Tryz.underlying39 q3
  have q4 : DataW.trod enc Tryz.prog W 0 (fun _ => true) true n 39 ((cs.drop 7).take (Tryz.prog.cellsOf 39)) = some (xs.getD 4 (.nil, [])) := (hg 4 _ rfl).trans (get 4 (by decide))
  rw [show Tryz.prog.cellsOf 39 = 1 by kernel_rfl] at q4
  obtain ⟨z7, c4, w4⟩ := one _ _ 7 _ Tryz.underlying39 q4
  refine ⟨z0, z1, z2, z3, z4, z5, z6, z7, ⟨(i64_of_wf w0).1, (i64_of_wf w0).2, l1, h1, l2, h2, l3, h3, l4, h4, (i64_of_wf w2).1, (i64_of_wf w2).2, (u64_of_wf w3).1, (u64_of_wf w3).2, (u64_of_wf w4).1, (u64_of_wf w4).2⟩, ?_⟩
  match cs, hsz with
  | [v0, v1, v2, v3, v4, v5, v6, v7], _ =>
    simp only [List.drop_succ_cons, List.drop_zero, List.take_succ_cons, List.take_zero, List.cons.injEq, and_true, List.drop, List.take] at c0 c1 c2 c3 c4
    simp [c0, c1, c2, c3, c4]

set_option maxRecDepth 10000 in
theorem ent_in {H : Type} {enc : TypeId × Value → H} {W : World} {r : Reach} {b0 : Nat} {v : Value} {d : DataW H} {p : List MemPlace}
    (hv : Value.okWide Tryz.prog W r b0 53 v) (h : DataW.Trod enc Tryz.prog W 0 (fun _ => true) true 53 v d p) :
    ∃ z0 z1 z2 z3 z4 z5 z6 z7 : Int, v = .agg #[.int .i64 z0, .int .i64 z1, .int .i64 z2, .int .i64 z3, .int .i64 z4, .int .i64 z5, .int .u64 z6, .int .u64 z7] ∧ (-9223372036854775808 ≤ z0 ∧ z0 ≤ 9223372036854775807 ∧ -9223372036854775808 ≤ z1 ∧ z1 ≤ 9223372036854775807 ∧ -9223372036854775808 ≤ z2 ∧ z2 ≤ 9223372036854775807 ∧ -9223372036854775808 ≤ z3 ∧ z3 ≤ 9223372036854775807 ∧ -9223372036854775808 ≤ z4 ∧ z4 ≤ 9223372036854775807 ∧ -9223372036854775808 ≤ z5 ∧ z5 ≤ 9223372036854775807 ∧ 0 ≤ z6 ∧ z6 ≤ 18446744073709551615 ∧ 0 ≤ z7 ∧ z7 ≤ 18446744073709551615) := by
  obtain ⟨cs, rfl, hsz⟩ := okWide_struct Tryz.underlying53 hv
  have hsz : cs.size = 8 := hsz.trans (by kernel_rfl)
  obtain ⟨fuel, hf⟩ := h
  obtain ⟨z0, z1, z2, z3, z4, z5, z6, z7, hb, e⟩ := ent_of (cs := cs.toList) (by simpa using hsz) hf
  refine ⟨z0, z1, z2, z3, z4, z5, z6, z7, ?_, hb⟩
  have : cs = [.int .i64 z0, .int .i64 z1, .int .i64 z2, .int .i64 z3, .int .i64 z4, .int .i64 z5, .int .u64 z6, .int .u64 z7].toArray := by rw [← e]
  rw [this]

set_option maxRecDepth 10000 in
theorem ent_row {H : Type} {enc : TypeId × Value → H} {W : World} {A : Option Addr} {len cap : Nat} {d : DataW H} {p : List MemPlace} {fuel : Nat}
    (hf : DataW.trod enc Tryz.prog W 0 (fun _ => true) true fuel 22 (Value.slice A len cap).cells.toList = some (d, p)) : Qu.Ents W A len cap ∧ len ≤ maxLen := by
  have e46 : Tryz.prog.cellsOf 53 = 8 := by kernel_rfl
  rcases DataW.trod_slice Tryz.underlying22 hf with ⟨hcs, _⟩ | ⟨a, l, c, elems, rest, n, _, hcs, _, _, hle, hcap, hel, hi, _⟩
  · simp [Value.cells] at hcs
    obtain ⟨rfl, rfl, rfl⟩ := hcs
    exact ⟨⟨Nat.le_refl _, fun _ => rfl, fun h => absurd h (by omega)⟩, by simp [maxLen]⟩
  · simp [Value.cells] at hcs
    obtain ⟨rfl, rfl, rfl⟩ := hcs
    refine ⟨⟨hle, fun h => (by cases h), fun hn => ?_⟩, Nat.le_trans hle hcap⟩
    have key : ∀ i, i < len → ∃ (cs : List Value) (z0 z1 z2 z3 z4 z5 z6 z7 : Int), (-9223372036854775808 ≤ z0 ∧ z0 ≤ 9223372036854775807 ∧ -9223372036854775808 ≤ z1 ∧ z1 ≤ 9223372036854775807 ∧ -9223372036854775808 ≤ z2 ∧ z2 ≤ 9223372036854775807 ∧ -9223372036854775808 ≤ z3 ∧ z3 ≤ 9223372036854775807 ∧ -9223372036854775808 ≤ z4 ∧ z4 ≤ 9223372036854775807 ∧ -9223372036854775808 ≤ z5 ∧ z5 ≤ 9223372036854775807 ∧ 0 ≤ z6 ∧ z6 ≤ 18446744073709551615 ∧ 0 ≤ z7 ∧ z7 ≤ 18446744073709551615) ∧ cs = [.int .i64 z0, .int .i64 z1, .int .i64 z2, .int .i64 z3, .int .i64 z4, .int .i64 z5, .int .u64 z6, .int .u64 z7] ∧ ∀ j v, cs[j]? = some v → W.cell? ((a.add (i * 8)).add j) = some v := fun i hil => by
      have h := hi i hil
      rw [e46, List.getElem?_eq_getElem (by omega)] at h
      obtain ⟨cs', hc, ht⟩ := Option.bind_eq_some_iff.1 h
      obtain ⟨_, hcl, hat⟩ := World.cells?_some hc
      obtain ⟨z0, z1, z2, z3, z4, z5, z6, z7, hb, e⟩ := ent_of (by simpa using hcl) ht
      refine ⟨cs', z0, z1, z2, z3, z4, z5, z6, z7, hb, e, fun j v hv => ?_⟩
      have hj : j < 8 := by
        have := (List.getElem?_eq_some_iff.1 hv).1
        omega
      rw [hat j hj]
      exact hv
    obtain ⟨b, o, s⟩ := a
    obtain ⟨cs0, x0, x1, x2, x3, x4, x5, x6, x7, hb0, e0, h0⟩ := key 0 hn
    have hc0 := h0 0 (.int .i64 x0) (by rw [e0]; rfl)
    have hs : s = none := by simpa [Addr.add] using World.cell?_spot hc0
    subst hs
    refine ⟨b, o, rfl, World.block_lt_of_cell? W ⟨b, o, none⟩ (by simpa [Addr.add] using hc0), fun i hil => ?_⟩
    obtain ⟨cs, z0, z1, z2, z3, z4, z5, z6, z7, hb, e, hc⟩ := key i hil
    refine ⟨z0, z1, z2, z3, z4, z5, z6, z7, (by obtain ⟨g0, g1, g2, g3, g4, g5, g6, g7, g8, g9, g10, g11, g12, g13, g14, g15⟩ := hb; exact ⟨g0, g1, g2, g3, g4, g5, g6, g7, g8, g9, g10, g11, g12, g13, g14, g15⟩), fun j v hv => ?_⟩
    have h1 := hc j v (by rw [e]; exact hv)
    rw [Go.Deep.add_add] at h1
    have h2 : (⟨b, o, none⟩ : Addr).add (i * 8 + j) = ⟨b, o + i * 8 + j, none⟩ := by
      unfold Addr.add
      by_cases e : i * 8 + j = 0
      · rw [if_pos e]
        first | (simp; done) | (simp; omega)
      · rw [if_neg e]
        first | rfl | (rw [Nat.add_assoc]; done) | (simp; done) | (simp; omega) | (simp [Nat.add_assoc]; done)
    rwa [h2] at h1

end Go.Proofs.YtcefjigbaglmeaaGreat
end
