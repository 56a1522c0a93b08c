/-
  Texts of this claim, put together: KLift, KLift2. What each one says, and under which conditions, stands ahead of it.
-/
import Derived.ProofKit
import Derived.LaidMore
import Derived.OpenShut
import Derived.ChangeOld
import Derived.Stop.Joined
import Derived.ChangeMaps5
import Derived.Test.YtgalhpejihmhkaaDoorGC
import Derived.Test.YtgalhpejihmhkaaDoorRows

section
/-
  What the row's premise tells a walk: the table of turns lies in its variable. No condition.
-/
namespace Go.Proofs.YtgalhpejihmhkaaDoor
open Go.ChangeShapes Go.WideShapes Go.ChangeAt Go.RowKit
set_option linter.unusedVariables false

theorem own : ownKnob Tryd.prog.godebug = none := by kernel_rfl
theorem laidOut : laidOutB Tryd.prog = true := by kernel_rfl
theorem gTurns : Tryd.prog.globalNamed "distraint/keccak.turns" = some 0 := by kernel_rfl
theorem tTurns : (Tryd.prog.globals[0]?).map (·.type) = some 139 := by kernel_rfl
abbrev laid1 {H : Type} : List (String × DataW H) := [("distraint/keccak.turns", Rows.laid_distraint_keccak_turns)]

/-- The door's own heap meets the premise. -/
theorem door_met (os : Os) (args : Array Value) : laidMetH Tryd.prog laid1 ((World.doorLaid Tryd.prog 400 os).forCall (fun _ _ => 0) ⟨#[], args, []⟩).memory :=
  laidMetH_of_parts3 (fuel := 8) (laidMet_of_run' 8 (by kernel_rfl) (by kernel_rfl)) (by kernel_rfl) (by kernel_rfl)

theorem row_ints {H : Type} {enc : TypeId × Value → H} {W : World} {m : Nat} {cs : List Value} {x : DataW H × List MemPlace} (zs : List Int) (hx0 : x.1 = .agg (zs.map fun a => .lit (.int .i64 a)))
    (h : DataW.trod enc Tryd.prog W 0 (fun _ => true) false m 138 cs = some x) : ∀ (j : Nat) (a : Int), zs[j]? = some a → cs[j]? = some (.int .i64 a) := by
  intro j a hj
  obtain ⟨xs, m1, rfl, rfl, hlen, hn, hel⟩ := DataW.trod_array Tryd.underlying138 h
  have c1 : Tryd.prog.cellsOf 3 = 1 := by kernel_rfl
  simp only [DataW.agg.injEq] at hx0
  have hjl : j < zs.length := (List.getElem?_eq_some_iff.1 hj).1
  have hzl : zs.length = 5 := by
    have := congrArg List.length hx0
    simp at this
    omega
  have e := hel j (by omega)
  rw [c1, Nat.mul_one] at e
  obtain ⟨y, hy⟩ : ∃ y, xs[j]? = some y := ⟨xs[j]'(by omega), List.getElem?_eq_getElem _⟩
  rw [hy] at e
  obtain ⟨k, e1, e2, _⟩ := DataW.trod_int Tryd.underlying3 e
  have e3 : (xs.map (·.1))[j]? = some (.lit (.int .i64 k)) := by rw [List.getElem?_map, hy, e2]; rfl
  rw [hx0, List.getElem?_map, hj] at e3
  have hk : a = k := by simpa using e3
  subst hk
  have e4 : (cs.drop j)[0]? = some (.int .i64 a) := by
    have : ((cs.drop j).take 1)[0]? = some (.int .i64 a) := by rw [e1]; rfl
    rwa [List.getElem?_take_of_lt (by omega)] at this
  rwa [List.getElem?_drop, Nat.add_zero] at e4

def rowsOf : List (List Int) := [[0, 1, 62, 28, 27], [36, 44, 6, 55, 20], [3, 10, 43, 25, 39], [41, 45, 15, 21, 8], [18, 2, 61, 56, 14]]
theorem rows_rr : ∀ i, i < 5 → ∀ j, j < 5 → ∃ row, rowsOf[i]? = some row ∧ row[j]? = some ((Kk.rr (i * 5 + j) : Nat) : Int) := by
  have : ∀ i : Fin 5, ∀ j : Fin 5, (rowsOf[i.1]?).bind (fun row => row[j.1]?) = some ((Kk.rr (i.1 * 5 + j.1) : Nat) : Int) := by decide
  intro i hi j hj
  obtain ⟨row, h1, h2⟩ := Option.bind_eq_some_iff.1 (this ⟨i, hi⟩ ⟨j, hj⟩)
  exact ⟨row, h1, h2⟩

/-- What the premise gives the walks. -/
theorem of_laid {W : World} (h : laidMetH Tryd.prog laid1 W) : Kk.Tn W := by
  rw [MakeChecks.laidMetH_plain _ _ _ (by kernel_rfl)] at h
  obtain ⟨ps, ⟨g0, t0, cs0, f0, p0, q0, hg0, ht0, hv0, hd0, _⟩, _⟩ := h
  obtain rfl := Option.some.inj (gTurns.symm.trans hg0)
  obtain rfl := Option.some.inj (tTurns.symm.trans ht0)
  have hcell := fun j => World.var?_cell gTurns hv0 j
  obtain ⟨xs, m, rfl, hx, hlen, hn, hel⟩ := DataW.trod_array Tryd.underlying139 hd0
  have c5 : Tryd.prog.cellsOf 138 = 5 := by kernel_rfl
  have hx1 : xs.map (·.1) = rowsOf.map fun row => .agg (row.map fun a => .lit (.int .i64 a)) := by
    have := congrArg (·.1) hx
    simp only [DataW.agg.injEq, Rows.laid_distraint_keccak_turns] at this
    rw [← this]
    rfl
  have key : ∀ i, i < 25 → cs0[i]? = some (.int .i64 (Kk.rr i : Nat)) := by
    intro i hi
    obtain ⟨row, h1, h2⟩ := rows_rr (i / 5) (by omega) (i % 5) (by omega)
    rw [show i / 5 * 5 + i % 5 = i by omega] at h2
    have e := hel (i / 5) (by omega)
    rw [c5] at e
    obtain ⟨y, hy⟩ : ∃ y, xs[i / 5]? = some y := ⟨xs[i / 5]'(by omega), List.getElem?_eq_getElem _⟩
    rw [hy] at e
    have ey : y.1 = .agg (row.map fun a => .lit (.int .i64 a)) := by
      have : (xs.map (·.1))[i / 5]? = some y.1 := by rw [List.getElem?_map, hy]; rfl
      rw [hx1, List.getElem?_map, h1] at this
      simpa using this.symm
    have r := row_ints row ey e (i % 5) _ h2
    rw [List.getElem?_take_of_lt (by omega), List.getElem?_drop, show i / 5 * 5 + i % 5 = i by omega] at r
    rw [← r]
    exact (Array.getElem?_toList).symm
  refine ⟨?_, fun i hi => (hcell i).trans (key i hi)⟩
  exact World.block_lt_of_cell? W ⟨0, 0, none⟩ ((hcell 0).trans (key 0 (by omega)))

end Go.Proofs.YtgalhpejihmhkaaDoor
end

section
/-
  What arguments that are hashes, states and texts, as they come in, tell a walk. No condition.
-/
namespace Go.Proofs.YtgalhpejihmhkaaDoor
open Go.ChangeShapes Go.WideShapes Go.ChangeAt Go.RowKit
set_option linter.unusedVariables false
set_option maxRecDepth 100000

theorem u8_of_wf {x : Int} (h : (Lit.int .u8 x).wf = true) : 0 ≤ x ∧ x ≤ 255 := by
  simp [Lit.wf, IntKind.min, IntKind.max, IntKind.signed, IntKind.bits] at h
  exact ⟨by omega, by omega⟩
theorem u64_of_wf {x : Int} (h : (Lit.int .u64 x).wf = true) : 0 ≤ x ∧ x ≤ 18446744073709551615 := by
  simp [Lit.wf, IntKind.min, IntKind.max, IntKind.signed, IntKind.bits] at h
  exact ⟨by omega, by omega⟩
theorem take_one {l : List Value} {o : Nat} {v : Value} (h : (l.drop o).take 1 = [v]) : l[o]? = some v := by
  have : ((l.drop o).take 1)[0]? = some v := by rw [h]; rfl
  simpa [List.getElem?_take, List.getElem?_drop] using this
theorem ints_map {q : IntKind} : ∀ (L : List Value), (∀ v ∈ L, ∃ z, v = Value.int q z ∧ (Lit.int q z).wf = true) → ∃ hs : List Int, L = hs.map (Value.int q) ∧ ∀ z ∈ hs, (Lit.int q z).wf = true
  | [], _ => ⟨[], rfl, fun z h => by cases h⟩
  | v :: L, h => by
    obtain ⟨z, rfl, hz⟩ := h v (List.mem_cons_self ..)
    obtain ⟨hs, rfl, hw⟩ := ints_map L (fun v hv => h v (List.mem_cons_of_mem _ hv))
    exact ⟨z :: hs, rfl, fun y hy => by
      rcases List.mem_cons.1 hy with rfl | hy
      · exact hz
      · exact hw y hy⟩
theorem okWide_arr {P : Program} {w : World} {r : Reach} {b0 n : Nat} {t e : TypeId} {v : Value} (ht : P.underlying t = some (.array n e)) (h : Value.okWide P w r b0 t v) : ∃ cs, v = .agg cs := by
  simp only [Value.okWide, ht] at h
  obtain ⟨cs, h1, _⟩ := h
  exact ⟨cs, h1⟩
theorem arr_in {H : Type} {enc : TypeId × Value → H} {W : World} {r : Reach} {b0 n : Nat} {t e : TypeId} {q : IntKind} {v : Value} {d : DataW H} {p : List MemPlace}
    (ht : Tryd.prog.underlying t = some (.array n e)) (he : Tryd.prog.underlying e = some (.int q)) (hc : Tryd.prog.cellsOf e = 1) (hn : Tryd.prog.cellsOf t = n)
    (hv : Value.okWide Tryd.prog W r b0 t v) (h : DataW.Trod enc Tryd.prog W 0 (fun _ => true) true t v d p) :
    ∃ zs : List Int, v = .agg (zs.map (Value.int q)).toArray ∧ zs.length = n ∧ ∀ z ∈ zs, (Lit.int q z).wf = true := by
  obtain ⟨cs, rfl⟩ := okWide_arr ht hv
  obtain ⟨fuel, hf⟩ := h
  have hf : DataW.trod enc Tryd.prog W 0 (fun _ => true) true fuel t cs.toList = some (d, p) := hf
  obtain ⟨xs, m, _, _, hl, hxs, hi⟩ := DataW.trod_array ht hf
  rw [hn] at hl
  obtain ⟨zs, hz, hw⟩ := ints_map (q := q) cs.toList (fun v hv => by
    obtain ⟨i, hi2, rfl⟩ := List.getElem_of_mem hv
    have h7 := hi i (by omega)
    rw [hc, Nat.mul_one, List.getElem?_eq_getElem (by omega)] at h7
    obtain ⟨z, hz, _, hw⟩ := DataW.trod_int he h7
    have := take_one hz
    rw [List.getElem?_eq_getElem hi2] at this
    exact ⟨z, Option.some.inj this, hw⟩)
  refine ⟨zs, by rw [← hz], ?_, hw⟩
  have := congrArg List.length hz
  rw [List.length_map] at this
  omega
theorem hash_in {H : Type} {enc : TypeId × Value → H} {W : World} {r : Reach} {b0 : Nat} {v : Value} {d : DataW H} {p : List MemPlace} (hv : Value.okWide Tryd.prog W r b0 23 v) (h : DataW.Trod enc Tryd.prog W 0 (fun _ => true) true 23 v d p) :
    ∃ z : List Int, v = Kk.hsV z ∧ (z.length = 32 ∧ Kk.By z) := by
  obtain ⟨z, rfl, h1, h2⟩ := arr_in Tryd.underlying23 Tryd.underlying5 (by kernel_rfl) (by kernel_rfl) hv h
  exact ⟨z, rfl, h1, fun x hx => u8_of_wf (h2 x hx)⟩
theorem open_string {H : Type} {enc : TypeId × Value → H} {P : Program} {w : World} {base b0 : Nat} {sp : Nat → Bool} {held : Bool} {r : Reach} {t : TypeId} {v : Value} {d : DataW H} {ps : List MemPlace} (ht : P.underlying t = some .string) (hval : Value.okWide P w r b0 t v) (hd : DataW.Trod enc P w base sp held t v d ps) :
    ∃ s : ByteArray, v = .string s ∧ d = .lit (.string s.data.toList) ∧ ps = [] ∧ s.size ≤ maxLen := Go.ChangeMaps.open_string ht hval hd
theorem shut_string {H : Type} {enc : TypeId × Value → H} {P : Program} {w : World} {base : Nat} {sp : Nat → Bool} {held : Bool} {t : TypeId} {s : ByteArray} (ht : P.underlying t = some .string) (hs : s.size ≤ maxLen) : DataW.Trod enc P w base sp held t (.string s) (.lit (.string s.data.toList)) [] := Go.ChangeMaps.shut_string ht hs
end Go.Proofs.YtgalhpejihmhkaaDoor
end
