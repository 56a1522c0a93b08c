/-
  Texts of this claim, put together: PLiftR, PLiftI, PLiftB, PTell, PLift, PKLift. What each one says, and under which conditions, stands ahead of it.
-/
import Derived.ProofKit
import Derived.LaidMore
import Derived.OpenShut
import Derived.ChangeOld
import Derived.Stop.Joined
import Derived.Lib.LaidTab
import Derived.Lay
import Derived.Test.YtpohcdfmkcfonaaGreatDoorPA
import Derived.Test.YtpohcdfmkcfonaaGreatDoorRows
import Derived.Test.YtpohcdfmkcfonaaGreatDoorGPAwk
import Derived.Test.YtpohcdfmkcfonaaGreatDoorGPNm2
import Derived.Test.YtpohcdfmkcfonaaGreatDoorGPEq
import Derived.Test.YtpohcdfmkcfonaaGreatDoorPK

section
/-
  What an argument that is a record of params, as it comes in, tells a walk. No condition.
-/
namespace Go.Proofs.YtpohcdfmkcfonaaGreatDoor
open Go.ChangeShapes Go.WideShapes Go.ChangeAt Go.RowKit
set_option linter.unusedVariables false
set_option maxRecDepth 100000

theorem own : ownKnob Tryz.prog.godebug = none := by kernel_rfl
theorem laidOut : laidOutB Tryz.prog = true := by kernel_rfl
theorem u64_of_wf {x : Int} (h : (Lit.int .u64 x).wf = true) : 0 ≤ x ∧ x ≤ 18446744073709551615 := by
  simp [Lit.wf, IntKind.min, IntKind.max, IntKind.signed, IntKind.bits] at h
  exact ⟨by omega, by omega⟩
theorem i64_of_wf {x : Int} (h : (Lit.int .i64 x).wf = true) : -9223372036854775808 ≤ x ∧ x ≤ 9223372036854775807 := by
  simp [Lit.wf, IntKind.min, IntKind.max, IntKind.signed, IntKind.bits] at h
  exact ⟨by omega, by omega⟩
theorem take_one {l : List Value} {o : Nat} {v : Value} (h : (l.drop o).take 1 = [v]) : l[o]? = some v := by
  have : ((l.drop o).take 1)[0]? = some v := by rw [h]; rfl
  simpa [List.getElem?_take, List.getElem?_drop] using this
theorem open_string {H : Type} {enc : TypeId × Value → H} {P : Program} {w : World} {base b0 : Nat} {sp : Nat → Bool} {held : Bool} {r : Reach} {t : TypeId} {v : Value} {d : DataW H} {ps : List MemPlace} (ht : P.underlying t = some .string) (hval : Value.okWide P w r b0 t v) (hd : DataW.Trod enc P w base sp held t v d ps) :
    ∃ s : ByteArray, v = .string s ∧ d = .lit (.string s.data.toList) ∧ ps = [] ∧ s.size ≤ maxLen := Go.ChangeMaps.open_string ht hval hd
theorem shut_string {H : Type} {enc : TypeId × Value → H} {P : Program} {w : World} {base : Nat} {sp : Nat → Bool} {held : Bool} {t : TypeId} {s : ByteArray} (ht : P.underlying t = some .string) (hs : s.size ≤ maxLen) : DataW.Trod enc P w base sp held t (.string s) (.lit (.string s.data.toList)) [] := Go.ChangeMaps.shut_string ht hs
theorem rec_in {H : Type} {enc : TypeId × Value → H} {W : World} {r : Reach} {b0 : Nat} {v : Value} {d : DataW H} {p : List MemPlace}
    (hv : Value.okWide Tryz.prog W r b0 24 v) (h : DataW.Trod enc Tryz.prog W 0 (fun _ => true) true 24 v d p) :
    ∃ x : Nat → Int, v = .agg (Pm.recC x).toArray ∧ Pm.Kinds x := by
  obtain ⟨cs, rfl, hsz⟩ := okWide_struct Tryz.underlying24 hv
  have hsz : cs.size = 11 := hsz.trans (by kernel_rfl)
  obtain ⟨fuel, hf⟩ := h
  have hf : DataW.trod enc Tryz.prog W 0 (fun _ => true) true fuel 24 cs.toList = some (d, p) := hf
  obtain ⟨xs, n, _, _, hl, hlen, hg⟩ := DataW.trod_struct Tryz.underlying24 hf
  have hlen : xs.length = 11 := hlen
  have get : ∀ i, i < 11 → xs[i]? = some (xs.getD i (.nil, [])) := fun i hi => by
    rw [List.getD_eq_getElem?_getD, List.getElem?_eq_getElem (by omega)]
    rfl
  have one : ∀ (t : TypeId) (k : IntKind) (o : Nat) (u : DataW H × List MemPlace), Tryz.prog.underlying t = some (.int k) → DataW.trod enc Tryz.prog W 0 (fun _ => true) true n t ((cs.toList.drop o).take 1) = some u → ∃ z, cs.toList[o]? = some (.int k z) ∧ (Lit.int k z).wf = true := fun t k o u ht hu => by
    obtain ⟨z, hz, _, hw⟩ := DataW.trod_int ht hu
    exact ⟨z, take_one hz, hw⟩
  have ei : Tryz.prog.cellsOf 3 = 1 := by kernel_rfl
  have eu : Tryz.prog.cellsOf 22 = 1 := by kernel_rfl
  have q0 : DataW.trod enc Tryz.prog W 0 (fun _ => true) true n 3 ((cs.toList.drop 0).take (Tryz.prog.cellsOf 3)) = some (xs.getD 0 (.nil, [])) := (hg 0 _ rfl).trans (get 0 (by decide))
  rw [ei] at q0
  obtain ⟨x0, c0, w0⟩ := one _ _ 0 _ Tryz.underlying3 q0
  have q1 : DataW.trod enc Tryz.prog W 0 (fun _ => true) true n 3 ((cs.toList.drop 1).take (Tryz.prog.cellsOf 3)) = some (xs.getD 1 (.nil, [])) := (hg 1 _ rfl).trans (get 1 (by decide))
  rw [ei] at q1
  obtain ⟨x1, c1, w1⟩ := one _ _ 1 _ Tryz.underlying3 q1
  have q2 : DataW.trod enc Tryz.prog W 0 (fun _ => true) true n 3 ((cs.toList.drop 2).take (Tryz.prog.cellsOf 3)) = some (xs.getD 2 (.nil, [])) := (hg 2 _ rfl).trans (get 2 (by decide))
  rw [ei] at q2
  obtain ⟨x2, c2, w2⟩ := one _ _ 2 _ Tryz.underlying3 q2
  have q3 : DataW.trod enc Tryz.prog W 0 (fun _ => true) true n 3 ((cs.toList.drop 3).take (Tryz.prog.cellsOf 3)) = some (xs.getD 3 (.nil, [])) := (hg 3 _ rfl).trans (get 3 (by decide))
  rw [ei] at q3
  obtain ⟨x3, c3, w3⟩ := one _ _ 3 _ Tryz.underlying3 q3
  have q4 : DataW.trod enc Tryz.prog W 0 (fun _ => true) true n 3 ((cs.toList.drop 4).take (Tryz.prog.cellsOf 3)) = some (xs.getD 4 (.nil, [])) := (hg 4 _ rfl).trans (get 4 (by decide))
  rw [ei] at q4
  obtain ⟨x4, c4, w4⟩ := one _ _ 4 _ Tryz.underlying3 q4
  have q5 : DataW.trod enc Tryz.prog W 0 (fun _ => true) true n 3 ((cs.toList.drop 5).take (Tryz.prog.cellsOf 3)) = some (xs.getD 5 (.nil, [])) := (hg 5 _ rfl).trans (get 5 (by decide))
  rw [ei] at q5
  obtain ⟨x5, c5, w5⟩ := one _ _ 5 _ Tryz.underlying3 q5
  have q6 : DataW.trod enc Tryz.prog W 0 (fun _ => true) true n 3 ((cs.toList.drop 6).take (Tryz.prog.cellsOf 3)) = some (xs.getD 6 (.nil, [])) := (hg 6 _ rfl).trans (get 6 (by decide))
  rw [ei] at q6
  obtain ⟨x6, c6, w6⟩ := one _ _ 6 _ Tryz.underlying3 q6
  have q7 : DataW.trod enc Tryz.prog W 0 (fun _ => true) true n 22 ((cs.toList.drop 7).take (Tryz.prog.cellsOf 22)) = some (xs.getD 7 (.nil, [])) := (hg 7 _ rfl).trans (get 7 (by decide))
  rw [eu] at q7
  obtain ⟨x7, c7, w7⟩ := one _ _ 7 _ Tryz.underlying22 q7
  have q8 : DataW.trod enc Tryz.prog W 0 (fun _ => true) true n 22 ((cs.toList.drop 8).take (Tryz.prog.cellsOf 22)) = some (xs.getD 8 (.nil, [])) := (hg 8 _ rfl).trans (get 8 (by decide))
  rw [eu] at q8
  obtain ⟨x8, c8, w8⟩ := one _ _ 8 _ Tryz.underlying22 q8
  have q9 : DataW.trod enc Tryz.prog W 0 (fun _ => true) true n 3 ((cs.toList.drop 9).take (Tryz.prog.cellsOf 3)) = some (xs.getD 9 (.nil, [])) := (hg 9 _ rfl).trans (get 9 (by decide))
  rw [ei] at q9
  obtain ⟨x9, c9, w9⟩ := one _ _ 9 _ Tryz.underlying3 q9
  have q10 : DataW.trod enc Tryz.prog W 0 (fun _ => true) true n 22 ((cs.toList.drop 10).take (Tryz.prog.cellsOf 22)) = some (xs.getD 10 (.nil, [])) := (hg 10 _ rfl).trans (get 10 (by decide))
  rw [eu] at q10
  obtain ⟨x10, c10, w10⟩ := one _ _ 10 _ Tryz.underlying22 q10
  refine ⟨fun i => ([x0, x1, x2, x3, x4, x5, x6, x7, x8, x9, x10] : List Int).getD i 0, ?_, ?_⟩
  · have hcl : cs.toList = [.int .i64 x0, .int .i64 x1, .int .i64 x2, .int .i64 x3, .int .i64 x4, .int .i64 x5, .int .i64 x6, .int .u64 x7, .int .u64 x8, .int .i64 x9, .int .u64 x10] := by
      have hl11 : cs.toList.length = 11 := by rw [Array.length_toList]; exact hsz
      generalize cs.toList = L at *
      match L, hl11 with
      | [y0, y1, y2, y3, y4, y5, y6, y7, y8, y9, y10], _ =>
        simp only [List.getElem?_cons_zero, List.getElem?_cons_succ, Option.some.injEq] at c0 c1 c2 c3 c4 c5 c6 c7 c8 c9 c10
        rw [c0, c1, c2, c3, c4, c5, c6, c7, c8, c9, c10]
    rw [← Array.toArray_toList (xs := cs), hcl]
    rfl
  · intro i hi
    match i, hi with
    | 0, _ => exact ⟨fun h => absurd h (by decide), fun h => i64_of_wf w0⟩
    | 1, _ => exact ⟨fun h => absurd h (by decide), fun h => i64_of_wf w1⟩
    | 2, _ => exact ⟨fun h => absurd h (by decide), fun h => i64_of_wf w2⟩
    | 3, _ => exact ⟨fun h => absurd h (by decide), fun h => i64_of_wf w3⟩
    | 4, _ => exact ⟨fun h => absurd h (by decide), fun h => i64_of_wf w4⟩
    | 5, _ => exact ⟨fun h => absurd h (by decide), fun h => i64_of_wf w5⟩
    | 6, _ => exact ⟨fun h => absurd h (by decide), fun h => i64_of_wf w6⟩
    | 7, _ => exact ⟨fun h => u64_of_wf w7, fun h => absurd h (by decide)⟩
    | 8, _ => exact ⟨fun h => u64_of_wf w8, fun h => absurd h (by decide)⟩
    | 9, _ => exact ⟨fun h => absurd h (by decide), fun h => i64_of_wf w9⟩
    | 10, _ => exact ⟨fun h => u64_of_wf w10, fun h => absurd h (by decide)⟩
    | n + 11, h => omega
end Go.Proofs.YtpohcdfmkcfonaaGreatDoor
end

section
/-
  What a law's argument that is a slice of integers, as it comes in, tells a walk. No condition.
-/
namespace Go.Proofs.YtpohcdfmkcfonaaGreatDoor
open Go.ChangeShapes Go.WideShapes Go.ChangeAt Go.RowKit
open Kk
set_option linter.unusedVariables false

/-- A slice of integers that came in reads as a list of numbers that fit their kind. -/
theorem ints_in {H : Type} {enc : TypeId × Value → H} {W : World} {t e : TypeId} {k : IntKind} {A : Option Addr} {len cap : Nat} {d : DataW H} {p : List MemPlace} {fuel : Nat}
    (ht : Tryz.prog.underlying t = some (.slice e)) (he : Tryz.prog.underlying e = some (.int k)) (hc : Tryz.prog.cellsOf e = 1)
    (hf : DataW.trod enc Tryz.prog W 0 (fun _ => true) true fuel t (Value.slice A len cap).cells.toList = some (d, p)) :
    ∃ zs, Kk.Ints k W A len zs ∧ (∀ z ∈ zs, (Lit.int k z).wf = true) ∧ len ≤ maxLen ∧ (A = none → cap = 0) := by
  rcases open_ints ht he hc hf with ⟨hcs, _⟩ | ⟨x, l, c, zs, hcs, _, hl, hm, hz, _, hcell, hwz⟩
  · simp [Value.cells] at hcs
    obtain ⟨rfl, rfl, rfl⟩ := hcs
    exact ⟨[], Kk.Ints.nil_, by simp, by simp [maxLen], fun _ => rfl⟩
  · simp [Value.cells] at hcs
    obtain ⟨rfl, rfl, rfl⟩ := hcs
    have hz' : zs.length = cap := by simpa using hz
    refine ⟨zs.take len, ⟨by rw [List.length_take]; omega, fun hn => ?_⟩, fun z h => hwz z (List.mem_of_mem_take h), Nat.le_trans hl hm, fun h => by cases h⟩
    obtain ⟨b, o, s⟩ := x
    have h0 := hcell 0 (by omega)
    have hs : s = none := by simpa [Addr.add] using World.cell?_spot h0
    subst hs
    refine ⟨b, o, rfl, World.block_lt_of_cell? W ⟨b, o, none⟩ (by simpa [Addr.add] using h0), fun i hi => ?_⟩
    have h1 := hcell i (by omega)
    have h2 : (zs.take len).getD i 0 = zs.getD i 0 := by simp [List.getD_eq_getElem?_getD, hi]
    rw [h2, ← h1]
    unfold Addr.add
    by_cases hi0 : i = 0
    · subst hi0; simp
    · simp [hi0]
end Go.Proofs.YtpohcdfmkcfonaaGreatDoor
end

section
/-
  What a law's argument that is a slice of bytes, as it comes in, tells a walk. No condition.
-/
namespace Go.Proofs.YtpohcdfmkcfonaaGreatDoor
open Go.ChangeShapes Go.WideShapes Go.ChangeAt Go.RowKit
open Kk
set_option linter.unusedVariables false

theorem u8_of_wf {x : Int} (h : (Lit.int .u8 x).wf = true) : 0 ≤ x ∧ x ≤ 255 := by
  simp [Lit.wf, IntKind.min, IntKind.max, IntKind.signed, IntKind.bits] at h
  exact ⟨by omega, by omega⟩
theorem sl_in {H : Type} {enc : TypeId × Value → H} {W : World} {t e : TypeId} {A : Option Addr} {len cap : Nat} {d : DataW H} {p : List MemPlace} {fuel : Nat}
    (ht : Tryz.prog.underlying t = some (.slice e)) (he : Tryz.prog.underlying e = some (.int .u8)) (hc : Tryz.prog.cellsOf e = 1)
    (hf : DataW.trod enc Tryz.prog W 0 (fun _ => true) true fuel t (Value.slice A len cap).cells.toList = some (d, p)) :
    ∃ zs, Kk.Sl W A len cap zs ∧ (∀ z ∈ zs, 0 ≤ z ∧ z ≤ 255) ∧ cap ≤ maxLen := by
  rcases open_ints ht he hc hf with ⟨hcs, _⟩ | ⟨x, l, c, zs, hcs, _, hl, hm, hz, _, hcell, hwz⟩
  · simp [Value.cells] at hcs
    obtain ⟨rfl, rfl, rfl⟩ := hcs
    exact ⟨[], ⟨Kk.Ints.nil_, Nat.le_refl _, fun _ => rfl⟩, fun z hz => by simp at hz, by simp [maxLen]⟩
  · simp [Value.cells] at hcs
    obtain ⟨rfl, rfl, rfl⟩ := hcs
    have hz' : zs.length = cap := by simpa using hz
    refine ⟨zs.take len, ⟨⟨by rw [List.length_take]; omega, fun hn => ?_⟩, hl, fun h => by cases h⟩, fun z h => u8_of_wf (hwz z (List.mem_of_mem_take h)), hm⟩
    obtain ⟨b, o, s⟩ := x
    have h0 := hcell 0 (by omega)
    have hs : s = none := by simpa [Addr.add] using World.cell?_spot h0
    subst hs
    refine ⟨b, o, rfl, World.block_lt_of_cell? W ⟨b, o, none⟩ (by simpa [Addr.add] using h0), fun i hi => ?_⟩
    have h1 := hcell i (by omega)
    have h2 : (zs.take len).getD i 0 = zs.getD i 0 := by simp [List.getD_eq_getElem?_getD, hi]
    rw [h2, ← h1]
    unfold Addr.add
    by_cases hi0 : i = 0
    · subst hi0; simp
    · simp [hi0]
end Go.Proofs.YtpohcdfmkcfonaaGreatDoor
end

section
/-
  The law ParamsTell: what the program tells of any record, name and number is what the reference tells.
  Conditions: the eleven numbers are of their kinds; the number is below 2^64; the library's table of powers of ten is as the program's text lays it.
-/
namespace Go.Proofs.YtpohcdfmkcfonaaGreatDoor
open Go.RowKit Go.Shelf Go.Sort
set_option linter.unusedVariables false
namespace Pm
open Kk

theorem FErr.uniq {x : Nat → Int} {s : ByteArray} {a b : Int} (h : FErr x s a) (k : FErr x s b) (ha : a ≠ 0) (hb : b ≠ 0) : a = b := by
  rcases h with ⟨c, hc⟩ | ⟨h1, _, h3⟩
  · rcases k with ⟨d, hd⟩ | ⟨k1, _, _⟩
    · exact (hc.uniq hd).1
    · exact absurd (hc.uniq k1).1 ha
  · rcases k with ⟨d, hd⟩ | ⟨_, _, k3⟩
    · exact absurd (hd.uniq h1).1 hb
    · rw [h3, k3]
theorem FErr.not {x : Nat → Int} {s : ByteArray} {a : Int} (h : FErr x s a) (ha : a ≠ 0) (hc : Chk x 0 0) {i : Nat} (hi : At s i) : False := by
  rcases h with ⟨c, hd⟩ | ⟨_, hno, _⟩
  · exact ha (hd.uniq hc).1
  · exact hno i hi.1 hi.2.1
theorem Gt.uniq {x : Nat → Int} {s : ByteArray} {n a m b : Int} (h : Gt x s n a) (k : Gt x s m b) : n = m ∧ a = b := by
  rcases h with ⟨rfl, h1, i, hi, rfl⟩ | ⟨ha, rfl, hf⟩
  · rcases k with ⟨rfl, _, j, hj, rfl⟩ | ⟨hb, _, hg⟩
    · rw [hi.uniq hj]
      exact ⟨rfl, rfl⟩
    · exact (hg.not hb h1 hi).elim
  · rcases k with ⟨rfl, k1, j, hj, rfl⟩ | ⟨hb, rfl, hg⟩
    · exact (hf.not ha k1 hj).elim
    · exact ⟨rfl, hf.uniq hg ha hb⟩
theorem St.uniq {x : Nat → Int} {s : ByteArray} {n : Int} {y z : Nat → Int} {a b : Int} (h : St x s n y a) (k : St x s n z b) : y = z ∧ a = b := by
  rcases h with ⟨rfl, h1, i, hi, rfl, hy⟩ | ⟨ha, rfl, hf⟩
  · rcases k with ⟨rfl, _, j, hj, rfl, _⟩ | ⟨hb, _, hg | ⟨_, j, d, hj, hd⟩⟩
    · rw [hi.uniq hj]
      exact ⟨rfl, rfl⟩
    · exact (hg.not hb h1 hi).elim
    · obtain rfl := hi.uniq hj
      exact absurd (hd.uniq hy).1 hb
  · rcases k with ⟨rfl, k1, j, hj, rfl, hz⟩ | ⟨hb, rfl, hg⟩
    · rcases hf with hf | ⟨_, i, d, hi, hd⟩
      · exact (hf.not ha k1 hj).elim
      · obtain rfl := hi.uniq hj
        exact absurd (hd.uniq hz).1 ha
    · refine ⟨rfl, ?_⟩
      rcases hf with hf | ⟨h1, i, d, hi, hd⟩
      · rcases hg with hg | ⟨k1, j, e, hj, he⟩
        · exact hf.uniq hg ha hb
        · exact (hf.not ha k1 hj).elim
      · rcases hg with hg | ⟨k1, j, e, hj, he⟩
        · exact (hg.not hb h1 hi).elim
        · obtain rfl := hi.uniq hj
          exact (hd.uniq he).1

end Pm
end Go.Proofs.YtpohcdfmkcfonaaGreatDoor
end

section
/-
  What the row's premise tells a walk: the library's tables lie in their variables. No condition.
-/
namespace Go.Proofs.YtpohcdfmkcfonaaGreatDoor
open Go.ChangeShapes Go.WideShapes Go.ChangeAt Go.RowKit
set_option linter.unusedVariables false
set_option maxRecDepth 100000

abbrev laid1 {H : Type} : List (String × DataW H) := [("math/bits.deBruijn32tab", Rows.laid_math_bits_deBruijn32tab), ("math/bits.deBruijn64tab", Rows.laid_math_bits_deBruijn64tab), ("internal/strconv.uint64pow10", Rows.laid_internal_strconv_uint64pow10)]
/-- The door's own heap meets the premise. -/
theorem door_met (os : Os) (args : Array Value) : laidMetH Tryz.prog laid1 ((World.doorLaid Tryz.prog 400 os).forCall (fun _ _ => 0) ⟨#[], args, []⟩).memory :=
  laidMetH_of_parts3 (fuel := 8) (laidMet_of_run' 8 (by kernel_rfl) (by kernel_rfl)) (by kernel_rfl) (by kernel_rfl)
/-- What the premise gives the walks. -/
theorem of_laid {W : World} (h : laidMetH Tryz.prog laid1 W) : Pm.Tab W := by
  rw [MakeChecks.laidMetH_plain _ _ _ (by kernel_rfl)] at h
  obtain ⟨ps, ⟨_, _, _, _, _, _, _, _, _, _, ⟨_, _, _, _, _, _, _, _, _, _, ⟨g0, t0, cs0, f0, p0, q0, hg0, ht0, hv0, hd0, _⟩, _⟩, _⟩, _⟩ := h
  have hg : Tryz.prog.globalNamed "internal/strconv.uint64pow10" = some 0 := by kernel_rfl
  have ht : (Tryz.prog.globals[0]?).map (·.type) = some 133 := by kernel_rfl
  obtain rfl := Option.some.inj (hg.symm.trans hg0)
  obtain rfl := Option.some.inj (ht.symm.trans ht0)
  have e : Rows.laid_internal_strconv_uint64pow10 = Lib.tabData (H := Unit) .u64 Lib.pow10Tab := by rfl
  unfold Pm.Tab Lib.TabIs
  rw [hv0, ← Lib.cells_of_tab Tryz.underlying133 Tryz.underlying22 (by kernel_rfl) (by kernel_rfl) (by rw [← e]; exact hd0)]
end Go.Proofs.YtpohcdfmkcfonaaGreatDoor
end

section
/-
  What the row's premise tells ParamsKnown's walk: five tables lie in their variables. No condition.
-/
namespace Go.Proofs.YtpohcdfmkcfonaaGreatDoor
open Go.ChangeShapes Go.WideShapes Go.ChangeAt Go.RowKit
set_option linter.unusedVariables false
set_option maxRecDepth 100000

abbrev laid5 : List (String × DataW Unit) := [("math/bits.deBruijn32tab", Rows.laid_math_bits_deBruijn32tab), ("math/bits.deBruijn64tab", Rows.laid_math_bits_deBruijn64tab), ("internal/strconv.uint64pow10", Rows.laid_internal_strconv_uint64pow10), ("unicode/utf8.acceptRanges", Rows.laid_unicode_utf8_acceptRanges), ("unicode/utf8.first", Rows.laid_unicode_utf8_first)]
/-- What the premise gives the walks. -/
theorem of_laid5 {W : World} (h : laidMetH Tryz.prog laid5 W) : Pm.Tab W := by
  rw [MakeChecks.laidMetH_plain _ _ _ (by kernel_rfl)] at h
  obtain ⟨ps, ⟨_, _, _, _, _, _, _, _, _, _, ⟨_, _, _, _, _, _, _, _, _, _, ⟨g0, t0, cs0, f0, p0, q0, hg0, ht0, hv0, hd0, _⟩, _⟩, _⟩, _⟩ := h
  have hg : Tryz.prog.globalNamed "internal/strconv.uint64pow10" = some 0 := by kernel_rfl
  have ht : (Tryz.prog.globals[0]?).map (·.type) = some 133 := by kernel_rfl
  obtain rfl := Option.some.inj (hg.symm.trans hg0)
  obtain rfl := Option.some.inj (ht.symm.trans ht0)
  have e : Rows.laid_internal_strconv_uint64pow10 = Lib.tabData (H := Unit) .u64 Lib.pow10Tab := by rfl
  unfold Pm.Tab Lib.TabIs
  rw [hv0, ← Lib.cells_of_tab Tryz.underlying133 Tryz.underlying22 (by kernel_rfl) (by kernel_rfl) (by rw [← e]; exact hd0)]
end Go.Proofs.YtpohcdfmkcfonaaGreatDoor
end
