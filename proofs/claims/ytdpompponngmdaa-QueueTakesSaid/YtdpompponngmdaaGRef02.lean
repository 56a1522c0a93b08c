/-
  What distraintref02.Put and distraintref02.Get answer in this program: the same as codec's.
  Conditions: a word; a slice that reads as bytes, of at most 10^9 of them.
-/
import Derived.Test.YtdpompponngmdaaGGet2
namespace Go.Proofs.Ytdpompponngmdaa
open Go.RowKit Go.Shelf
set_option linter.unusedVariables false
namespace Cd

theorem Bel.grownBy {w w' : World} (h : Bel w w') : w.grownBy w' none := ⟨Below.os h, Below.tape h, Below.output h, Below.size h, fun k hk _ => Below.block h k hk⟩
theorem owns_bel {w w' : World} {base : Nat} {e : TypeId} {size : Nat} {v : Value} {n : Nat} {xs : List Value} (h : w.ownsRow base e size v n xs) (hb : Bel w w') : w'.ownsRow base e size v n xs := by
  refine h.kept (Bel.grownBy hb) ?_
  cases v.ownBlock with
  | none => exact .inl rfl
  | some g => exact .inr (by simp)
theorem owns_mono {w : World} {base base' : Nat} {e : TypeId} {size : Nat} {v : Value} {n : Nat} {xs : List Value} (h : w.ownsRow base e size v n xs) (hb : base' ≤ base) : w.ownsRow base' e size v n xs := by
  refine ⟨h.1, h.2.imp id fun ⟨g, cap, cur, h1, h2, r⟩ => ⟨g, cap, cur, h1, Nat.le_trans hb h2, r⟩⟩

/-- New bytes. -/
def Fresh (w w' : World) (v : Value) (zs : List Int) : Prop := w'.ownsRow w.heap.size 5 1 v zs.length (zs.map (Value.int .u8)) ∧ Bel w w'

theorem one_ok (z : Int) {k : IntKind} : ∀ u ∈ [Value.int k z], u.oneCell' = true := by
  intro u hu
  simp at hu
  subst hu
  rfl
theorem ints_ok (zs : List Int) {k : IntKind} : ∀ u ∈ zs.map (Value.int k), u.oneCell' = true := by
  intro u hu
  obtain ⟨z, _, rfl⟩ := List.mem_map.1 hu
  rfl
/-- The cells of a slice that reads as numbers, as an append takes them. -/
theorem Ints.news {k : IntKind} {w : World} {A : Addr} {n : Nat} {zs : List Int} (h : Ints k w (some A) n zs) : ∀ j u, (zs.map (Value.int k))[j]? = some u → w.cell? (A.add j) = some u := by
  intro j u hj
  have hl := h.1
  have hjn : j < n := by
    rcases Nat.lt_or_ge j n with h' | h'
    · exact h'
    · rw [List.getElem?_eq_none (by simp; omega)] at hj; cases hj
  obtain ⟨b, o, e, _, hc⟩ := h.cell hjn
  injection e with e
  subst e
  rw [List.getElem?_map, List.getElem?_eq_getElem (by omega)] at hj
  rw [getD_eq _ _ (by omega)] at hc
  simp at hj
  subst hj
  rw [← hc]
  unfold Addr.add
  by_cases h0 : j = 0
  · simp [h0]
  · simp [h0]

end Cd
end Go.Proofs.Ytdpompponngmdaa
