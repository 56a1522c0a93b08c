/-
  What the methods of a writer answer in this program: what is written, or why not; nothing else is turned but the writer and its row.
  Conditions: the writer is one that NewWriter made; slices that read as bytes and share no memory with it.
-/
import Derived.Test.YtkblbcdinibncaaDoorGObj
namespace Go.Proofs.YtkblbcdinibncaaDoor
open Go.RowKit Go.Shelf
set_option linter.unusedVariables false
namespace Cd

theorem wpList_append_at {w : World} {ops : Array Oper} {rest : List Oper} {o : Oper} {a : Act} {Q : Exit → Act → World → Prop} (hgd : o.guard = none) (s x : Operand)
    (ho : o.op = .call { callee := .builtin .append, args := #[s, x], argTypes := #[41, 41] })
    (base : Nat) (v : Value) (k : Nat) (xs : List Value) (hs : a.eval s = v) (hown : w.ownsRow base 5 1 v k xs) (A : Option Addr) (m c : Nat) (zs : List Int) (hx : a.eval x = .slice A m c) (hi : Sl w A m c zs)
    (hm : k + m ≤ 1000000000000) (hb : base ≤ w.heap.size)
    (h : ∀ v' w', w'.ownsRow base 5 1 v' (k + m) (xs ++ zs.map (Value.int .u8)) → w.grownBy w' v.ownBlock → (v'.ownBlock = v.ownBlock ∨ v'.ownBlock = some w.heap.size) → wpList Tryd.prog ops Q rest (a.put o.dst v') w') : wpList Tryd.prog ops Q (o :: rest) a w := by
  obtain ⟨i0, h1, hz0, hz1, hz2⟩ := info_parts Tryd.info_u8
  cases A with
  | none =>
    obtain rfl : c = 0 := hi.nil rfl
    obtain rfl : m = 0 := by have := hi.cap; omega
    have hz : zs = [] := List.length_eq_zero_iff.1 hi.ints.1
    subst hz
    refine wpList_append_own_none hgd s x 41 ho base 5 i0 1 Tryd.underlying41 h1 v k xs hs hown hx ?_
    exact h v w (by simpa using hown) ⟨rfl, rfl, rfl, Nat.le_refl _, fun _ _ _ => rfl⟩ (.inl rfl)
  | some ad =>
    refine wpList_append_own_at w hgd s x 41 ho base 5 i0 (.int .u8 0) 1 1 Tryd.underlying41 h1 hz0 hz1 hz2 rfl (by decide) v k xs hs hown ad m c (zs.map (Value.int .u8)) hx (by have := hi.ints.1; simp; omega) (Ints.news hi.ints) (ints_ok zs) (by unfold maxLen; omega) (by omega) hb ?_
    intro v' w' h2 h3 _ h4
    exact h v' w' h2 h3 h4

theorem slice_of_own {w : World} {base : Nat} {e : TypeId} {size : Nat} {v : Value} {n : Nat} {xs : List Value} (h : w.ownsRow base e size v n xs) : ∃ A c, v = .slice A n c := by
  rcases h.2 with ⟨rfl, rfl⟩ | ⟨g, cap, cur, rfl, _⟩
  · exact ⟨_, _, rfl⟩
  · exact ⟨_, _, rfl⟩

/-- Slices that stand in a row of slices. -/
def Parts (w : World) (P : Nat) (ps : List (Option Addr × Nat × Nat × List Int)) : Prop :=
  ∀ i A n c zs, ps[i]? = some (A, n, c, zs) → w.cell? ⟨P, i, none⟩ = some (.slice A n c) ∧ Sl w A n c zs
/-- All of the first k. -/
def flat (ps : List (Option Addr × Nat × Nat × List Int)) (k : Nat) : List Int := ((ps.take k).map (·.2.2.2)).flatten
theorem flat_succ {ps : List (Option Addr × Nat × Nat × List Int)} {k : Nat} {A : Option Addr} {n c : Nat} {zs : List Int} (h : ps[k]? = some (A, n, c, zs)) : flat ps (k + 1) = flat ps k ++ zs := by
  unfold flat
  rw [List.take_add_one, h]
  simp
theorem flat_le (ps : List (Option Addr × Nat × Nat × List Int)) {k m : Nat} (h : k ≤ m) : (flat ps k).length ≤ (flat ps m).length := by
  induction m with
  | zero => obtain rfl : k = 0 := by omega
            exact Nat.le_refl _
  | succ m ih =>
    rcases Nat.lt_or_ge m k with h' | h'
    · obtain rfl : k = m + 1 := by omega
      exact Nat.le_refl _
    · refine Nat.le_trans (ih h') ?_
      cases hp : ps[m]? with
      | none =>
        have : ps.length ≤ m := List.getElem?_eq_none_iff.1 hp
        unfold flat
        rw [List.take_of_length_le this, List.take_of_length_le (by omega)]
        exact Nat.le_refl _
      | some p =>
        obtain ⟨A, n, c, zs⟩ := p
        rw [flat_succ hp]
        simp

/-- What a writer may turn. -/
def Own2 (b : Nat) (v : Value) : Nat → Prop := fun k => k = b ∨ v.ownBlock = some k

end Cd
end Go.Proofs.YtkblbcdinibncaaDoor
