/-
  The mathematics of what those in a set have: the sum, the least, and steps from set to set. No condition.
-/
import Derived.Test.YtmbodfmdaocppaaAcM2
namespace Go.Proofs.Ytmbodfmdaocppaa
set_option linter.unusedVariables false
set_option linter.unusedSimpArgs false
namespace Ac
/-- What those in the set have, below k. -/
def owL (t : List Int) (m : List Bool) (k : Nat) : List Int := ((List.range k).filter (isb m)).map (tk t)
theorem owL_succ (t : List Int) (m : List Bool) (k : Nat) : owL t m (k + 1) = if isb m k = true then owL t m k ++ [tk t k] else owL t m k := by
  unfold owL
  rw [List.range_succ, List.filter_append, List.map_append]
  by_cases h : isb m k = true
  · rw [if_pos h, List.filter_cons, if_pos h]; rfl
  · rw [if_neg h, List.filter_cons, if_neg h]; simp
theorem owL_pre (t : List Int) (m : List Bool) : ∀ (n k : Nat), k ≤ n → owL t m k <+: owL t m n
  | 0, k, h => by
    obtain rfl : k = 0 := by omega
    exact List.prefix_refl _
  | n + 1, k, h => by
    rcases Nat.lt_or_ge k (n + 1) with h' | h'
    · refine (owL_pre t m n k (by omega)).trans ?_
      rw [owL_succ]
      split
      · exact List.prefix_append _ _
      · exact List.prefix_refl _
    · obtain rfl : k = n + 1 := by omega
      exact List.prefix_refl _
def MX : Int := 18446744073709551615
def su (l : List Int) : Int := if l.sum ≤ 18446744073709551615 then l.sum else 18446744073709551615
def flS (s : Int × Bool) (x : Int) : Int × Bool := if s.2 = false ∨ x < s.1 then (x, true) else s
def flo (l : List Int) : Int × Bool := l.foldl flS (0, false)
def Wds (t : List Int) : Prop := ∀ i, 0 ≤ tk t i ∧ tk t i ≤ 18446744073709551615
theorem owL_w {t : List Int} {m : List Bool} (h : Wds t) : ∀ k, ∀ x ∈ owL t m k, 0 ≤ x ∧ x ≤ 18446744073709551615 := fun k x hx => by
  obtain ⟨i, _, rfl⟩ := List.mem_map.1 hx
  exact h i
theorem sum_nonneg : ∀ {l : List Int}, (∀ x ∈ l, 0 ≤ x) → 0 ≤ l.sum
  | [], _ => by simp
  | x :: l, h => by
    rw [List.sum_cons]
    have := sum_nonneg (l := l) (fun y hy => h y (by simp [hy]))
    have := h x (by simp)
    omega
theorem su_stop {l pre : List Int} (h : ∀ x ∈ l, 0 ≤ x) (hp : pre <+: l) (hs : 18446744073709551615 < pre.sum) : su l = 18446744073709551615 := by
  obtain ⟨r, rfl⟩ := hp
  unfold su
  have h1 := sum_nonneg (l := r) (fun y hy => h y (by simp [hy]))
  rw [List.sum_append]
  rw [if_neg (by omega)]
theorem su_ok {l : List Int} (hs : l.sum ≤ 18446744073709551615) : su l = l.sum := if_pos hs
theorem foldl_snoc (l : List Int) (x : Int) : flo (l ++ [x]) = flS (flo l) x := by unfold flo; rw [List.foldl_append]; rfl
theorem flo_w : ∀ {l : List Int}, (∀ x ∈ l, 0 ≤ x ∧ x ≤ 18446744073709551615) → 0 ≤ (flo l).1 ∧ (flo l).1 ≤ 18446744073709551615 := fun {l} => by
  suffices h : ∀ (l : List Int) (s : Int × Bool), 0 ≤ s.1 ∧ s.1 ≤ 18446744073709551615 → (∀ x ∈ l, 0 ≤ x ∧ x ≤ 18446744073709551615) → 0 ≤ (l.foldl flS s).1 ∧ (l.foldl flS s).1 ≤ 18446744073709551615 from h l (0, false) (by decide)
  intro l
  induction l with
  | nil => intro s h _; exact h
  | cons x l ih =>
    intro s h hl
    refine ih _ ?_ (fun y hy => hl y (by simp [hy]))
    unfold flS
    split
    · exact hl x (by simp)
    · exact h
/-- Who comes in, who goes out. -/
def dfL (p q : Nat → Bool) (k : Nat) : List Nat := (List.range k).filter fun i => p i && !q i
theorem dfL_succ (p q : Nat → Bool) (k : Nat) : dfL p q (k + 1) = if (p k && !q k) = true then dfL p q k ++ [k] else dfL p q k := by
  unfold dfL
  rw [List.range_succ, List.filter_append]
  by_cases h : (p k && !q k) = true
  · rw [if_pos h, List.filter_cons, if_pos h]; rfl
  · rw [if_neg h, List.filter_cons, if_neg h]; simp
theorem dfL_len (p q : Nat → Bool) (k : Nat) : (dfL p q k).length ≤ k := by
  unfold dfL
  exact Nat.le_trans (List.length_filter_le _ _) (by simp)
end Ac
end Go.Proofs.Ytmbodfmdaocppaa
