/-
  The mathematics of quorums: what those in a set have is not less than so many times the least. No condition.
-/
import Derived.Test.YtmbodfmdaocppaaAcM4
namespace Go.Proofs.Ytmbodfmdaocppaa
set_option linter.unusedVariables false
set_option linter.unusedSimpArgs false
namespace Ac
theorem flo_snd : ∀ l : List Int, (flo l).2 = decide (0 < l.length) := fun l => by
  suffices h : ∀ (l : List Int) (s : Int × Bool), (l.foldl flS s).2 = (s.2 || decide (0 < l.length)) from by
    have := h l (0, false)
    simpa [flo] using this
  intro l
  induction l with
  | nil => intro s; simp
  | cons x l ih =>
    intro s
    rw [List.foldl_cons, ih]
    unfold flS
    split
    · simp
    · rename_i h
      have : s.2 = true := by
        cases hs : s.2 with
        | true => rfl
        | false => exact absurd (.inl hs) h
      simp [this]
theorem flo_min : ∀ l : List Int, ∀ x ∈ l, (flo l).1 ≤ x := fun l => by
  suffices h : ∀ (l : List Int) (s : Int × Bool), (s.2 = true → (l.foldl flS s).1 ≤ s.1) ∧ ∀ x ∈ l, (l.foldl flS s).1 ≤ x from (h l (0, false)).2
  intro l
  induction l with
  | nil => intro s; exact ⟨fun _ => Int.le_refl _, fun x h => by cases h⟩
  | cons y l ih =>
    intro s
    rw [List.foldl_cons]
    by_cases h : s.2 = false ∨ y < s.1
    · have e : flS s y = (y, true) := if_pos h
      obtain ⟨h1, h2⟩ := ih (flS s y)
      rw [e] at h1 h2 ⊢
      refine ⟨fun hs => ?_, fun x hx => ?_⟩
      · have := h1 rfl
        rcases h with h | h
        · rw [hs] at h; cases h
        · exact Int.le_trans this (Int.le_of_lt h)
      · rcases List.mem_cons.1 hx with rfl | hx
        · exact h1 rfl
        · exact h2 x hx
    · have e : flS s y = s := if_neg h
      obtain ⟨h1, h2⟩ := ih (flS s y)
      rw [e] at h1 h2 ⊢
      have hs : s.2 = true := by
        cases hs : s.2 with
        | true => rfl
        | false => exact absurd (.inl hs) h
      refine ⟨h1, fun x hx => ?_⟩
      rcases List.mem_cons.1 hx with rfl | hx
      · have := h1 hs
        have : ¬ x < s.1 := fun k => h (.inr k)
        omega
      · exact h2 x hx
theorem sum_ge : ∀ {l : List Int} {c : Int}, (∀ x ∈ l, c ≤ x) → (l.length : Int) * c ≤ l.sum
  | [], c, _ => by simp
  | x :: l, c, h => by
    have h1 := sum_ge (l := l) (c := c) (fun y hy => h y (by simp [hy]))
    have h2 := h x (by simp)
    rw [List.length_cons, List.sum_cons, show ((l.length + 1 : Nat) : Int) * c = (l.length : Int) * c + c by rw [Int.natCast_add, Int.add_mul]; simp]
    omega
theorem sum_le : ∀ {l : List Int} {c : Int}, (∀ x ∈ l, x ≤ c) → l.sum ≤ (l.length : Int) * c
  | [], c, _ => by simp
  | x :: l, c, h => by
    have h1 := sum_le (l := l) (c := c) (fun y hy => h y (by simp [hy]))
    have h2 := h x (by simp)
    rw [List.length_cons, List.sum_cons, show ((l.length + 1 : Nat) : Int) * c = (l.length : Int) * c + c by rw [Int.natCast_add, Int.add_mul]; simp]
    omega
theorem owL_len (t : List Int) (m : List Bool) : ∀ k, (owL t m k).length = cnt (isb m) k
  | 0 => rfl
  | k + 1 => by
    rw [owL_succ]
    show _ = cnt (isb m) k + if isb m k = true then 1 else 0
    rw [← owL_len t m k]
    by_cases h : isb m k = true
    · rw [if_pos h, if_pos h]; simp
    · rw [if_neg h, if_neg h]; rfl
/-- What is left of an amount. -/
def sml (t : List Int) : List Int := t.map fun x => x % 1125899906842624
theorem sml_len (t : List Int) : (sml t).length = t.length := by simp [sml]
theorem sml_tk (t : List Int) (i : Nat) : 0 ≤ tk (sml t) i ∧ tk (sml t) i < 1125899906842624 := by
  unfold tk sml
  rw [List.getD_eq_getElem?_getD, List.getElem?_map]
  cases t[i]? with
  | none => exact ⟨by decide, by decide⟩
  | some x =>
    show 0 ≤ x % 1125899906842624 ∧ x % 1125899906842624 < 1125899906842624
    omega
/-- All that the law asks of the amounts. -/
theorem quorum_sum (t : List Int) (m : List Bool) (k : Nat) (hk : k ≤ 30) : ∃ (l : List Int), owL (sml t) m k = l ∧ l.length = cnt (isb m) k ∧ (flo l).2 = decide (0 < cnt (isb m) k) ∧ su l = l.sum ∧ (cnt (isb m) k : Int) * (flo l).1 ≤ l.sum ∧ l.sum ≤ 33776997205278720 ∧ 0 ≤ (flo l).1 ∧ 0 ≤ (cnt (isb m) k : Int) * (flo l).1 := by
  refine ⟨_, rfl, owL_len _ _ _, ?_, ?_, ?_, ?_, ?_⟩
  · rw [flo_snd, owL_len]
  · refine su_ok ?_
    have h1 := sum_le (l := owL (sml t) m k) (c := 1125899906842624) (fun x hx => by
      obtain ⟨i, _, rfl⟩ := List.mem_map.1 hx
      have := sml_tk t i
      omega)
    rw [owL_len] at h1
    have h2 := cnt_le (isb m) k
    omega
  · have h1 := sum_ge (flo_min (owL (sml t) m k))
    rwa [owL_len] at h1
  · have h1 := sum_le (l := owL (sml t) m k) (c := 1125899906842624) (fun x hx => by
      obtain ⟨i, _, rfl⟩ := List.mem_map.1 hx
      have := sml_tk t i
      omega)
    rw [owL_len] at h1
    have h2 := cnt_le (isb m) k
    omega
  · have h := (flo_w (l := owL (sml t) m k) (fun x hx => by
      obtain ⟨i, _, rfl⟩ := List.mem_map.1 hx
      have := sml_tk t i
      omega)).1
    exact ⟨h, Int.mul_nonneg (by omega) h⟩
end Ac
end Go.Proofs.Ytmbodfmdaocppaa
