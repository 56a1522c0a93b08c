/-
  The mathematics of staying in: whoever gets more stays in; by steps one comes from one set to the next. No condition.
-/
import Derived.Test.YtmbodfmdaocppaaAcM5
namespace Go.Proofs.Ytmbodfmdaocppaa
set_option linter.unusedVariables false
set_option linter.unusedSimpArgs false
namespace Ac
theorem stay {t t' : List Int} {m m' : List Bool} {most : Int} {u : Nat} (hl : all t' m' = all t m) (hk : ∀ k, k ≠ u → tk t' k = tk t k) (hy : tk t u ≤ tk t' u) (hm : ∀ k, isb m' k = true → isb m k = true) (hmu : isb m' u = isb m u)
    (h : (cn t m u && decide ((ah t m u : Int) < most)) = true) : (cn t' m' u && decide ((ah t' m' u : Int) < most)) = true := by
  rw [Bool.and_eq_true, decide_eq_true_iff] at h ⊢
  refine ⟨?_, ?_⟩
  · have h1 := h.1
    unfold cn at h1 ⊢
    rw [Bool.and_eq_true, decide_eq_true_iff] at h1 ⊢
    exact ⟨by rw [hmu]; exact h1.1, by omega⟩
  · have h2 : ah t' m' u ≤ ah t m u := by
      unfold ah
      rw [hl]
      refine cnt_mono fun k _ hk' => ?_
      rw [Bool.and_eq_true] at hk' ⊢
      have hku : k ≠ u := fun e => by
        rw [e, rich_irr] at hk'
        exact absurd hk'.2 (by decide)
      refine ⟨?_, ?_⟩
      · have h3 := hk'.1
        unfold cn at h3 ⊢
        rw [Bool.and_eq_true, decide_eq_true_iff] at h3 ⊢
        rw [hk k hku] at h3
        exact ⟨hm k h3.1, h3.2⟩
      · have h3 := hk'.2
        rw [rich_t, hk k hku] at h3
        rw [rich_t]
        omega
    omega
/-- A list with some set. -/
def bkA (c : Nat → Bool) (L : List Nat) (N : Nat) : List Bool := (List.range N).map fun i => c i || decide (i ∈ L)
def bkB (c : Nat → Bool) (L : List Nat) (N : Nat) : List Bool := (List.range N).map fun i => c i && !decide (i ∈ L)
theorem bkA_len (c : Nat → Bool) (L : List Nat) (N : Nat) : (bkA c L N).length = N := by simp [bkA]
theorem bkB_len (c : Nat → Bool) (L : List Nat) (N : Nat) : (bkB c L N).length = N := by simp [bkB]
theorem bkA_at (c : Nat → Bool) (L : List Nat) {N i : Nat} (h : i < N) : (bkA c L N)[i]? = some (c i || decide (i ∈ L)) := by
  unfold bkA; rw [List.getElem?_map, List.getElem?_range h]; rfl
theorem bkB_at (c : Nat → Bool) (L : List Nat) {N i : Nat} (h : i < N) : (bkB c L N)[i]? = some (c i && !decide (i ∈ L)) := by
  unfold bkB; rw [List.getElem?_map, List.getElem?_range h]; rfl
theorem mem_snoc {L : List Nat} {x i : Nat} (h : ¬ x = i) : (i ∈ L ++ [x]) ↔ i ∈ L := by
  rw [List.mem_append, List.mem_singleton]
  exact ⟨fun k => k.elim id (fun e => absurd e.symm h), .inl⟩
theorem bkA_set (c : Nat → Bool) (L : List Nat) {N x : Nat} (h : x < N) : (bkA c L N).set x true = bkA c (L ++ [x]) N := by
  refine List.ext_getElem? fun i => ?_
  rw [List.getElem?_set]
  by_cases hi : i < N
  · rw [bkA_at _ _ hi, bkA_at _ _ hi]
    by_cases hx : x = i
    · subst hx
      rw [if_pos rfl, if_pos (by rw [bkA_len]; exact h)]
      simp
    · rw [if_neg hx]
      simp only [mem_snoc hx]
  · rw [if_neg (by omega), List.getElem?_eq_none (by rw [bkA_len]; omega), List.getElem?_eq_none (by rw [bkA_len]; omega)]
theorem bkB_set (c : Nat → Bool) (L : List Nat) {N x : Nat} (h : x < N) : (bkB c L N).set x false = bkB c (L ++ [x]) N := by
  refine List.ext_getElem? fun i => ?_
  rw [List.getElem?_set]
  by_cases hi : i < N
  · rw [bkB_at _ _ hi, bkB_at _ _ hi]
    by_cases hx : x = i
    · subst hx
      rw [if_pos rfl, if_pos (by rw [bkB_len]; exact h)]
      simp
    · rw [if_neg hx]
      simp only [mem_snoc hx]
  · rw [if_neg (by omega), List.getElem?_eq_none (by rw [bkB_len]; omega), List.getElem?_eq_none (by rw [bkB_len]; omega)]
theorem isb_all (C : List Bool) {N : Nat} (h : C.length = N) : C = bkA (isb C) [] N := by
  refine List.ext_getElem? fun i => ?_
  by_cases hi : i < N
  · rw [bkA_at _ _ hi]
    unfold isb
    rw [List.getD_eq_getElem?_getD, List.getElem?_eq_getElem (by omega)]
    simp
  · rw [List.getElem?_eq_none (by omega), List.getElem?_eq_none (by rw [bkA_len]; omega)]
theorem dfL_mem {p q : Nat → Bool} {N x : Nat} : x ∈ dfL p q N ↔ x < N ∧ p x = true ∧ q x = false := by
  unfold dfL
  rw [List.mem_filter, List.mem_range, Bool.and_eq_true, Bool.not_eq_true']
theorem dfL_at {p q : Nat → Bool} {N k x : Nat} (h : (dfL p q N)[k]? = some x) : (x < N ∧ p x = true ∧ q x = false) ∧ ¬ x ∈ (dfL p q N).take k := by
  refine ⟨dfL_mem.1 (List.mem_of_getElem? h), fun hm => ?_⟩
  have hd : (dfL p q N).Nodup := by
    unfold dfL
    exact List.Pairwise.filter _ List.nodup_range
  obtain ⟨j, hj, e⟩ := List.getElem_of_mem hm
  rw [List.length_take] at hj
  rw [List.getElem_take] at e
  obtain ⟨hk, e2⟩ := List.getElem?_eq_some_iff.1 h
  have := List.pairwise_iff_getElem.1 hd j k (by omega) hk (by omega)
  exact this (e.trans e2.symm)
theorem back_mid (C W : Nat → Bool) (N : Nat) : bkA C (dfL W C N) N = bkB (fun i => C i || W i) [] N := by
  unfold bkA bkB
  refine List.map_congr_left fun i hi => ?_
  have hi := List.mem_range.1 hi
  have : (i ∈ dfL W C N) ↔ (W i = true ∧ C i = false) := by rw [dfL_mem]; simp [hi]
  simp only [this]
  cases C i <;> cases W i <;> simp
theorem back_end (C : Nat → Bool) (W : List Bool) {N : Nat} (h : W.length = N) : bkB (fun i => C i || isb W i) (dfL C (isb W) N) N = W := by
  refine Eq.trans ?_ (isb_all W h).symm
  unfold bkA bkB
  refine List.map_congr_left fun i hi => ?_
  have hi := List.mem_range.1 hi
  have : (i ∈ dfL C (isb W) N) ↔ (C i = true ∧ isb W i = false) := by rw [dfL_mem]; simp [hi]
  simp only [this]
  cases C i <;> cases isb W i <;> simp
theorem tk_set {t : List Int} {u : Nat} {y : Int} (hu : u < t.length) (k : Nat) : tk (t.set u y) k = if k = u then y else tk t k := by
  unfold tk
  rw [List.getD_eq_getElem?_getD, List.getD_eq_getElem?_getD, List.getElem?_set]
  by_cases h : u = k
  · subst h
    rw [if_pos rfl, if_pos hu, if_pos rfl]; rfl
  · rw [if_neg h, if_neg (fun e => h e.symm)]
theorem tk_pad (t : List Int) (n k : Nat) : tk (t ++ List.replicate n 0) k = tk t k := by
  unfold tk
  rw [List.getD_eq_getElem?_getD, List.getD_eq_getElem?_getD]
  rcases Nat.lt_or_ge k t.length with h | h
  · rw [List.getElem?_append_left h]
  · rw [List.getElem?_append_right h, List.getElem?_eq_none h, List.getElem?_replicate]
    split <;> rfl
theorem isb_set {m : List Bool} {d : Nat} (k : Nat) : isb (m.set d false) k = (isb m k && decide (k ≠ d)) := by
  unfold isb
  rw [List.getD_eq_getElem?_getD, List.getD_eq_getElem?_getD, List.getElem?_set]
  by_cases h : d = k
  · subst h
    rw [if_pos rfl]
    split <;> simp
  · rw [if_neg h]
    have : k ≠ d := fun e => h e.symm
    simp [this]
end Ac
end Go.Proofs.Ytmbodfmdaocppaa
