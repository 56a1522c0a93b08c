/-
  The mathematics of taking the richest out of a bag, one after the other. No condition.
-/
import Derived.Test.YtmbodfmdaocppaaAcM
namespace Go.Proofs.Ytmbodfmdaocppaa
set_option linter.unusedVariables false
set_option linter.unusedSimpArgs false
namespace Ac
/-- What was taken so far: the k-th one has k ahead of it, and is richer than all that are left. -/
structure Tkn (t : List Int) (m : List Bool) (r : List Nat) : Prop where
  at_ : ∀ k x, r[k]? = some x → cn t m x = true ∧ ah t m x = k
  sep : ∀ x, x ∈ r → ∀ y, cn t m y = true → ¬ y ∈ r → rich t x y = true
/-- What is left. -/
def Left (t : List Int) (m : List Bool) (r : List Nat) (x : Nat) : Prop := cn t m x = true ∧ ¬ x ∈ r
theorem Tkn.nil_ (t : List Int) (m : List Bool) : Tkn t m [] := ⟨fun k x h => by simp at h, fun x h => by cases h⟩
theorem Tkn.nd {t : List Int} {m : List Bool} {r : List Nat} (h : Tkn t m r) : r.Nodup := by
  refine List.pairwise_iff_getElem.2 fun i j hi hj hij e => ?_
  have h1 := (h.at_ i _ (List.getElem?_eq_getElem hi)).2
  have h2 := (h.at_ j _ (List.getElem?_eq_getElem hj)).2
  rw [e] at h1
  omega
theorem Tkn.next {t : List Int} {m : List Bool} {r : List Nat} {f : Nat → Nat} {n : Nat} (h : Tkn t m r) (hB : Bag (Left t m r) f (n + 1)) (hH : Heap t f (n + 1)) : Tkn t m (r ++ [f 0]) ∧ (∀ x, (Left t m r x ∧ x ≠ f 0) ↔ Left t m (r ++ [f 0]) x) ∧ cn t m (f 0) = true := by
  obtain ⟨h1, h2⟩ := (hB.mem (f 0)).2 ⟨0, by omega, rfl⟩
  have top : ∀ y, cn t m y = true → ¬ y ∈ r → rich t y (f 0) = false := fun y hy hn => by
    obtain ⟨k, hk, rfl⟩ := (hB.mem y).1 ⟨hy, hn⟩
    exact hH.top k hk
  have hah : ah t m (f 0) = r.length := by
    refine cnt_list h.nd (fun x hx => ?_) (fun k hk => ?_)
    · obtain ⟨i, hi, rfl⟩ := List.getElem_of_mem hx
      exact cn_all (h.at_ i _ (List.getElem?_eq_getElem hi)).1
    · rw [Bool.and_eq_true]
      constructor
      · rintro ⟨q1, q2⟩
        refine Decidable.byContradiction fun hn => ?_
        rw [top k q1 hn] at q2; cases q2
      · intro hk
        obtain ⟨i, hi, rfl⟩ := List.getElem_of_mem hk
        exact ⟨(h.at_ i _ (List.getElem?_eq_getElem hi)).1, h.sep _ hk _ h1 h2⟩
  refine ⟨⟨fun k x hx => ?_, fun x hx y hy hn => ?_⟩, fun x => ?_, h1⟩
  · rcases Nat.lt_or_ge k r.length with hl | hl
    · rw [List.getElem?_append_left hl] at hx
      exact h.at_ k x hx
    · rw [List.getElem?_append_right hl] at hx
      have hk : k - r.length = 0 := by have := (List.getElem?_eq_some_iff.1 hx).1; simp at this; omega
      rw [hk] at hx
      simp at hx
      subst hx
      exact ⟨h1, by omega⟩
  · rw [List.mem_append, List.mem_singleton] at hn
    rcases List.mem_append.1 hx with hx | hx
    · exact h.sep x hx y hy (fun e => hn (.inl e))
    · rw [List.mem_singleton] at hx
      subst hx
      exact rich_tri (fun e => hn (.inr e)) (top y hy (fun e => hn (.inl e)))
  · unfold Left
    rw [List.mem_append, List.mem_singleton]
    constructor
    · rintro ⟨⟨q1, q2⟩, q3⟩
      exact ⟨q1, fun e => e.elim q2 q3⟩
    · rintro ⟨q1, q2⟩
      exact ⟨⟨q1, fun e => q2 (.inl e)⟩, fun e => q2 (.inr e)⟩
theorem Bag.congr {S S' : Nat → Prop} {f : Nat → Nat} {n : Nat} (h : Bag S f n) (hs : ∀ x, S x ↔ S' x) : Bag S' f n := ⟨h.inj, fun v => (hs v).symm.trans (h.mem v)⟩
theorem Tkn.done {t : List Int} {m : List Bool} {r : List Nat} {f : Nat → Nat} (h : Tkn t m r) (hB : Bag (Left t m r) f 0) : rk t m = r :=
  rk_of h.at_ fun x hx => Decidable.byContradiction fun hn => by
    obtain ⟨k, hk, _⟩ := (hB.mem x).1 ⟨hx, hn⟩
    omega
theorem bag_ct {t : List Int} {m : List Bool} {f : Nat → Nat} {n : Nat} (hB : Bag (fun x => cn t m x = true) f n) : ct t m = n := by
  have h1 : ((List.range n).map f).Nodup := by
    refine List.pairwise_map.2 (List.Pairwise.imp_of_mem (R := (· ≠ ·)) ?_ List.nodup_range)
    intro a b ha hb hab e
    exact hab (hB.inj a b (List.mem_range.1 ha) (List.mem_range.1 hb) e)
  have h2 := cnt_list (p := cn t m) (n := all t m) h1 (fun x hx => by
    obtain ⟨k, hk, rfl⟩ := List.mem_map.1 hx
    exact cn_all ((hB.mem _).2 ⟨k, List.mem_range.1 hk, rfl⟩)) (fun k hk => by
    rw [List.mem_map]
    constructor
    · intro h
      obtain ⟨j, hj, e⟩ := (hB.mem k).1 h
      exact ⟨j, List.mem_range.2 hj, e⟩
    · rintro ⟨j, hj, rfl⟩
      exact (hB.mem _).2 ⟨j, List.mem_range.1 hj, rfl⟩)
  rw [show ct t m = cnt (cn t m) (all t m) from rfl, h2]
  simp
/-- Who is in, when these are. -/
def inL (r : List Nat) (n : Nat) : List Bool := (List.range n).map fun i => decide (i ∈ r)
theorem inL_len (r : List Nat) (n : Nat) : (inL r n).length = n := by simp [inL]
theorem inL_at (r : List Nat) {n i : Nat} (h : i < n) : (inL r n)[i]? = some (decide (i ∈ r)) := by
  unfold inL
  rw [List.getElem?_map, List.getElem?_range h]; rfl
theorem inL_nil (n : Nat) : inL [] n = List.replicate n false := by
  unfold inL
  refine List.ext_getElem? fun i => ?_
  rw [List.getElem?_map, List.getElem?_replicate]
  by_cases h : i < n
  · rw [List.getElem?_range h, if_pos h]; simp
  · rw [List.getElem?_eq_none (by simp; omega), if_neg h]; rfl
theorem inL_set (r : List Nat) {n x : Nat} (h : x < n) : (inL r n).set x true = inL (r ++ [x]) n := by
  refine List.ext_getElem? fun i => ?_
  rw [List.getElem?_set]
  by_cases hi : i < n
  · rw [inL_at _ hi, inL_at _ hi]
    by_cases hx : x = i
    · subst hx
      rw [if_pos rfl, if_pos (by rw [inL_len]; exact h)]
      simp
    · rw [if_neg hx]
      have : (i ∈ r ++ [x]) ↔ i ∈ r := by
        rw [List.mem_append, List.mem_singleton]
        exact ⟨fun h => h.elim id (fun e => absurd e.symm hx), .inl⟩
      simp only [this]
  · rw [if_neg (by omega), List.getElem?_eq_none (by rw [inL_len]; omega), List.getElem?_eq_none (by rw [inL_len]; omega)]
/-- As many as may be were taken: the answer. -/
theorem Tkn.ch {t : List Int} {m : List Bool} {r : List Nat} {most : Int} (h : Tkn t m r) (hl : (r.length : Int) = max (min most (ct t m)) 0) : ch t m most = inL r (all t m) := by
  unfold Ac.ch inL
  refine List.map_congr_left fun i hi => ?_
  rw [Bool.eq_iff_iff, Bool.and_eq_true, decide_eq_true_iff, decide_eq_true_iff]
  constructor
  · rintro ⟨h1, h2⟩
    have h3 := ah_ct h1
    have hlt : ah t m i < r.length := by omega
    have h4 := h.at_ (ah t m i) _ (List.getElem?_eq_getElem hlt)
    have h5 := ah_inj h1 h4.1 h4.2.symm
    rw [h5]
    exact List.getElem_mem hlt
  · intro hx
    obtain ⟨k, hk, e⟩ := List.getElem_of_mem hx
    have h4 := h.at_ k i (by rw [List.getElem?_eq_getElem hk, e])
    have h3 := ah_ct h4.1
    exact ⟨h4.1, by omega⟩
end Ac
end Go.Proofs.Ytmbodfmdaocppaa
