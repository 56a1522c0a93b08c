/-
  The mathematics of ranks: as many are in as count, or most; the k-th of the ranking has k ahead of it. No condition.
-/
import Derived.Test.YtmbodfmdaocppaaAc12
namespace Go.Proofs.Ytmbodfmdaocppaa
set_option linter.unusedVariables false
set_option linter.unusedSimpArgs false
namespace Ac
theorem rkI_mem {t : List Int} {m : List Bool} {n k x : Nat} : x ∈ rkI t m n k ↔ x < k ∧ cn t m x = true ∧ ah t m x = n := by
  unfold rkI
  rw [List.mem_filter, List.mem_range, Bool.and_eq_true, decide_eq_true_iff]
theorem rkI_one (t : List Int) (m : List Bool) (n : Nat) : ∀ k, (rkI t m n k).length ≤ 1
  | 0 => by simp [rkI]
  | k + 1 => by
    rw [rkI_succ]
    split
    · rename_i h
      rw [Bool.and_eq_true, decide_eq_true_iff] at h
      have h0 : rkI t m n k = [] := List.eq_nil_iff_forall_not_mem.2 fun x hx => by
        rw [rkI_mem] at hx
        have := ah_inj hx.2.1 h.1 (by omega)
        omega
      rw [h0]; simp
    · exact rkI_one t m n k
/-- How many have fewer than n ahead. -/
def fw (t : List Int) (m : List Bool) (n : Nat) : Nat := cnt (fun i => cn t m i && decide (ah t m i < n)) (all t m)
theorem fw_succ (t : List Int) (m : List Bool) (n : Nat) : fw t m (n + 1) = fw t m n + (rkI t m n (all t m)).length := by
  unfold fw
  rw [← flat_cnt, ← flat_cnt, rkR_succ, List.length_append]
theorem fw_le (t : List Int) (m : List Bool) (n : Nat) : ∀ d, fw t m (n + d) ≤ fw t m n + d
  | 0 => Nat.le_refl _
  | d + 1 => by
    have h1 := fw_le t m n d
    have h2 := fw_succ t m (n + d)
    have h3 := rkI_one t m (n + d) (all t m)
    show fw t m (n + d + 1) ≤ _
    omega
theorem fw_all {t : List Int} {m : List Bool} {n : Nat} (h : ct t m ≤ n) : fw t m n = ct t m := by
  unfold fw ct
  refine cnt_congr fun k hk => ?_
  cases hc : cn t m k with
  | false => rfl
  | true =>
    have h1 := ah_ct hc
    have h3 : ah t m k < n := by omega
    simp [h3]
theorem fw_0 (t : List Int) (m : List Bool) : fw t m 0 = 0 := by
  unfold fw
  rw [← flat_cnt]; rfl
theorem fw_eq {t : List Int} {m : List Bool} {n : Nat} (h : n ≤ ct t m) : fw t m n = n := by
  have h1 := fw_le t m n (ct t m - n)
  rw [show n + (ct t m - n) = ct t m by omega, fw_all (Nat.le_refl _)] at h1
  have h2 := fw_le t m 0 n
  rw [Nat.zero_add, fw_0] at h2
  omega
theorem rk_at_aux (t : List Int) (m : List Bool) : ∀ n k x, (rkR t m (all t m) n)[k]? = some x → cn t m x = true ∧ ah t m x = k
  | 0, k, x, h => by simp [rkR] at h
  | n + 1, k, x, h => by
    rw [rkR_succ] at h
    rcases Nat.lt_or_ge k (rkR t m (all t m) n).length with h1 | h1
    · rw [List.getElem?_append_left h1] at h
      exact rk_at_aux t m n k x h
    · rw [List.getElem?_append_right h1] at h
      have h2 := List.mem_of_getElem? h
      have h3 := (List.getElem?_eq_some_iff.1 h).1
      have h4 := rkI_one t m n (all t m)
      rw [rkI_mem] at h2
      have h5 := ah_ct h2.2.1
      have h6 : (rkR t m (all t m) n).length = fw t m n := flat_cnt _ _ _ _
      have h7 : fw t m n = n := fw_eq (by omega)
      exact ⟨h2.2.1, by omega⟩
/-- The k-th of the ranking. -/
theorem rk_at {t : List Int} {m : List Bool} {k x : Nat} (h : (rk t m)[k]? = some x) : cn t m x = true ∧ ah t m x = k := rk_at_aux t m _ k x h
theorem isb_ch {t : List Int} {m : List Bool} {most : Int} {i : Nat} (h : i < all t m) : isb (ch t m most) i = (cn t m i && decide ((ah t m i : Int) < most)) := by
  unfold isb ch
  rw [List.getD_eq_getElem?_getD, List.getElem?_map, List.getElem?_range h]; rfl
/-- How many are in. -/
theorem many_in (t : List Int) (m : List Bool) (most : Int) : (cnt (isb (ch t m most)) (all t m) : Int) = min (ct t m : Int) (max most 0) := by
  rw [cnt_congr (q := fun i => cn t m i && decide ((ah t m i : Int) < most)) (fun k hk => isb_ch hk)]
  rcases Int.lt_or_le most 0 with h | h
  · have h0 : cnt (fun i => cn t m i && decide ((ah t m i : Int) < most)) (all t m) = fw t m 0 := cnt_congr fun k hk => by
      have h1 : ¬ ((ah t m k : Int) < most) := by omega
      have h2 : ¬ (ah t m k < 0) := by omega
      simp [h1]
    rw [h0, fw_0]; omega
  · obtain ⟨n, rfl⟩ := Int.eq_ofNat_of_zero_le h
    have h0 : cnt (fun i => cn t m i && decide ((ah t m i : Int) < (n : Int))) (all t m) = fw t m n := cnt_congr fun k hk => by
      simp
    rw [h0]
    rcases Nat.le_total n (ct t m) with h1 | h1
    · rw [fw_eq h1]; omega
    · rw [fw_all h1]; omega
end Ac
end Go.Proofs.Ytmbodfmdaocppaa
