/-
  What the document says of epochs and of maturity, as plain arithmetic of what layer 8's calls answer. No walk. Conditions: the eleven numbers are of their kinds.
-/
import Derived.Test.YtlhahjpjlahdiaaPR
namespace Go.Proofs.Ytlhahjpjlahdiaa
open Go.RowKit Go.Shelf
set_option linter.unusedVariables false
namespace Pd
open Kk Pm

theorem div_in {a l : Int} (hl : 1 ≤ l) : a / l * l ≤ a ∧ a < a / l * l + l := by
  have h1 := Int.mul_ediv_add_emod a l
  have h2 := Int.emod_nonneg a (show l ≠ 0 by omega)
  have h3 := Int.emod_lt_of_pos a (show 0 < l by omega)
  rw [Int.mul_comm l] at h1
  omega
theorem mul_mono {a b l : Int} (hl : 0 ≤ l) (h : a ≤ b) : a * l ≤ b * l := Int.mul_le_mul_of_nonneg_right h hl
theorem succ_mul (a l : Int) : (a + 1) * l = a * l + l := by rw [Int.add_mul, Int.one_mul]
theorem next_div {h l : Int} (hl : 1 ≤ l) : (h - 1) / l ≤ h / l ∧ h / l ≤ (h - 1) / l + 1 := by
  obtain ⟨a1, a2⟩ := div_in (a := h - 1) hl
  obtain ⟨b1, b2⟩ := div_in (a := h) hl
  constructor
  · apply Int.le_of_not_gt
    intro hc
    have := mul_mono (l := l) (by omega) (show h / l + 1 ≤ (h - 1) / l by omega)
    rw [succ_mul] at this
    omega
  · apply Int.le_of_not_gt
    intro hc
    have := mul_mono (l := l) (by omega) (show (h - 1) / l + 1 + 1 ≤ h / l by omega)
    rw [succ_mul, succ_mul] at this
    omega
/-- Of a height whose epoch is told. -/
structure EpF (x : Nat → Int) (h n : Int) : Prop where
  n0 : 0 ≤ n
  n1 : n ≤ 4294967296
  h1 : 1 ≤ h
  h2 : h ≤ 4294967296
  ok : eF x n = 0
  fi : fiN x n ≤ h
  la : h ≤ laN x n
  other : ∀ e, eF x e = 0 → e ≠ n → fiN x e ≤ laN x e ∧ ¬ (fiN x e ≤ h ∧ h ≤ laN x e)
  next : h ≠ 4294967296 → e1 x (h + 1) = 0
  low0 : 0 ≤ lowN x h
  low1 : lowN x h ≤ n
  low2 : h ≠ 4294967296 → lowN x h ≤ lowN x (h + 1) ∧ lowN x (h + 1) ≤ lowN x h + 1
  fl0 : 1 ≤ flN x h
  fl1 : flN x h ≤ h
  fl2 : h ≠ 4294967296 → flN x h ≤ flN x (h + 1) ∧ flN x (h + 1) ≤ flN x h + 1
theorem epF {x : Nat → Int} (hx : Kinds x) {h : Int} (hq : e1 x h = 0) : EpF x h (epN x h) := by
  obtain ⟨hc, h1, h2⟩ := e1_zero hq
  have hf := fit_of hx hc
  have hn : epN x h = (h - 1) / x 2 := if_pos hq
  obtain ⟨a1, a2⟩ := div_in (a := h - 1) hf.len.1
  have q1 : 0 ≤ (h - 1) / x 2 := Int.ediv_nonneg (by omega) (by have := hf.len; omega)
  have q2 : (h - 1) / x 2 ≤ h - 1 := Int.ediv_le_self _ (by omega)
  rw [← hn] at a1 a2 q1 q2
  have hl := hf.len
  have hm := hf.win
  have z0 : 0 ≤ epN x h * x 2 := Int.mul_nonneg q1 (by omega)
  have hw : eF x (epN x h) = 0 := by
    rw [eF_in hc q1 (by omega)]
    unfold wi
    rw [if_pos (by omega)]
  have hfi : fiN x (epN x h) = epN x h * x 2 + 1 := if_pos hw
  have hla : laN x (epN x h) = min (epN x h * x 2 + x 2) 4294967296 := by
    rw [← succ_mul]
    exact if_pos hw
  have hlow : lowN x h = max (epN x h - x 3 + 1) 0 := by
    rw [hn]
    exact if_pos hq
  have hfl : flN x h = max (h - x 3 * x 2 + 1) 1 := if_pos hq
  have k0 : 1 ≤ x 3 * x 2 := Int.mul_pos (by omega) (by omega)
  have hnx : h ≠ 4294967296 → e1 x (h + 1) = 0 := fun hne => e1_ok hc (by omega) (by omega)
  refine ⟨q1, by omega, h1, h2, hw, by omega, by omega, ?_, hnx, by omega, by omega, ?_, by omega, by omega, ?_⟩
  · intro e he hne
    obtain ⟨_, e1, e2, e3, e4⟩ := eF_ok he
    have hfe : fiN x e = e * x 2 + 1 := if_pos he
    have hle : laN x e = min (e * x 2 + x 2) 4294967296 := by
      rw [← succ_mul]
      exact if_pos he
    refine ⟨by omega, fun ⟨c1, c2⟩ => ?_⟩
    rcases Int.lt_or_gt_of_ne hne with hlt | hgt
    · have := mul_mono (l := x 2) (by omega) (show e + 1 ≤ epN x h by omega)
      rw [succ_mul] at this
      omega
    · have := mul_mono (l := x 2) (by omega) (show epN x h + 1 ≤ e by omega)
      rw [succ_mul] at this
      omega
  · intro hne
    have hlow2 : lowN x (h + 1) = max (h / x 2 - x 3 + 1) 0 := by
      have this : lowN x (h + 1) = max ((h + 1 - 1) / x 2 - x 3 + 1) 0 := if_pos (hnx hne)
      rwa [show h + 1 - 1 = h by omega] at this
    have hd := next_div (h := h) hl.1
    rw [← hn] at hd
    omega
  · intro hne
    have hfl2 : flN x (h + 1) = max (h + 1 - x 3 * x 2 + 1) 1 := if_pos (hnx hne)
    omega

/-- Of two heights. -/
theorem ag_zero {x : Nat → Int} {g h : Int} (ha : agN x g h = 0) : ce x = 0 ∧ 1 ≤ g ∧ g ≤ h ∧ h ≤ 4294967296 ∧ h - g ≤ x 1 := by
  unfold agN at ha
  by_cases h0 : e2 x g h = 0
  · rw [if_pos h0] at ha
    obtain ⟨h1, h2, h3, h4, h5⟩ := e2_zero h0
    by_cases h6 : g > h
    · rw [if_pos h6] at ha
      omega
    · rw [if_neg h6] at ha
      by_cases h7 : h - g > x 1
      · rw [if_pos h7] at ha
        omega
      · exact ⟨h1, h2, by omega, h5, by omega⟩
  · rw [if_neg h0] at ha
    exact absurd ha h0
theorem ag_bad {x : Nat → Int} {g h : Int} (hc : ce x ≠ 0) : agN x g h = ce x := by
  have h2 : e2 x g h = ce x := er_bad hc
  unfold agN
  rw [h2, if_neg hc]
/-- What is not too old: nothing that was done there, or behind it, was ripe a block ago; a lot that came there has its past. -/
theorem not_ripe {x : Nat → Int} (hx : Kinds x) {g h c : Int} (ha : agN x g h = 0) (hc : g ≤ c) (hch : c ≤ h) (hh : 1 < h) : ripB x c (h - 1) = false ∧ e2 x c (h - 1) = 0 := by
  obtain ⟨h1, h2, h3, h4, h5⟩ := ag_zero ha
  have hf := fit_of hx h1
  have he : e2 x c (h - 1) = 0 := e2_ok h1 (by omega) (by omega) (by omega) (by omega)
  refine ⟨?_, he⟩
  unfold ripB
  rw [he, decide_eq_false (show ¬ (h - 1 - c ≥ x 0) by have := hf.age; omega)]
  rfl
theorem has_past {x : Nat → Int} (hx : Kinds x) {g h c : Int} (ha : agN x g h = 0) (hc : g ≤ c) (hch : c ≤ h) : aliB x c h = true ∧ e2 x c h = 0 := by
  obtain ⟨h1, h2, h3, h4, h5⟩ := ag_zero ha
  have hf := fit_of hx h1
  have he : e2 x c h = 0 := e2_ok h1 (by omega) (by omega) (by omega) (by omega)
  refine ⟨?_, he⟩
  unfold aliB
  rw [he, decide_eq_true (show h - c ≤ x 0 by have := hf.age; omega)]
  rfl
theorem wi_b (h : Int) : wi h = 0 ∨ wi h = 3 := by
  rcases wi_cases h with k | k
  · exact .inl k.1
  · exact .inr k.1
theorem e2_b (x : Nat → Int) (c h : Int) : 0 ≤ e2 x c h ∧ e2 x c h ≤ 9 := by
  unfold e2
  by_cases h0 : ce x = 0
  · rw [er_rest h0]
    have a := wi_b c
    have b := wi_b h
    simp only [fo]
    split
    · split <;> omega
    · omega
  · rw [er_bad h0]
    have := ce_b x
    omega
/-- What yes answers of Ripe: 1 just if it is ripe. -/
theorem ye_ripe {x : Nat → Int} {g h : Int} (hy : ye (ripB x g h) (e2 x g h) = 1) : e2 x g h = 0 ∧ ripB x g h = true := by
  unfold ye at hy
  by_cases h0 : e2 x g h = 0
  · refine ⟨h0, ?_⟩
    rw [if_pos h0] at hy
    by_cases hb : ripB x g h = true
    · exact hb
    · rw [if_neg hb] at hy
      exact absurd hy (by decide)
  · rw [if_neg h0] at hy
    have hb := e2_b x g h
    omega
theorem stays {x : Nat → Int} (hx : Kinds x) {g h : Int} (h0 : e2 x g h = 0) (hb : ripB x g h = true) (hh : h < 4294967296) : e2 x g (h + 1) = 0 ∧ ripB x g (h + 1) = true ∧ aliB x g (h + 1) = false := by
  obtain ⟨h1, h2, h3, h4, h5⟩ := e2_zero h0
  have he : e2 x g (h + 1) = 0 := e2_ok h1 h2 h3 (by omega) (by omega)
  unfold ripB at hb
  rw [h0] at hb
  have hb2 : h - g ≥ x 0 := by simpa using hb
  refine ⟨he, ?_, ?_⟩
  · unfold ripB
    rw [he, decide_eq_true (show h + 1 - g ≥ x 0 by omega)]
    rfl
  · unfold aliB
    rw [he, decide_eq_false (show ¬ (h + 1 - g ≤ x 0) by omega)]
    rfl
end Pd
end Go.Proofs.Ytlhahjpjlahdiaa
