/-
  A record's text is read as the record, and no other text is: no walk. No condition.
-/
import Derived.Test.YtpohcdfmkcfonaaGreatDoorGPs4
namespace Go.Proofs.YtpohcdfmkcfonaaGreatDoor
open Go.RowKit Go.Shelf
set_option linter.unusedVariables false
namespace Pm
open Kk

/-- The lines of a record from the k-th on, n of them. -/
def lns (x : Nat → Int) : Nat → Nat → List UInt8
  | _, 0 => []
  | k, n + 1 => ln k (x k) ++ lns x (k + 1) n
theorem lns_snoc (x : Nat → Int) : ∀ (n k : Nat), lns x k (n + 1) = lns x k n ++ ln (k + n) (x (k + n))
  | 0, k => by simp [lns]
  | n + 1, k => by
    show ln k (x k) ++ lns x (k + 1) (n + 1) = (ln k (x k) ++ lns x (k + 1) n) ++ _
    rw [lns_snoc x n (k + 1), List.append_assoc, show k + 1 + n = k + (n + 1) by omega]
theorem text_lns (x : Nat → Int) : ∀ n, (textB x n).data.toList = lns x 0 n
  | 0 => rfl
  | n + 1 => by
    rw [lns_snoc, Nat.zero_add, ← text_lns x n, ← ln_line]
    show (textB x n ++ lineB n (x n)).data.toList = _
    simp [ByteArray.data_append]
theorem hd_ten : ∀ i : Fin 11, ∀ c ∈ hd i, c ≠ 10 := by decide +kernel
theorem ln_ten {i : Nat} (hi11 : i < 11) (v : Int) : ∀ c ∈ hd i ++ Lib.decDigits v.toNat, c ≠ 10 := by
  intro c hc
  rcases List.mem_append.1 hc with h | h
  · exact hd_ten ⟨i, hi11⟩ c h
  · have := List.all_eq_true.1 (dec_p v.toNat).all c h
    intro e
    subst e
    cases this
theorem ln_len (i : Nat) (v : Int) : 1 ≤ (ln i v).length := by
  unfold ln
  rw [List.length_append, List.length_singleton]
  omega
/-- A line is cut off a text. -/
theorem pcs_line {i : Nat} (hi11 : i < 11) (v : Int) (rest : List UInt8) (f : Nat) : pcs (f + 1) (ln i v ++ rest) = ln i v :: pcs f rest := by
  obtain ⟨b, hb⟩ : ∃ b, hd i ++ Lib.decDigits v.toNat = b := ⟨_, rfl⟩
  have hl : ln i v = b ++ [10] := by unfold ln; rw [hb]
  have h10 : ∀ c ∈ b, c ≠ 10 := by rw [← hb]; exact ln_ten hi11 v
  have hat : (ln i v ++ rest)[b.length]? = some 10 := by rw [hl, List.append_assoc, List.getElem?_append_right (Nat.le_refl _), Nat.sub_self]; rfl
  have hge := Lib.indexByte_ge (ln i v ++ rest) 10
  by_cases hn : Lib.indexByte (ln i v ++ rest) 10 < 0
  · exact absurd hat (Lib.indexByte_none (by omega) b.length)
  · obtain ⟨o, ho⟩ : ∃ o : Nat, Lib.indexByte (ln i v ++ rest) 10 = (o : Int) := ⟨(Lib.indexByte (ln i v ++ rest) 10).toNat, by omega⟩
    obtain ⟨h1, h2⟩ := Lib.indexByte_some ho
    have hob : o = b.length := by
      rcases Nat.lt_trichotomy o b.length with h | h | h
      · exfalso
        rw [hl, List.append_assoc, List.getElem?_append_left h] at h1
        exact h10 _ (List.mem_of_getElem? h1) rfl
      · exact h
      · exact absurd hat (h2 b.length h)
    rw [pcs, if_neg hn, ho, Int.toNat_natCast, hob]
    have hlen : b.length + 1 = (ln i v).length := by rw [hl]; simp
    rw [hlen, List.take_left' rfl, List.drop_left' rfl]
def preX (x : Nat → Int) (k : Nat) : Nat → Int := fun j => if j < k then x j else 0
theorem preX_next (x : Nat → Int) (k : Nat) : upd (preX x k) k (x k) = preX x (k + 1) := by
  funext j
  unfold upd preX
  by_cases h : j = k
  · subst h
    rw [if_pos rfl, if_pos (by omega)]
  · rw [if_neg h]
    by_cases h2 : j < k
    · rw [if_pos h2, if_pos (by omega)]
    · rw [if_neg h2, if_neg (by omega)]
theorem pcs_nil (f : Nat) : pcs f [] = [[]] := by
  cases f with
  | zero => rfl
  | succ f => rfl
theorem prs_text {x : Nat → Int} (hx : Kinds x) (hc : Chk x 0 0) : ∀ (n k f : Nat), k + n = 11 → n ≤ f → prs k (preX x k) (pcs f (lns x k n)) = (preX x 11, 0, 0) := by
  intro n
  induction n with
  | zero =>
    intro k f hk _
    obtain rfl : k = 11 := by omega
    rw [show lns x 11 0 = [] from rfl, pcs_nil, prs, if_pos rfl, if_pos rfl]
  | succ n ih =>
    intro k f hk hf
    obtain ⟨g, rfl⟩ : ∃ g, f = g + 1 := ⟨f - 1, by omega⟩
    rw [show lns x k (n + 1) = ln k (x k) ++ lns x (k + 1) n from rfl, pcs_line (by omega)]
    have hb := okF_b hx k (by omega) (hc.ok.1 k (by omega))
    obtain ⟨h1, h2⟩ := ln_a (by omega) hb.1 hb.2
    have hX : lnX (preX x k) k (ln k (x k)) = preX x (k + 1) := by unfold lnX; rw [if_pos h1, h2, preX_next]
    have ho : preX x (k + 1) 1 ≤ preX x (k + 1) 0 := by
      unfold preX
      rw [if_pos (show 0 < k + 1 by omega)]
      by_cases hk1 : 1 < k + 1
      · rw [if_pos hk1]
        exact hc.ok.2
      · rw [if_neg hk1]
        exact (ok_b hx hc 0 (by omega)).1
    rw [prs, if_neg (by omega), if_pos h1, hX, if_pos ho]
    exact ih (k + 1) g (by omega) (by omega)
theorem lns_len (x : Nat → Int) : ∀ (n k : Nat), n ≤ (lns x k n).length
  | 0, k => Nat.zero_le _
  | n + 1, k => by
    show n + 1 ≤ (ln k (x k) ++ lns x (k + 1) n).length
    rw [List.length_append]
    have := ln_len k (x k)
    have := lns_len x n (k + 1)
    omega
/-- A record's text is read as the record. -/
theorem text_back {x : Nat → Int} (hx : Kinds x) (hc : Chk x 0 0) : prs 0 zr (pcs (lns x 0 11).length (lns x 0 11)) = (preX x 11, 0, 0) := by
  have := prs_text hx hc 11 0 (lns x 0 11).length rfl (lns_len x 11 0)
  rwa [show preX x 0 = zr from rfl] at this
theorem preX_rec (x : Nat → Int) : recC (preX x 11) = recC x := recC_congr fun j hj => by unfold preX; rw [if_pos hj]

theorem chk_of {y : Nat → Int} (h : ∀ i, i < 11 → lo i ≤ y i ∧ y i ≤ hi i) (ho : y 1 ≤ y 0) : Kinds y ∧ Chk y 0 0 := by
  have kd : Kinds y := fun i hi11 => by
    have := h i hi11
    have hl := lohi i hi11
    exact ⟨fun _ => ⟨by omega, by omega⟩, fun _ => ⟨by omega, by omega⟩⟩
  refine ⟨kd, .inr (.inr ⟨fun i hi11 => ?_, ho, rfl, rfl⟩)⟩
  have h1 := h i hi11
  have hl := lohi i hi11
  have hw : wv y i = y i := by
    unfold wv
    split
    · rfl
    · exact wrap_in _ (by omega) (by omega)
  unfold okF
  rw [hw]
  exact decide_eq_true h1
/-- What is read without a fault is just its record's text. -/
theorem text_of : ∀ (n k f : Nat) (l : List UInt8) (X y : Nat → Int) (t : Int), k + n = 11 → l.length ≤ f → prs k X (pcs f l) = (y, 0, t) →
    l = lns y k n ∧ t = 0 ∧ (∀ j, j < k → y j = X j) ∧ (∀ j, k ≤ j → j < 11 → lo j ≤ y j ∧ y j ≤ hi j) ∧ (1 ≤ n → y 1 ≤ y 0) := by
  intro n
  induction n with
  | zero =>
    intro k f l X y t hk hf h
    obtain rfl : k = 11 := by omega
    have hl : l = [] ∧ (y, (0 : Int), t) = (X, 0, 0) := by
      cases f with
      | zero =>
        have : l = [] := List.length_eq_zero_iff.1 (by omega)
        subst this
        rw [pcs_nil, prs, if_pos rfl, if_pos rfl] at h
        exact ⟨rfl, h.symm⟩
      | succ f =>
        by_cases hn : Lib.indexByte l 10 < 0
        · rw [pcs, if_pos hn, prs, if_pos rfl] at h
          by_cases hl : l = []
          · rw [if_pos hl] at h
            exact ⟨hl, h.symm⟩
          · rw [if_neg hl] at h
            injection h with _ h
            injection h with h _
            cases h
        · rw [pcs, if_neg hn, prs, if_pos rfl] at h
          obtain ⟨o, ho⟩ : ∃ o : Nat, Lib.indexByte l 10 = (o : Int) := ⟨(Lib.indexByte l 10).toNat, by omega⟩
          have hol := idx_lt ho
          have hne : l.take ((Lib.indexByte l 10).toNat + 1) ≠ [] := fun e => by
            have h1 : (l.take ((Lib.indexByte l 10).toNat + 1)).length = 0 := by rw [e]; rfl
            rw [List.length_take, ho, Int.toNat_natCast] at h1
            omega
          rw [if_neg hne] at h
          injection h with _ h
          injection h with h _
          cases h
    obtain ⟨rfl, h2⟩ := hl
    injection h2 with h2 h3
    injection h3 with _ h3
    subst h2
    subst h3
    exact ⟨rfl, rfl, fun _ _ => rfl, fun j h1 h2 => by omega, fun h => by omega⟩
  | succ n ih =>
    intro k f l X y t hk hf h
    obtain ⟨z, r, hz⟩ : ∃ z r, pcs f l = z :: r := by
      cases f with
      | zero => exact ⟨_, _, rfl⟩
      | succ f =>
        by_cases hn : Lib.indexByte l 10 < 0
        · exact ⟨_, _, by rw [pcs, if_pos hn]⟩
        · exact ⟨_, _, by rw [pcs, if_neg hn]⟩
    rw [hz, prs, if_neg (by omega)] at h
    by_cases ha : lnA k z = 0
    · rw [if_pos ha] at h
      by_cases ho : lnX X k z 1 ≤ lnX X k z 0
      · rw [if_pos ho] at h
        obtain ⟨e1, e2, e3⟩ := ln_of ha
        have hs := suffix_of ha
        have hX : lnX X k z = upd X k (lnN k z) := if_pos ha
        obtain ⟨l2, f2, hl, hr, hf2⟩ : ∃ l2 f2, l = z ++ l2 ∧ r = pcs f2 l2 ∧ l2.length ≤ f2 := by
          cases f with
          | zero =>
            have : l = [] := List.length_eq_zero_iff.1 (by omega)
            subst this
            rw [pcs_nil] at hz
            injection hz with hz _
            subst hz
            cases hs
          | succ f =>
            by_cases hn : Lib.indexByte l 10 < 0
            · rw [pcs, if_pos hn] at hz
              injection hz with hz _
              subst hz
              obtain ⟨u, hu⟩ := List.isSuffixOf_iff_suffix.1 (show [10].isSuffixOf l = true from hs)
              have hge := Lib.indexByte_ge l 10
              exact absurd (show l[u.length]? = some 10 by rw [← hu, List.getElem?_append_right (Nat.le_refl _), Nat.sub_self]; rfl) (Lib.indexByte_none (by omega) u.length)
            · rw [pcs, if_neg hn] at hz
              injection hz with h1 h2
              refine ⟨_, f, ?_, h2.symm, ?_⟩
              · rw [← h1]
                exact (List.take_append_drop _ _).symm
              · rw [List.length_drop]
                omega
        rw [hr] at h
        obtain ⟨i1, i2, i3, i4, i5⟩ := ih (k + 1) f2 l2 (lnX X k z) y t (by omega) hf2 h
        have hyk : y k = lnN k z := by rw [i3 k (by omega), hX, updk_at]
        refine ⟨?_, i2, fun j hj => ?_, fun j h1 h2 => ?_, fun _ => ?_⟩
        · rw [hl, i1]
          show z ++ lns y (k + 1) n = ln k (y k) ++ lns y (k + 1) n
          rw [hyk, ← e1]
        · rw [i3 j (by omega), hX, updk_no _ _ (by omega)]
        · by_cases hj : j = k
          · subst hj
            rw [hyk]
            exact ⟨e2, e3⟩
          · exact i4 j (by omega) h2
        · by_cases hk1 : k = 0
          · exact i5 (by omega)
          · rw [i3 1 (by omega), i3 0 (by omega)]
            exact ho
      · rw [if_neg ho] at h
        injection h with _ h
        injection h with h _
        cases h
    · rw [if_neg ha] at h
      injection h with _ h
      injection h with h _
      exact absurd h ha
end Pm
end Go.Proofs.YtpohcdfmkcfonaaGreatDoor
