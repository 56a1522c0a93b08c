/-
  Decimal numerals, written and read: the number of a numeral's digits is it, and no other digits are it: no walk. No condition.
-/
import Derived.Test.YtpohcdfmkcfonaaGreatDoorGPs2
import Derived.Test.YtpohcdfmkcfonaaGreatDoorGPPr0
namespace Go.Proofs.YtpohcdfmkcfonaaGreatDoor
open Go.RowKit Go.Shelf
set_option linter.unusedVariables false
namespace Pm
open Kk

theorem dec_ten {m : Nat} (h : ¬ m < 10) : Lib.decDigits m = Lib.decDigits (m / 10) ++ [UInt8.ofNat (48 + m % 10)] := by
  rw [Lib.decDigits, dif_neg h]
theorem dig_nat {d : Nat} (h : d < 10) : (UInt8.ofNat (48 + d)).toNat = 48 + d := by
  rw [UInt8.toNat_ofNat']
  omega
theorem head_app {l r : List UInt8} (h : l ≠ []) : (l ++ r).head? = l.head? := by
  cases l with
  | nil => exact absurd rfl h
  | cons a s => rfl
structure DecP (m : Nat) (l : List UInt8) : Prop where
  all : l.all dig = true
  val : dv10 0 l = (m : Int)
  ne : l ≠ []
  head : 1 ≤ m → l.head? ≠ some 48
  one : m < 10 → l.length = 1
theorem dec_p (m : Nat) : DecP m (Lib.decDigits m) := by
  induction m using Nat.strongRecOn with
  | _ m ih =>
    by_cases h : m < 10
    · rw [Lib.decDigits_one h]
      have hd := dig_nat h
      refine ⟨by simp [dig]; omega, ?_, by simp, fun h1 => ?_, fun _ => rfl⟩
      · show (0 : Int) * 10 + (((UInt8.ofNat (48 + m)).toNat : Int) - 48) = m
        rw [hd]
        omega
      · intro e
        injection e with e
        have := congrArg UInt8.toNat e
        rw [hd] at this
        simp at this
        omega
    · have hp := ih (m / 10) (by omega)
      rw [dec_ten h]
      have hd := dig_nat (d := m % 10) (by omega)
      refine ⟨?_, ?_, by simp, fun _ => ?_, fun h1 => absurd h1 h⟩
      · rw [List.all_append, hp.all]
        simp [dig]
        omega
      · rw [dv10_app, hp.val, hd]
        omega
      · rw [head_app hp.ne]
        exact hp.head (by omega)
theorem dec_len : ∀ (k m : Nat), m < 10 ^ (k + 1) → (Lib.decDigits m).length ≤ k + 1
  | 0, m, h => by
    rw [(dec_p m).one (by simpa using h)]
    omega
  | k + 1, m, h => by
    by_cases h1 : m < 10
    · rw [(dec_p m).one h1]
      omega
    · rw [dec_ten h1, List.length_append]
      have := dec_len k (m / 10) (by rw [Nat.pow_succ] at h; omega)
      simp
      omega
/-- A numeral is a number. -/
theorem num_dec (m : Nat) (h : m < 10000000000) : isNum (Lib.decDigits m) = true ∧ numOf (Lib.decDigits m) = (m : Int) := by
  have hp := dec_p m
  have hl := dec_len 9 m (by simpa using h)
  have hn : isNum (Lib.decDigits m) = true := by
    unfold isNum
    have h1 : (!(Lib.decDigits m).isEmpty) = true := by
      cases hh : Lib.decDigits m with
      | nil => exact absurd hh hp.ne
      | cons a r => rfl
    have h3 : (!(decide (1 < (Lib.decDigits m).length) && (Lib.decDigits m).head? == some 48)) = true := by
      by_cases hm : m < 10
      · simp [hp.one hm]
      · have := hp.head (by omega)
        simp [this]
    rw [h1, h3, hp.all, decide_eq_true hl]
    rfl
  refine ⟨hn, ?_⟩
  unfold numOf
  rw [if_pos hn]
  exact hp.val
/-- No other digits are that number. -/
theorem dec_of : ∀ (n : Nat) (l : List UInt8), l.length = n → l ≠ [] → l.all dig = true → (1 < l.length → l.head? ≠ some 48) → Lib.decDigits (dv10 0 l).toNat = l := by
  intro n
  induction n with
  | zero => intro l hl hne; exact absurd (List.length_eq_zero_iff.1 hl) hne
  | succ n ih =>
    intro l hl hne ha hh
    obtain ⟨r, c, rfl⟩ : ∃ r c, l = r ++ [c] := ⟨l.dropLast, l.getLast hne, (List.dropLast_concat_getLast hne).symm⟩
    rw [List.all_append, Bool.and_eq_true] at ha
    have hc : 48 ≤ c.toNat ∧ c.toNat ≤ 57 := by simpa [dig] using ha.2
    have hrl : r.length = n := by simpa using hl
    by_cases hr : r = []
    · subst hr
      have e : dv10 0 ([] ++ [c]) = (c.toNat : Int) - 48 := by
        show (0 : Int) * 10 + ((c.toNat : Int) - 48) = _
        omega
      rw [e, Lib.decDigits_one (by omega)]
      show [_] = [c]
      congr 1
      apply UInt8.toNat_inj.1
      rw [dig_nat (by omega)]
      omega
    · have hhd : r.head? ≠ some 48 := by
        have := hh (by rw [List.length_append]; have := List.length_pos_iff.2 hr; simp; omega)
        rwa [head_app hr] at this
      have h1 := ih r hrl hr ha.1 (fun _ => hhd)
      have hb := dv10_b r ha.1
      obtain ⟨m, hm⟩ : ∃ m : Nat, dv10 0 r = (m : Int) := ⟨(dv10 0 r).toNat, (Int.toNat_of_nonneg hb.1).symm⟩
      rw [hm, Int.toNat_natCast] at h1
      have hm1 : 1 ≤ m := by
        apply Nat.one_le_iff_ne_zero.2
        intro h0
        rw [h0, Lib.decDigits_one (by omega)] at h1
        apply hhd
        rw [← h1]
        rfl
      rw [dv10_app, hm]
      have e : ((m : Int) * 10 + ((c.toNat : Int) - 48)).toNat = m * 10 + (c.toNat - 48) := by omega
      rw [e, dec_ten (by omega), show (m * 10 + (c.toNat - 48)) / 10 = m by omega, show (m * 10 + (c.toNat - 48)) % 10 = c.toNat - 48 by omega, h1]
      congr 2
      apply UInt8.toNat_inj.1
      rw [dig_nat (by omega)]
      omega
theorem num_of {l : List UInt8} (h : isNum l = true) : Lib.decDigits (numOf l).toNat = l := by
  unfold numOf
  rw [if_pos h]
  unfold isNum at h
  rw [Bool.and_eq_true, Bool.and_eq_true, Bool.and_eq_true] at h
  obtain ⟨⟨⟨h1, _⟩, h3⟩, h4⟩ := h
  refine dec_of _ l rfl (fun e => by subst e; cases h1) h4 (fun hl e => ?_)
  rw [e] at h3
  simp [hl] at h3

/-- The bytes of a line. -/
def ln (i : Nat) (v : Int) : List UInt8 := hd i ++ Lib.decDigits v.toNat ++ [10]
theorem ln_line (i : Nat) (v : Int) : (lineB i v).data.toList = ln i v := by
  unfold lineB ln hd
  simp [ByteArray.data_append]
theorem suf_snoc (l : List UInt8) : Lib.hasSuffix (l ++ [10]) [10] = true := by
  unfold Lib.hasSuffix
  exact List.isSuffixOf_iff_suffix.2 ⟨l, rfl⟩
theorem ln_ok {i : Nat} {v : Int} (h0 : 0 ≤ v) (h1 : v < 10000000000) : lnB i ((ln i v).take ((ln i v).length - 1)) = some v := by
  have e : (ln i v).take ((ln i v).length - 1) = hd i ++ Lib.decDigits v.toNat := by
    unfold ln
    rw [List.length_append, List.length_singleton, Nat.add_sub_cancel, List.take_left']
    rfl
  rw [e]
  obtain ⟨n1, n2⟩ := num_dec v.toNat (by omega)
  unfold lnB
  have d : (hd i ++ Lib.decDigits v.toNat).drop (hd i).length = Lib.decDigits v.toNat := List.drop_left' rfl
  rw [d, n1, n2]
  have hp : Lib.hasPrefix (hd i ++ Lib.decDigits v.toNat) (hd i) = true := by
    unfold Lib.hasPrefix
    exact List.isPrefixOf_iff_prefix.2 ⟨_, rfl⟩
  rw [if_pos ⟨hp, rfl⟩]
  congr 1
  omega
theorem ln_a {i : Nat} {v : Int} (hi11 : i < 11) (h0 : lo i ≤ v) (h1 : v ≤ hi i) : lnA i (ln i v) = 0 ∧ lnN i (ln i v) = v := by
  have hl := lohi i hi11
  have hb := ln_ok (i := i) (v := v) (by omega) (by omega)
  refine ⟨?_, by unfold lnN; rw [hb]; rfl⟩
  unfold lnA
  rw [hb, if_pos (show Lib.hasSuffix (ln i v) [10] = true from suf_snoc _)]
  show (if okB (lo i) (hi i) v = true then (0 : Int) else 3) = 0
  rw [if_pos (show okB (lo i) (hi i) v = true from decide_eq_true ⟨h0, h1⟩)]
/-- No other line is taken for that. -/
theorem ln_of {i : Nat} {l : List UInt8} (h : lnA i l = 0) : l = ln i (lnN i l) ∧ lo i ≤ lnN i l ∧ lnN i l ≤ hi i := by
  have hs := suffix_of h
  obtain ⟨r, rfl⟩ : ∃ r, l = r ++ [10] := by
    obtain ⟨t, ht⟩ := List.isSuffixOf_iff_suffix.1 (show [10].isSuffixOf l = true from hs)
    exact ⟨t, ht.symm⟩
  have e : (r ++ [10]).take ((r ++ [10]).length - 1) = r := by
    rw [List.length_append, List.length_singleton, Nat.add_sub_cancel, List.take_left']
    rfl
  unfold lnA at h
  rw [if_pos hs, e] at h
  unfold lnN
  rw [e]
  cases hb : lnB i r with
  | none =>
    rw [hb] at h
    exact absurd (show (5 : Int) = 0 from h) (by decide)
  | some n =>
    rw [hb] at h
    have h : (if okB (lo i) (hi i) n = true then (0 : Int) else 3) = 0 := h
    have ho : okB (lo i) (hi i) n = true := by
      by_cases ho : okB (lo i) (hi i) n = true
      · exact ho
      · rw [if_neg ho] at h
        omega
    have ho := of_decide_eq_true ho
    refine ⟨?_, ho⟩
    unfold lnB at hb
    by_cases hc : Lib.hasPrefix r (hd i) = true ∧ isNum (r.drop (hd i).length) = true
    · rw [if_pos hc] at hb
      injection hb with hb
      obtain ⟨t, ht⟩ := List.isPrefixOf_iff_prefix.1 (show (hd i).isPrefixOf r = true from hc.1)
      have hd' : r.drop (hd i).length = t := by rw [← ht]; exact List.drop_left' rfl
      show r ++ [10] = ln i n
      unfold ln
      rw [← hb, num_of hc.2, hd', ht]
    · rw [if_neg hc] at hb
      cases hb
end Pm
end Go.Proofs.YtpohcdfmkcfonaaGreatDoor
