/-
  Texts of this claim, put together: Ps4, Ps5, Ps6, Ps7a. What each one says, and under which conditions, stands ahead of it.
-/
import Derived.Test.YtkblbcdinibncaaDoorPS
import Derived.Test.YtkblbcdinibncaaDoorGPPr0
import Derived.Test.YtkblbcdinibncaaDoorGPKn1
import Derived.Test.YtkblbcdinibncaaDoorPD
import Derived.Test.YtkblbcdinibncaaDoorGPKn
import Derived.Test.YtkblbcdinibncaaDoorPB
import Derived.Test.YtkblbcdinibncaaDoorGPPrs
import Derived.Test.YtkblbcdinibncaaDoorGPRd

section
/-
  Decimal numerals, written and read: the number of a numeral's digits is it, and no other digits are it: no walk. No condition.
-/
namespace Go.Proofs.YtkblbcdinibncaaDoor
open Go.RowKit Go.Shelf
set_option linter.unusedVariables false
namespace Pm
open Kk

theorem dec_ten {m : Nat} (h : ¬ m < 10) : Lib.decDigits m = Lib.decDigits (m / 10) ++ [UInt8.ofNat (48 + m % 10)] := by
  rw [Lib.decDigits, dif_neg h]
theorem dig_nat {d : Nat} (h : d < 10) : (UInt8.ofNat (48 + d)).toNat = 48 + d := by
  rw [UInt8.toNat_ofNat']
  omega
theorem head_app {l r : List UInt8} (h : l ≠ []) : (l ++ r).head? = l.head? := by
  cases l with
  | nil => exact absurd rfl h
  | cons a s => rfl
structure DecP (m : Nat) (l : List UInt8) : Prop where
  all : l.all dig = true
  val : dv10 0 l = (m : Int)
  ne : l ≠ []
  head : 1 ≤ m → l.head? ≠ some 48
  one : m < 10 → l.length = 1
theorem dec_p (m : Nat) : DecP m (Lib.decDigits m) := by
  induction m using Nat.strongRecOn with
  | _ m ih =>
    by_cases h : m < 10
    · rw [Lib.decDigits_one h]
      have hd := dig_nat h
      refine ⟨by simp [dig]; omega, ?_, by simp, fun h1 => ?_, fun _ => rfl⟩
      · show (0 : Int) * 10 + (((UInt8.ofNat (48 + m)).toNat : Int) - 48) = m
        rw [hd]
        omega
      · intro e
        injection e with e
        have := congrArg UInt8.toNat e
        rw [hd] at this
        simp at this
        omega
    · have hp := ih (m / 10) (by omega)
      rw [dec_ten h]
      have hd := dig_nat (d := m % 10) (by omega)
      refine ⟨?_, ?_, by simp, fun _ => ?_, fun h1 => absurd h1 h⟩
      · rw [List.all_append, hp.all]
        simp [dig]
        omega
      · rw [dv10_app, hp.val, hd]
        omega
      · rw [head_app hp.ne]
        exact hp.head (by omega)
theorem dec_len : ∀ (k m : Nat), m < 10 ^ (k + 1) → (Lib.decDigits m).length ≤ k + 1
  | 0, m, h => by
    rw [(dec_p m).one (by simpa using h)]
    omega
  | k + 1, m, h => by
    by_cases h1 : m < 10
    · rw [(dec_p m).one h1]
      omega
    · rw [dec_ten h1, List.length_append]
      have := dec_len k (m / 10) (by rw [Nat.pow_succ] at h; omega)
      simp
      omega
/-- A numeral is a number. -/
theorem num_dec (m : Nat) (h : m < 10000000000) : isNum (Lib.decDigits m) = true ∧ numOf (Lib.decDigits m) = (m : Int) := by
  have hp := dec_p m
  have hl := dec_len 9 m (by simpa using h)
  have hn : isNum (Lib.decDigits m) = true := by
    unfold isNum
    have h1 : (!(Lib.decDigits m).isEmpty) = true := by
      cases hh : Lib.decDigits m with
      | nil => exact absurd hh hp.ne
      | cons a r => rfl
    have h3 : (!(decide (1 < (Lib.decDigits m).length) && (Lib.decDigits m).head? == some 48)) = true := by
      by_cases hm : m < 10
      · simp [hp.one hm]
      · have := hp.head (by omega)
        simp [this]
    rw [h1, h3, hp.all, decide_eq_true hl]
    rfl
  refine ⟨hn, ?_⟩
  unfold numOf
  rw [if_pos hn]
  exact hp.val
/-- No other digits are that number. -/
theorem dec_of : ∀ (n : Nat) (l : List UInt8), l.length = n → l ≠ [] → l.all dig = true → (1 < l.length → l.head? ≠ some 48) → Lib.decDigits (dv10 0 l).toNat = l := by
  intro n
  induction n with
  | zero => intro l hl hne; exact absurd (List.length_eq_zero_iff.1 hl) hne
  | succ n ih =>
    intro l hl hne ha hh
    obtain ⟨r, c, rfl⟩ : ∃ r c, l = r ++ [c] := ⟨l.dropLast, l.getLast hne, (List.dropLast_concat_getLast hne).symm⟩
    rw [List.all_append, Bool.and_eq_true] at ha
    have hc : 48 ≤ c.toNat ∧ c.toNat ≤ 57 := by simpa [dig] using ha.2
    have hrl : r.length = n := by simpa using hl
    by_cases hr : r = []
    · subst hr
      have e : dv10 0 ([] ++ [c]) = (c.toNat : Int) - 48 := by
        show (0 : Int) * 10 + ((c.toNat : Int) - 48) = _
        omega
      rw [e, Lib.decDigits_one (by omega)]
      show [_] = [c]
      congr 1
      apply UInt8.toNat_inj.1
      rw [dig_nat (by omega)]
      omega
    · have hhd : r.head? ≠ some 48 := by
        have := hh (by rw [List.length_append]; have := List.length_pos_iff.2 hr; simp; omega)
        rwa [head_app hr] at this
      have h1 := ih r hrl hr ha.1 (fun _ => hhd)
      have hb := dv10_b r ha.1
      obtain ⟨m, hm⟩ : ∃ m : Nat, dv10 0 r = (m : Int) := ⟨(dv10 0 r).toNat, (Int.toNat_of_nonneg hb.1).symm⟩
      rw [hm, Int.toNat_natCast] at h1
      have hm1 : 1 ≤ m := by
        apply Nat.one_le_iff_ne_zero.2
        intro h0
        rw [h0, Lib.decDigits_one (by omega)] at h1
        apply hhd
        rw [← h1]
        rfl
      rw [dv10_app, hm]
      have e : ((m : Int) * 10 + ((c.toNat : Int) - 48)).toNat = m * 10 + (c.toNat - 48) := by omega
      rw [e, dec_ten (by omega), show (m * 10 + (c.toNat - 48)) / 10 = m by omega, show (m * 10 + (c.toNat - 48)) % 10 = c.toNat - 48 by omega, h1]
      congr 2
      apply UInt8.toNat_inj.1
      rw [dig_nat (by omega)]
      omega
theorem num_of {l : List UInt8} (h : isNum l = true) : Lib.decDigits (numOf l).toNat = l := by
  unfold numOf
  rw [if_pos h]
  unfold isNum at h
  rw [Bool.and_eq_true, Bool.and_eq_true, Bool.and_eq_true] at h
  obtain ⟨⟨⟨h1, _⟩, h3⟩, h4⟩ := h
  refine dec_of _ l rfl (fun e => by subst e; cases h1) h4 (fun hl e => ?_)
  rw [e] at h3
  simp [hl] at h3

/-- The bytes of a line. -/
def ln (i : Nat) (v : Int) : List UInt8 := hd i ++ Lib.decDigits v.toNat ++ [10]
theorem ln_line (i : Nat) (v : Int) : (lineB i v).data.toList = ln i v := by
  unfold lineB ln hd
  simp [ByteArray.data_append]
theorem suf_snoc (l : List UInt8) : Lib.hasSuffix (l ++ [10]) [10] = true := by
  unfold Lib.hasSuffix
  exact List.isSuffixOf_iff_suffix.2 ⟨l, rfl⟩
theorem ln_ok {i : Nat} {v : Int} (h0 : 0 ≤ v) (h1 : v < 10000000000) : lnB i ((ln i v).take ((ln i v).length - 1)) = some v := by
  have e : (ln i v).take ((ln i v).length - 1) = hd i ++ Lib.decDigits v.toNat := by
    unfold ln
    rw [List.length_append, List.length_singleton, Nat.add_sub_cancel, List.take_left']
    rfl
  rw [e]
  obtain ⟨n1, n2⟩ := num_dec v.toNat (by omega)
  unfold lnB
  have d : (hd i ++ Lib.decDigits v.toNat).drop (hd i).length = Lib.decDigits v.toNat := List.drop_left' rfl
  rw [d, n1, n2]
  have hp : Lib.hasPrefix (hd i ++ Lib.decDigits v.toNat) (hd i) = true := by
    unfold Lib.hasPrefix
    exact List.isPrefixOf_iff_prefix.2 ⟨_, rfl⟩
  rw [if_pos ⟨hp, rfl⟩]
  congr 1
  omega
theorem ln_a {i : Nat} {v : Int} (hi11 : i < 11) (h0 : lo i ≤ v) (h1 : v ≤ hi i) : lnA i (ln i v) = 0 ∧ lnN i (ln i v) = v := by
  have hl := lohi i hi11
  have hb := ln_ok (i := i) (v := v) (by omega) (by omega)
  refine ⟨?_, by unfold lnN; rw [hb]; rfl⟩
  unfold lnA
  rw [hb, if_pos (show Lib.hasSuffix (ln i v) [10] = true from suf_snoc _)]
  show (if okB (lo i) (hi i) v = true then (0 : Int) else 3) = 0
  rw [if_pos (show okB (lo i) (hi i) v = true from decide_eq_true ⟨h0, h1⟩)]
/-- No other line is taken for that. -/
theorem ln_of {i : Nat} {l : List UInt8} (h : lnA i l = 0) : l = ln i (lnN i l) ∧ lo i ≤ lnN i l ∧ lnN i l ≤ hi i := by
  have hs := suffix_of h
  obtain ⟨r, rfl⟩ : ∃ r, l = r ++ [10] := by
    obtain ⟨t, ht⟩ := List.isSuffixOf_iff_suffix.1 (show [10].isSuffixOf l = true from hs)
    exact ⟨t, ht.symm⟩
  have e : (r ++ [10]).take ((r ++ [10]).length - 1) = r := by
    rw [List.length_append, List.length_singleton, Nat.add_sub_cancel, List.take_left']
    rfl
  unfold lnA at h
  rw [if_pos hs, e] at h
  unfold lnN
  rw [e]
  cases hb : lnB i r with
  | none =>
    rw [hb] at h
    exact absurd (show (5 : Int) = 0 from h) (by decide)
  | some n =>
    rw [hb] at h
    have h : (if okB (lo i) (hi i) n = true then (0 : Int) else 3) = 0 := h
    have ho : okB (lo i) (hi i) n = true := by
      by_cases ho : okB (lo i) (hi i) n = true
      · exact ho
      · rw [if_neg ho] at h
        omega
    have ho := of_decide_eq_true ho
    refine ⟨?_, ho⟩
    unfold lnB at hb
    by_cases hc : Lib.hasPrefix r (hd i) = true ∧ isNum (r.drop (hd i).length) = true
    · rw [if_pos hc] at hb
      injection hb with hb
      obtain ⟨t, ht⟩ := List.isPrefixOf_iff_prefix.1 (show (hd i).isPrefixOf r = true from hc.1)
      have hd' : r.drop (hd i).length = t := by rw [← ht]; exact List.drop_left' rfl
      show r ++ [10] = ln i n
      unfold ln
      rw [← hb, num_of hc.2, hd', ht]
    · rw [if_neg hc] at hb
      cases hb
end Pm
end Go.Proofs.YtkblbcdinibncaaDoor
end

section
/-
  A record's text is read as the record, and no other text is: no walk. No condition.
-/
namespace Go.Proofs.YtkblbcdinibncaaDoor
open Go.RowKit Go.Shelf
set_option linter.unusedVariables false
namespace Pm
open Kk

/-- The lines of a record from the k-th on, n of them. -/
def lns (x : Nat → Int) : Nat → Nat → List UInt8
  | _, 0 => []
  | k, n + 1 => ln k (x k) ++ lns x (k + 1) n
theorem lns_snoc (x : Nat → Int) : ∀ (n k : Nat), lns x k (n + 1) = lns x k n ++ ln (k + n) (x (k + n))
  | 0, k => by simp [lns]
  | n + 1, k => by
    show ln k (x k) ++ lns x (k + 1) (n + 1) = (ln k (x k) ++ lns x (k + 1) n) ++ _
    rw [lns_snoc x n (k + 1), List.append_assoc, show k + 1 + n = k + (n + 1) by omega]
theorem text_lns (x : Nat → Int) : ∀ n, (textB x n).data.toList = lns x 0 n
  | 0 => rfl
  | n + 1 => by
    rw [lns_snoc, Nat.zero_add, ← text_lns x n, ← ln_line]
    show (textB x n ++ lineB n (x n)).data.toList = _
    simp [ByteArray.data_append]
theorem hd_ten : ∀ i : Fin 11, ∀ c ∈ hd i, c ≠ 10 := by decide +kernel
theorem ln_ten {i : Nat} (hi11 : i < 11) (v : Int) : ∀ c ∈ hd i ++ Lib.decDigits v.toNat, c ≠ 10 := by
  intro c hc
  rcases List.mem_append.1 hc with h | h
  · exact hd_ten ⟨i, hi11⟩ c h
  · have := List.all_eq_true.1 (dec_p v.toNat).all c h
    intro e
    subst e
    cases this
theorem ln_len (i : Nat) (v : Int) : 1 ≤ (ln i v).length := by
  unfold ln
  rw [List.length_append, List.length_singleton]
  omega
/-- A line is cut off a text. -/
theorem pcs_line {i : Nat} (hi11 : i < 11) (v : Int) (rest : List UInt8) (f : Nat) : pcs (f + 1) (ln i v ++ rest) = ln i v :: pcs f rest := by
  obtain ⟨b, hb⟩ : ∃ b, hd i ++ Lib.decDigits v.toNat = b := ⟨_, rfl⟩
  have hl : ln i v = b ++ [10] := by unfold ln; rw [hb]
  have h10 : ∀ c ∈ b, c ≠ 10 := by rw [← hb]; exact ln_ten hi11 v
  have hat : (ln i v ++ rest)[b.length]? = some 10 := by rw [hl, List.append_assoc, List.getElem?_append_right (Nat.le_refl _), Nat.sub_self]; rfl
  have hge := Lib.indexByte_ge (ln i v ++ rest) 10
  by_cases hn : Lib.indexByte (ln i v ++ rest) 10 < 0
  · exact absurd hat (Lib.indexByte_none (by omega) b.length)
  · obtain ⟨o, ho⟩ : ∃ o : Nat, Lib.indexByte (ln i v ++ rest) 10 = (o : Int) := ⟨(Lib.indexByte (ln i v ++ rest) 10).toNat, by omega⟩
    obtain ⟨h1, h2⟩ := Lib.indexByte_some ho
    have hob : o = b.length := by
      rcases Nat.lt_trichotomy o b.length with h | h | h
      · exfalso
        rw [hl, List.append_assoc, List.getElem?_append_left h] at h1
        exact h10 _ (List.mem_of_getElem? h1) rfl
      · exact h
      · exact absurd hat (h2 b.length h)
    rw [pcs, if_neg hn, ho, Int.toNat_natCast, hob]
    have hlen : b.length + 1 = (ln i v).length := by rw [hl]; simp
    rw [hlen, List.take_left' rfl, List.drop_left' rfl]
def preX (x : Nat → Int) (k : Nat) : Nat → Int := fun j => if j < k then x j else 0
theorem preX_next (x : Nat → Int) (k : Nat) : upd (preX x k) k (x k) = preX x (k + 1) := by
  funext j
  unfold upd preX
  by_cases h : j = k
  · subst h
    rw [if_pos rfl, if_pos (by omega)]
  · rw [if_neg h]
    by_cases h2 : j < k
    · rw [if_pos h2, if_pos (by omega)]
    · rw [if_neg h2, if_neg (by omega)]
theorem pcs_nil (f : Nat) : pcs f [] = [[]] := by
  cases f with
  | zero => rfl
  | succ f => rfl
theorem prs_text {x : Nat → Int} (hx : Kinds x) (hc : Chk x 0 0) : ∀ (n k f : Nat), k + n = 11 → n ≤ f → prs k (preX x k) (pcs f (lns x k n)) = (preX x 11, 0, 0) := by
  intro n
  induction n with
  | zero =>
    intro k f hk _
    obtain rfl : k = 11 := by omega
    rw [show lns x 11 0 = [] from rfl, pcs_nil, prs, if_pos rfl, if_pos rfl]
  | succ n ih =>
    intro k f hk hf
    obtain ⟨g, rfl⟩ : ∃ g, f = g + 1 := ⟨f - 1, by omega⟩
    rw [show lns x k (n + 1) = ln k (x k) ++ lns x (k + 1) n from rfl, pcs_line (by omega)]
    have hb := okF_b hx k (by omega) (hc.ok.1 k (by omega))
    obtain ⟨h1, h2⟩ := ln_a (by omega) hb.1 hb.2
    have hX : lnX (preX x k) k (ln k (x k)) = preX x (k + 1) := by unfold lnX; rw [if_pos h1, h2, preX_next]
    have ho : preX x (k + 1) 1 ≤ preX x (k + 1) 0 := by
      unfold preX
      rw [if_pos (show 0 < k + 1 by omega)]
      by_cases hk1 : 1 < k + 1
      · rw [if_pos hk1]
        exact hc.ok.2
      · rw [if_neg hk1]
        exact (ok_b hx hc 0 (by omega)).1
    rw [prs, if_neg (by omega), if_pos h1, hX, if_pos ho]
    exact ih (k + 1) g (by omega) (by omega)
theorem lns_len (x : Nat → Int) : ∀ (n k : Nat), n ≤ (lns x k n).length
  | 0, k => Nat.zero_le _
  | n + 1, k => by
    show n + 1 ≤ (ln k (x k) ++ lns x (k + 1) n).length
    rw [List.length_append]
    have := ln_len k (x k)
    have := lns_len x n (k + 1)
    omega
/-- A record's text is read as the record. -/
theorem text_back {x : Nat → Int} (hx : Kinds x) (hc : Chk x 0 0) : prs 0 zr (pcs (lns x 0 11).length (lns x 0 11)) = (preX x 11, 0, 0) := by
  have := prs_text hx hc 11 0 (lns x 0 11).length rfl (lns_len x 11 0)
  rwa [show preX x 0 = zr from rfl] at this
theorem preX_rec (x : Nat → Int) : recC (preX x 11) = recC x := recC_congr fun j hj => by unfold preX; rw [if_pos hj]

theorem chk_of {y : Nat → Int} (h : ∀ i, i < 11 → lo i ≤ y i ∧ y i ≤ hi i) (ho : y 1 ≤ y 0) : Kinds y ∧ Chk y 0 0 := by
  have kd : Kinds y := fun i hi11 => by
    have := h i hi11
    have hl := lohi i hi11
    exact ⟨fun _ => ⟨by omega, by omega⟩, fun _ => ⟨by omega, by omega⟩⟩
  refine ⟨kd, .inr (.inr ⟨fun i hi11 => ?_, ho, rfl, rfl⟩)⟩
  have h1 := h i hi11
  have hl := lohi i hi11
  have hw : wv y i = y i := by
    unfold wv
    split
    · rfl
    · exact wrap_in _ (by omega) (by omega)
  unfold okF
  rw [hw]
  exact decide_eq_true h1
/-- What is read without a fault is just its record's text. -/
theorem text_of : ∀ (n k f : Nat) (l : List UInt8) (X y : Nat → Int) (t : Int), k + n = 11 → l.length ≤ f → prs k X (pcs f l) = (y, 0, t) →
    l = lns y k n ∧ t = 0 ∧ (∀ j, j < k → y j = X j) ∧ (∀ j, k ≤ j → j < 11 → lo j ≤ y j ∧ y j ≤ hi j) ∧ (1 ≤ n → y 1 ≤ y 0) := by
  intro n
  induction n with
  | zero =>
    intro k f l X y t hk hf h
    obtain rfl : k = 11 := by omega
    have hl : l = [] ∧ (y, (0 : Int), t) = (X, 0, 0) := by
      cases f with
      | zero =>
        have : l = [] := List.length_eq_zero_iff.1 (by omega)
        subst this
        rw [pcs_nil, prs, if_pos rfl, if_pos rfl] at h
        exact ⟨rfl, h.symm⟩
      | succ f =>
        by_cases hn : Lib.indexByte l 10 < 0
        · rw [pcs, if_pos hn, prs, if_pos rfl] at h
          by_cases hl : l = []
          · rw [if_pos hl] at h
            exact ⟨hl, h.symm⟩
          · rw [if_neg hl] at h
            injection h with _ h
            injection h with h _
            cases h
        · rw [pcs, if_neg hn, prs, if_pos rfl] at h
          obtain ⟨o, ho⟩ : ∃ o : Nat, Lib.indexByte l 10 = (o : Int) := ⟨(Lib.indexByte l 10).toNat, by omega⟩
          have hol := idx_lt ho
          have hne : l.take ((Lib.indexByte l 10).toNat + 1) ≠ [] := fun e => by
            have h1 : (l.take ((Lib.indexByte l 10).toNat + 1)).length = 0 := by rw [e]; rfl
            rw [List.length_take, ho, Int.toNat_natCast] at h1
            omega
          rw [if_neg hne] at h
          injection h with _ h
          injection h with h _
          cases h
    obtain ⟨rfl, h2⟩ := hl
    injection h2 with h2 h3
    injection h3 with _ h3
    subst h2
    subst h3
    exact ⟨rfl, rfl, fun _ _ => rfl, fun j h1 h2 => by omega, fun h => by omega⟩
  | succ n ih =>
    intro k f l X y t hk hf h
    obtain ⟨z, r, hz⟩ : ∃ z r, pcs f l = z :: r := by
      cases f with
      | zero => exact ⟨_, _, rfl⟩
      | succ f =>
        by_cases hn : Lib.indexByte l 10 < 0
        · exact ⟨_, _, by rw [pcs, if_pos hn]⟩
        · exact ⟨_, _, by rw [pcs, if_neg hn]⟩
    rw [hz, prs, if_neg (by omega)] at h
    by_cases ha : lnA k z = 0
    · rw [if_pos ha] at h
      by_cases ho : lnX X k z 1 ≤ lnX X k z 0
      · rw [if_pos ho] at h
        obtain ⟨e1, e2, e3⟩ := ln_of ha
        have hs := suffix_of ha
        have hX : lnX X k z = upd X k (lnN k z) := if_pos ha
        obtain ⟨l2, f2, hl, hr, hf2⟩ : ∃ l2 f2, l = z ++ l2 ∧ r = pcs f2 l2 ∧ l2.length ≤ f2 := by
          cases f with
          | zero =>
            have : l = [] := List.length_eq_zero_iff.1 (by omega)
            subst this
            rw [pcs_nil] at hz
            injection hz with hz _
            subst hz
            cases hs
          | succ f =>
            by_cases hn : Lib.indexByte l 10 < 0
            · rw [pcs, if_pos hn] at hz
              injection hz with hz _
              subst hz
              obtain ⟨u, hu⟩ := List.isSuffixOf_iff_suffix.1 (show [10].isSuffixOf l = true from hs)
              have hge := Lib.indexByte_ge l 10
              exact absurd (show l[u.length]? = some 10 by rw [← hu, List.getElem?_append_right (Nat.le_refl _), Nat.sub_self]; rfl) (Lib.indexByte_none (by omega) u.length)
            · rw [pcs, if_neg hn] at hz
              injection hz with h1 h2
              refine ⟨_, f, ?_, h2.symm, ?_⟩
              · rw [← h1]
                exact (List.take_append_drop _ _).symm
              · rw [List.length_drop]
                omega
        rw [hr] at h
        obtain ⟨i1, i2, i3, i4, i5⟩ := ih (k + 1) f2 l2 (lnX X k z) y t (by omega) hf2 h
        have hyk : y k = lnN k z := by rw [i3 k (by omega), hX, updk_at]
        refine ⟨?_, i2, fun j hj => ?_, fun j h1 h2 => ?_, fun _ => ?_⟩
        · rw [hl, i1]
          show z ++ lns y (k + 1) n = ln k (y k) ++ lns y (k + 1) n
          rw [hyk, ← e1]
        · rw [i3 j (by omega), hX, updk_no _ _ (by omega)]
        · by_cases hj : j = k
          · subst hj
            rw [hyk]
            exact ⟨e2, e3⟩
          · exact i4 j (by omega) h2
        · by_cases hk1 : k = 0
          · exact i5 (by omega)
          · rw [i3 1 (by omega), i3 0 (by omega)]
            exact ho
      · rw [if_neg ho] at h
        injection h with _ h
        injection h with h _
        cases h
    · rw [if_neg ha] at h
      injection h with _ h
      injection h with h _
      exact absurd h ha
end Pm
end Go.Proofs.YtkblbcdinibncaaDoor
end

section
/-
  A record's bytes are read as the record, and no other bytes are: no walk. No condition.
-/
namespace Go.Proofs.YtkblbcdinibncaaDoor
open Go.RowKit Go.Shelf
set_option linter.unusedVariables false
namespace Pd
open Cd
open Pm (val_one)

/-- N reads some number of any bytes. -/
theorem rn_of (zs : List Int) (hb : Bytes zs) (k : Nat) (hk : k ≤ zs.length) (least most : Int) : ∃ x k' f', RN zs k none least most x k' f' ∧ k' ≤ zs.length ∧ ((f' = none ∧ least ≤ x ∧ x ≤ most ∧ zs.take k ++ enc x = zs.take k') ∨ (∃ e, e ≠ 0 ∧ f' = some (e, (k : Int)) ∧ k' = k ∧ x = 0)) := by
  obtain ⟨x, k', f', hr, h0, h1, ho⟩ := ru_of zs hb k hk
  rcases hr with ⟨p, h, _⟩ | ⟨_, tl, e, bad, hw, hm, hle, hx⟩
  · cases h
  rcases hm with ⟨rfl, hk', rfl⟩ | ⟨he, rfl, rfl⟩
  · rcases ho with ⟨_, h2, h3⟩ | ⟨_, _, h2, _⟩
    · by_cases hb1 : least ≤ x ∧ x ≤ most
      · exact ⟨x, k', none, .inr ⟨rfl, tl, 0, 0, ⟨x, tl, 0, bad, hw, h0, h1, .inr (.inr ⟨rfl, hb1.1, hb1.2, rfl, rfl, rfl, rfl⟩)⟩, .inl ⟨rfl, hk', rfl⟩, hle, fun h => absurd rfl h⟩, hle, .inl ⟨rfl, hb1.1, hb1.2, h3⟩⟩
      · refine ⟨0, k, some (3, (k : Int)), .inr ⟨rfl, 0, 3, (k : Int), ⟨x, tl, 0, bad, hw, h0, h1, .inr (.inl ⟨rfl, by omega, rfl, rfl, rfl, rfl⟩)⟩, .inr ⟨by decide, rfl, rfl⟩, hk, fun _ => rfl⟩, hk, .inr ⟨3, by decide, rfl, rfl, rfl⟩⟩
    · cases h2
  · have hx0 : x = 0 := hx he
    subst hx0
    rcases ho with ⟨h2, _⟩ | ⟨e', he', h2, _⟩
    · cases h2
    · injection h2 with h2
      injection h2 with h2 h3
      subst h2
      subst h3
      exact ⟨0, k', some (e, (k' : Int)), .inr ⟨rfl, 0, e, (k' : Int), ⟨0, tl, e, (k' : Int), hw, by decide, by decide, .inl ⟨he, rfl, rfl, rfl, rfl⟩⟩, .inr ⟨he, rfl, rfl⟩, hk, fun _ => rfl⟩, hk, .inr ⟨e, he, rfl, rfl, rfl⟩⟩
/-- How a number's bytes look, wherever they stand. -/
theorem encN_shape (f : Nat) : ∀ n, 0 ≤ n → n < top f → ∃ j, j ≤ f ∧ (encN f n).length = j + 1 ∧ (∀ i, i < j → 128 ≤ (encN f n).getD i 0) ∧ (encN f n).getD j 0 < 128 ∧ (0 < j → 0 < (encN f n).getD j 0) ∧ (j = f → (encN f n).getD j 0 < 2 ∨ f = 0) ∧ (f = 0 → (encN f n).getD j 0 < 2) ∧
    ∀ (zs : List Int) (k : Nat), (∀ i, i ≤ j → zs.getD (k + i) 0 = (encN f n).getD i 0) → val zs k (j + 1) = n := by
  induction f with
  | zero =>
    intro n h0 h1
    have ht : top 0 = 2 := rfl
    refine ⟨0, Nat.le_refl _, rfl, fun i hi => absurd hi (by omega), ?_, fun h => absurd h (by omega), fun _ => .inr rfl, fun _ => ?_, fun zs k h => ?_⟩
    · show n < 128; omega
    · show n < 2; omega
    · exact val_one zs k (h 0 (Nat.le_refl _)) h0 (by omega)
  | succ f ih =>
    intro n h0 h1
    have ht : top (f + 1) = 128 * top f := rfl
    rcases Int.lt_or_le n 128 with h | h
    · rw [encN_small _ h]
      refine ⟨0, Nat.zero_le _, rfl, fun i hi => absurd hi (by omega), h, fun h => absurd h (by omega), fun h => absurd h (by omega), fun h => absurd h (by omega), fun zs k hz => ?_⟩
      exact val_one zs k (hz 0 (Nat.le_refl _)) h0 h
    · rw [encN_great _ h]
      obtain ⟨j, h2, h3, h4, h5, h6, h7, h8, h9⟩ := ih (n / 128) (by omega) (by omega)
      have hd : ∀ i, ((n % 128 + 128) :: encN f (n / 128)).getD (i + 1) 0 = (encN f (n / 128)).getD i 0 := fun i => by simp
      refine ⟨j + 1, by omega, by rw [List.length_cons, h3], fun i hi => ?_, by rw [hd]; exact h5, fun _ => ?_, fun hj => .inl ?_, fun h => absurd h (by omega), fun zs k hz => ?_⟩
      · match i, hi with
        | 0, _ => show (128 : Int) ≤ n % 128 + 128; omega
        | i + 1, hi => rw [hd]; exact h4 i (by omega)
      · rw [hd]
        rcases Nat.eq_zero_or_pos j with rfl | hp
        · have hl : encN f (n / 128) = [n / 128] := by
            rcases Int.lt_or_le (n / 128) 128 with h' | h'
            · exact encN_small _ h'
            · exfalso
              cases f with
              | zero => have : top 0 = 2 := rfl; omega
              | succ f =>
                rw [encN_great _ h', List.length_cons] at h3
                have := (encN_len f (n / 128 / 128)).1
                omega
          rw [hl]
          show 0 < n / 128
          omega
        · exact h6 hp
      · rw [hd]
        rcases h7 (by omega) with h | h
        · exact h
        · exact h8 h
      · have hz0 : zs.getD k 0 = n % 128 + 128 := hz 0 (Nat.zero_le _)
        rw [val_front, hz0, h9 zs (k + 1) (fun i hi => by
          have := hz (i + 1) (by omega)
          rw [hd] at this
          rw [← this, Nat.add_assoc, Nat.add_comm 1 i])]
        show (n % 128 + 128) % 128 + 128 * (n / 128) = n
        omega
/-- A number's bytes are read as it. -/
theorem way_enc (pre post : List Int) (x : Int) (h0 : 0 ≤ x) (h1 : x ≤ 18446744073709551615) : Cd.Way (pre ++ enc x ++ post) pre.length x ((pre.length + (enc x).length : Nat) : Int) 0 0 := by
  obtain ⟨j, a1, a2, a3, a4, a5, a6, a7, a8⟩ := encN_shape 9 x h0 (by rw [top9]; omega)
  have hg : ∀ i, i ≤ j → (pre ++ enc x ++ post).getD (pre.length + i) 0 = (encN 9 x).getD i 0 := fun i hi => by
    have hl : i < (enc x).length := by show i < (encN 9 x).length; omega
    rw [List.getD_eq_getElem?_getD, List.getD_eq_getElem?_getD, List.append_assoc, List.getElem?_append_right (by omega), Nat.add_sub_cancel_left, List.getElem?_append_left hl]
    rfl
  have hlen : (enc x).length = j + 1 := a2
  refine .inr (.inr ⟨pre.length, j, rfl, by omega, by simp; omega, fun i hi => by rw [hg i (by omega)]; exact a3 i hi, by rw [hg j (Nat.le_refl _)]; exact a4, fun h => by rw [hg j (Nat.le_refl _)]; exact a5 h, fun h => ?_, (a8 _ _ hg).symm, by rw [hlen]; push_cast; omega, rfl, rfl⟩)
  rw [hg j (Nat.le_refl _)]
  have := a5 (by omega)
  rcases a6 (by omega) with h | h
  · omega
  · omega
theorem rn_enc (pre post : List Int) (x least most : Int) (h0 : 0 ≤ x) (h1 : x ≤ 18446744073709551615) (hl : least ≤ x) (hm : x ≤ most) : RN (pre ++ enc x ++ post) pre.length none least most x (pre.length + (enc x).length) none :=
  .inr ⟨rfl, _, 0, 0, ⟨x, _, 0, 0, way_enc pre post x h0 h1, h0, h1, .inr (.inr ⟨rfl, hl, hm, rfl, rfl, rfl, rfl⟩)⟩, .inl ⟨rfl, rfl, rfl⟩, by simp, fun h => absurd rfl h⟩
end Pd
namespace Pm
open Kk

/-- A record's own bytes, from the i-th field on. -/
def encF (x : Nat → Int) : Nat → Nat → List Int
  | _, 0 => []
  | k, n + 1 => Cd.enc (x k) ++ encF x (k + 1) n
theorem encF_snoc (x : Nat → Int) : ∀ (n k : Nat), encF x k (n + 1) = encF x k n ++ Cd.enc (x (k + n))
  | 0, k => by simp [encF]
  | n + 1, k => by
    show Cd.enc (x k) ++ encF x (k + 1) (n + 1) = (Cd.enc (x k) ++ encF x (k + 1) n) ++ _
    rw [encF_snoc x n (k + 1), List.append_assoc, show k + 1 + n = k + (n + 1) by omega]
theorem encs_F (x : Nat → Int) : ∀ n, encs x n = encF x 0 n
  | 0 => rfl
  | n + 1 => by
    rw [encF_snoc, Nat.zero_add, ← encs_F x n]
    rfl
theorem encs_split (x : Nat → Int) : ∀ (n k : Nat), encs x (k + n) = encs x k ++ encF x k n
  | 0, k => by simp [encF]
  | n + 1, k => by
    rw [show k + (n + 1) = (k + 1) + n by omega, encs_split x n (k + 1)]
    show encs x k ++ Cd.enc (x k) ++ encF x (k + 1) n = encs x k ++ (Cd.enc (x k) ++ encF x (k + 1) n)
    rw [List.append_assoc]
theorem preX_order {x : Nat → Int} (hx : Kinds x) (hc : Chk x 0 0) (k : Nat) : preX x (k + 1) 1 ≤ preX x (k + 1) 0 := by
  unfold preX
  rw [if_pos (show 0 < k + 1 by omega)]
  by_cases hk1 : 1 < k + 1
  · rw [if_pos hk1]
    exact hc.ok.2
  · rw [if_neg hk1]
    exact (ok_b hx hc 0 (by omega)).1
theorem to_own {x : Nat → Int} (hx : Kinds x) (hc : Chk x 0 0) : ∀ (n k : Nat), k + n = 11 → To (encs x 11) (preX x 11) (encs x 11).length none n (preX x k) (encs x k).length none := by
  intro n
  induction n with
  | zero =>
    intro k hk
    obtain rfl : k = 11 := by omega
    exact ⟨rfl, rfl, rfl⟩
  | succ n ih =>
    intro k hk
    have hb := okF_b hx k (by omega) (hc.ok.1 k (by omega))
    have hl := lohi k (by omega)
    have hs : encs x 11 = encs x k ++ Cd.enc (x k) ++ encF x (k + 1) n := by
      have := encs_split x (n + 1) k
      rw [hk] at this
      rw [this]
      show encs x k ++ (Cd.enc (x k) ++ encF x (k + 1) n) = _
      rw [List.append_assoc]
    have hr := Pd.rn_enc (encs x k) (encF x (k + 1) n) (x k) (lo k) (hi k) (by omega) (by omega) hb.1 hb.2
    rw [← hs] at hr
    refine ⟨x k, (encs x k).length + (Cd.enc (x k)).length, none, ?_, .inr ?_, ?_⟩
    · rw [show 10 - n = k by omega]
      exact hr
    · rw [show 10 - n = k by omega]
      exact hb
    · rw [show 10 - n = k by omega, preX_next, if_pos (preX_order hx hc k)]
      have := ih (k + 1) (by omega)
      rw [show (encs x (k + 1)).length = (encs x k).length + (Cd.enc (x k)).length by show (encs x k ++ Cd.enc (x k)).length = _; rw [List.length_append]] at this
      exact this
/-- A record's own bytes are read as the record. -/
theorem bytes_back {x : Nat → Int} (hx : Kinds x) (hc : Chk x 0 0) : To (encs x 11) (preX x 11) (encs x 11).length none 11 zr 0 none := to_own hx hc 11 0 rfl

/-- What any bytes are read as: a fault, or the record whose bytes they are. -/
theorem to_of (zs : List Int) (hb : Cd.Bytes zs) : ∀ (n k at_ : Nat) (X : Nat → Int), k + n = 11 → at_ ≤ zs.length → ∃ xe ke fe, To zs xe ke fe n X at_ none ∧
    ((∃ p, fe = some p ∧ p.1 ≠ 0) ∨ (fe = none ∧ ke ≤ zs.length ∧ zs.take at_ ++ encF xe k n = zs.take ke ∧ (∀ j, j < k → xe j = X j) ∧ (∀ j, k ≤ j → j < 11 → lo j ≤ xe j ∧ xe j ≤ hi j) ∧ (1 ≤ n → xe 1 ≤ xe 0))) := by
  intro n
  induction n with
  | zero =>
    intro k at_ X hk hat
    exact ⟨X, at_, none, ⟨rfl, rfl, rfl⟩, .inr ⟨rfl, hat, by simp [encF], fun _ _ => rfl, fun j h1 h2 => by omega, fun h => by omega⟩⟩
  | succ n ih =>
    intro k at_ X hk hat
    obtain ⟨v, k', f', hr, hle, hor⟩ := Pd.rn_of zs hb at_ hat (lo k) (hi k)
    have ek : 10 - n = k := by omega
    rcases hor with ⟨rfl, h1, h2, h3⟩ | ⟨e, he, rfl, rfl, rfl⟩
    · by_cases ho : upd X k v 1 ≤ upd X k v 0
      · obtain ⟨xe, ke, fe, hT, hfe⟩ := ih (k + 1) k' (upd X k v) (by omega) hle
        refine ⟨xe, ke, fe, ⟨v, k', none, by rw [ek]; exact hr, .inr (by rw [ek]; exact ⟨h1, h2⟩), by rw [ek, if_pos ho]; exact hT⟩, ?_⟩
        rcases hfe with hfe | ⟨rfl, i1, i2, i3, i4, i5⟩
        · exact .inl hfe
        · have hxk : xe k = v := by rw [i3 k (by omega), updk_at]
          refine .inr ⟨rfl, i1, ?_, fun j hj => ?_, fun j hj1 hj2 => ?_, fun _ => ?_⟩
          · rw [← i2, ← h3]
            show zs.take at_ ++ (Cd.enc (xe k) ++ encF xe (k + 1) n) = _
            rw [hxk, List.append_assoc]
          · rw [i3 j (by omega), updk_no _ _ (by omega)]
          · by_cases hj : j = k
            · subst hj
              rw [hxk]
              exact ⟨h1, h2⟩
            · exact i4 j (by omega) hj2
          · by_cases hk1 : k = 0
            · exact i5 (by omega)
            · rw [i3 1 (by omega), i3 0 (by omega)]
              exact ho
      · refine ⟨zer (upd X k v) n, k', some (9, (at_ : Int)), ⟨v, k', none, by rw [ek]; exact hr, .inr (by rw [ek]; exact ⟨h1, h2⟩), ?_⟩, .inl ⟨_, rfl, (by decide : (9 : Int) ≠ 0)⟩⟩
        rw [ek, if_neg ho]
        exact to_fault zs (9, (at_ : Int)) n _ _
    · refine ⟨zer (upd X k 0) n, k', some (e, (k' : Int)), ⟨0, k', some (e, (k' : Int)), by rw [ek]; exact hr, .inl rfl, ?_⟩, .inl ⟨_, rfl, he⟩⟩
      rw [ek]
      have e2 : (if upd X k 0 1 ≤ upd X k 0 0 then some (e, (k' : Int)) else Cd.failOf (some (e, (k' : Int))) 9 (Cd.atOf k' none)) = some (e, (k' : Int)) := by
        split
        · rfl
        · rfl
      rw [e2]
      exact to_fault zs (e, (k' : Int)) n _ _
/-- What Read answers of any bytes: no fault only where they are a record's. -/
theorem read_of (zs : List Int) (hb : Cd.Bytes zs) : ∃ xe ke fe, To zs xe ke fe 11 zr 0 none ∧ ((Cd.endOf zs.length ke fe).1 = 0 → zs = encs xe 11 ∧ Kinds xe ∧ Chk xe 0 0) := by
  obtain ⟨xe, ke, fe, hT, h⟩ := to_of zs hb 11 0 0 zr rfl (Nat.zero_le _)
  refine ⟨xe, ke, fe, hT, fun he => ?_⟩
  rcases h with ⟨p, rfl, hp⟩ | ⟨rfl, i1, i2, _, i4, i5⟩
  · exact absurd he hp
  · have hke : ke = zs.length := by
      unfold Cd.endOf at he
      by_cases hlt : ke < zs.length
      · rw [if_pos hlt] at he
        exact absurd (show (4 : Int) = 0 from he) (by decide)
      · omega
    rw [List.take_zero, List.nil_append, hke, List.take_length] at i2
    rw [encs_F]
    obtain ⟨k1, k2⟩ := chk_of (fun i hi => i4 i (Nat.zero_le _) hi) (i5 (by omega))
    exact ⟨i2.symm, k1, k2⟩
end Pm
end Go.Proofs.YtkblbcdinibncaaDoor
end

section
/-
  Two records of a call's own stored anew, and != of two structs as an operation of a region. No condition.
-/
namespace Go.Proofs.YtkblbcdinibncaaDoor
open Go.RowKit Go.Shelf
set_option linter.unusedVariables false
namespace Pm
open Kk

theorem exec_neq7 {a : Act} {o : Oper} {t t2 : TypeId} {x y : Operand} (ho : o.op = .binOp .neq t x y t2) (xs ys : Array Value) (hx : a.eval x = .agg xs) (hy : a.eval y = .agg ys) (hm : Tryd.prog.eqGuardType Tryd.prog.depth t = false)
    {b : Bool} (hb : ∀ w, (binOp .neq t (.agg xs) (.agg ys)).run Tryd.prog w = .ok (.bool b) w) (w : World) : (execOp a.eval o).run Tryd.prog w = .ok (.value (.bool b)) w := by
  unfold execOp
  simp only [ho, hx, hy, Sem.run_bind, run_eqGuard_agg (hm := hm), Result.andThen_ok, hb, Sem.run_pure]
theorem neq_rec (x : Nat → Int) (W : World) : (binOp .neq 26 (.agg (recC x).toArray) (.agg (recC x).toArray)).run Tryd.prog W = .ok (.bool false) W := by
  rw [run_neq_struct, eqIn_rec x]
  rfl
theorem part07 {P : Program} {t : TypeId} {q : IntKind} (hu : P.underlying t = some (.int q)) {xs : Array Value} {i : Nat} {v : Value} (hx : xs[i]? = some v) (w : World) : (part t xs i).run P w = .ok v w := by
  simp [part, isAgg, run_underlying hu, hx]
theorem neq_flt (W : World) : (binOp .neq 47 (.agg #[.int .i64 0, .int .i64 0]) (.agg #[.int .i64 0, .int .i64 0])).run Tryd.prog W = .ok (.bool false) W := by
  have hS : Tryd.prog.underlying 47 = some (.struct (Tryd.prog.fieldsOf 47)) := by kernel_rfl
  rw [run_neq_struct, show (10000 : Nat) = 9999 + 1 from rfl, run_equalIn_struct W 9999 _ _ _ hS (by kernel_rfl)]
  simp only [Program.fieldsOf, Tryd.underlying47]
  have p1 : ∀ w, (part 30 #[Value.int .i64 0, .int .i64 0] 0).run Tryd.prog w = .ok (.int .i64 0) w := fun w => part07 Tryd.underlying30 rfl w
  have p3 : ∀ w, (part 3 #[Value.int .i64 0, .int .i64 0] 1).run Tryd.prog w = .ok (.int .i64 0) w := fun w => part07 Tryd.underlying3 rfl w
  have q1 : (Op.equalIn 9999 30 (.int .i64 0) (.int .i64 0)).run Tryd.prog W = .ok ((0 : Int) == 0) W := run_equalIn_int W 9998 _ _ _ _ _ Tryd.underlying30
  have q2 : (Op.equalIn 9999 3 (.int .i64 0) (.int .i64 0)).run Tryd.prog W = .ok ((0 : Int) == 0) W := run_equalIn_int W 9998 _ _ _ _ _ Tryd.underlying3
  simp only [Op.eqFields]
  simp [Sem.run_ite, p1, p3, q1, q2]
theorem info_flt7 : (Tryd.prog.info? 47).map (·.size) = some 2 := by kernel_rfl
/-- Two blocks of a call's own stored anew. -/
structure Put7 (V0 W V : World) (a b : Nat) (Y F : List Value) : Prop where
  t1 : W.there a 0 Y.toArray.size
  t2 : (W.setCells a 0 Y).there b 0 F.toArray.size
  ba : Blk V a Y.toArray 26
  bb : Blk V b F.toArray 47
  bel : Bel V0 V
  kep : ∀ {c : Nat} {C : Array Value} {t : TypeId}, c ≠ a → c ≠ b → Blk W c C t → Blk V c C t
theorem put7 {V0 W : World} {a b : Nat} {C C' : Array Value} (h0 : Bel V0 W) (ha : V0.heap.size ≤ a) (hb : V0.heap.size ≤ b) (hab : a ≠ b) (hA : Blk W a C 26) (hC : C.size = 11) (hB : Blk W b C' 47) (hC' : C'.size = 2) (Y F : List Value) (hY : Y.length = 11) (hF : F.length = 2) :
    Put7 V0 W ((W.setCells a 0 Y).setCells b 0 F) a b Y F := by
  have k1 := kep_setCells a Y 0 W
  have k2 := kep_setCells b F 0 (W.setCells a 0 Y)
  have b1 : Blk (W.setCells a 0 Y) b C' 47 := hB.kep k1 (show ¬ b = a from fun e => hab e.symm)
  have a1 : Blk (W.setCells a 0 Y) a Y.toArray 26 := bwhole hA (by omega)
  exact ⟨bthere hA 0 _ (by simp [hY, hC]), bthere b1 0 _ (by simp [hF, hC']), a1.kep k2 (show ¬ a = b from hab), bwhole b1 (by omega), bel_setCells (bel_setCells h0 ha 0 Y) hb 0 F, fun h1 h2 h => (h.kep k1 h1).kep k2 h2⟩
/-- The same, where both blocks are new. -/
theorem new7 (W : World) (Y F : List Value) (hY : Y.length = 11) (hF : F.length = 2) (Z : Array Value) (hZ : Z.size = 11) (Z' : Array Value) (hZ' : Z'.size = 2) :
    Put7 W ((W.alloc (.cells Z 26)).alloc (.cells Z' 47)) ((((W.alloc (.cells Z 26)).alloc (.cells Z' 47)).setCells W.heap.size 0 Y).setCells (W.heap.size + 1) 0 F) W.heap.size (W.heap.size + 1) Y F :=
  put7 (((Bel.refl W).alloc _).alloc _) (Nat.le_refl _) (by omega) (by omega) ((Blk.new W _ _).alloc _) hZ (by
    have h := Blk.new (W.alloc (.cells Z 26)) Z' 47
    rwa [World.size_alloc] at h) hZ' Y F hY hF
theorem txt_ok {x : Nat → Int} (hc : Chk x 0 0) {s : ByteArray} {a : Int} (h : Txt x s a) : a = 0 ∧ s = textB x 11 := by
  rcases h with ⟨h1, _, h2⟩ | ⟨h1, _, b, hb⟩
  · exact ⟨h1, h2⟩
  · exact absurd (hb.uniq hc).1 h1
theorem byt_ok {x : Nat → Int} (hc : Chk x 0 0) {zs : List Int} {a : Int} (h : Byt x zs a) : a = 0 ∧ zs = encs x 11 := by
  rcases h with ⟨h1, _, h2⟩ | ⟨h1, _, b, hb⟩
  · exact ⟨h1, h2⟩
  · exact absurd (hb.uniq hc).1 h1
theorem encs_bytes {x : Nat → Int} (hx : Kinds x) (hc : Chk x 0 0) : Cd.Bytes (encs x 11) := by
  have key : ∀ k, k ≤ 11 → ∀ z ∈ encs x k, 0 ≤ z ∧ z ≤ 255 := by
    intro k
    induction k with
    | zero => intro _ z hz; cases hz
    | succ k ih =>
      intro hk z hz
      rcases List.mem_append.1 (show z ∈ encs x k ++ Cd.enc (x k) from hz) with h | h
      · exact ih (by omega) z h
      · have hb := ok_b hx hc k (by omega)
        exact Cd.enc_byte hb.1 (by omega) z h
  exact Cd.bytes_of (key 11 (Nat.le_refl _))
theorem prs_own {x : Nat → Int} (hx : Kinds x) (hc : Chk x 0 0) : prs 0 zr (pcs (textB x 11).data.toList.length (textB x 11).data.toList) = (preX x 11, 0, 0) := by
  rw [text_lns]
  exact text_back hx hc
theorem prs_back {s : ByteArray} {y : Nat → Int} {t : Int} (h : prs 0 zr (pcs s.data.toList.length s.data.toList) = (y, 0, t)) : Kinds y ∧ Chk y 0 0 ∧ textB y 11 = s := by
  obtain ⟨h1, _, _, h4, h5⟩ := text_of 11 0 _ _ _ _ _ rfl (Nat.le_refl _) h
  obtain ⟨k1, k2⟩ := chk_of (fun i hi => h4 i (Nat.zero_le _) hi) (h5 (by omega))
  refine ⟨k1, k2, ByteArray.ext (Array.toList_inj.1 ?_)⟩
  rw [text_lns]
  exact h1.symm
end Pm
end Go.Proofs.YtkblbcdinibncaaDoor
end
