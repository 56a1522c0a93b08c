/-
  What stamp.Check answers: any stamp. No condition.
-/
import Derived.Deep.RegionHeld3
import Derived.Deep.Cut
import Derived.Deep.DeepCutAuto
import Derived.Test.YtcefjigbaglmeaaGreatGKit
import Derived.Test.YtcefjigbaglmeaaGreatGPMem
namespace Go.Proofs.YtcefjigbaglmeaaGreat
open Go.RowKit Go.Shelf
set_option linter.unusedVariables false
namespace Sm
open Kk

/-- A stamp: Validator, Since, Prior, From. -/
abbrev stV (a b c d : Int) : Value := .agg #[.int .i64 a, .int .i64 b, .int .i64 c, .int .i64 d]
/-- Why a stamp may not be. -/
def ck (a b c d : Int) : Int :=
  if (a < 0 ∨ 31 < a) ∨ (b < 1 ∨ 4294967296 < b) ∨ (c < -1 ∨ 31 < c) ∨ (d < 0 ∨ 4294967296 < d) then 3
  else if c = a then 2 else if (c = -1 ∧ d ≠ 0) ∨ (c ≠ -1 ∧ d = 0) then 11 else if b < d then 9 else 0

/-- Objections, in memory. -/
def cellsO : List (Bool × Int) → List Value
  | [] => []
  | (p, e) :: l => .bool p :: .int .i64 e :: cellsO l
/-- The first that holds. -/
def idx : List (Bool × Int) → Nat → Int
  | [], _ => -1
  | (p, _) :: l, k => if p then (k : Int) else idx l (k + 1)
theorem cellsO_at : ∀ (l : List (Bool × Int)) (i : Nat) (p : Bool) (e : Int), l[i]? = some (p, e) → (cellsO l)[2 * i]? = some (.bool p) ∧ (cellsO l)[2 * i + 1]? = some (.int .i64 e)
  | [], i, p, e, h => by simp at h
  | (q, f) :: l, 0, p, e, h => by simp at h; obtain ⟨rfl, rfl⟩ := h; exact ⟨rfl, rfl⟩
  | (q, f) :: l, i + 1, p, e, h => by
    have := cellsO_at l i p e (by simpa using h)
    rw [show 2 * (i + 1) = 2 * i + 1 + 1 by omega]
    exact this
theorem idx_at : ∀ (l : List (Bool × Int)) (i k : Nat) (e : Int), l[i]? = some (true, e) → (∀ (j : Nat) (p : Bool) (f : Int), j < i → l[j]? = some (p, f) → p = false) → idx l k = ((k + i : Nat) : Int)
  | [], i, k, e, h, _ => by simp at h
  | (q, f) :: l, 0, k, e, h, _ => by simp at h; obtain ⟨rfl, rfl⟩ := h; simp [idx]
  | (q, f) :: l, i + 1, k, e, h, hb => by
    obtain rfl : q = false := hb 0 q f (by omega) rfl
    have := idx_at l i (k + 1) e (by simpa using h) (fun j p f hj hl => hb (j + 1) p f (by omega) (by simpa using hl))
    show (if (false : Bool) = true then (k : Int) else idx l (k + 1)) = _
    rw [if_neg (by decide), this]
    push_cast
    omega
theorem idx_no : ∀ (l : List (Bool × Int)) (k : Nat), (∀ (j : Nat) (p : Bool) (f : Int), l[j]? = some (p, f) → p = false) → idx l k = -1
  | [], k, _ => rfl
  | (q, f) :: l, k, hb => by
    obtain rfl : q = false := hb 0 q f rfl
    show (if (false : Bool) = true then (k : Int) else idx l (k + 1)) = _
    rw [if_neg (by decide), idx_no l (k + 1) (fun j p f hl => hb (j + 1) p f (by simpa using hl))]

theorem holds (p : Bool) (e : Int) (w : World) : Calls Tryz.prog 83 #[.agg #[.bool p, .int .i64 e]] w fun r w' => r = .returned (.bool p) ∧ Bel w w' := by
  go_enter Tryz.func83, Tryz.ntmps83
  go_wp2
  go_ret
  exact ⟨rfl, (Bel.refl _).alloc _⟩

set_option maxHeartbeats 1000000 in
theorem indexFunc (g : Nat) (l : List (Bool × Int)) (n : Nat) (w : World) (hl : l.length = n) (hn : n ≤ 100) (h : Blk w g (cellsO l).toArray 119) :
    Calls Tryz.prog 82 #[.slice (some ⟨g, 0, none⟩) n n, .func (.func 83) #[] #[]] w fun e w' => e = .returned (.int .i64 (idx l 0)) ∧ Bel w w' := by
  have H := Lib.hid h
  have HL := Lib.hid hl
  clear h hl
  go_enter Tryz.func82, Tryz.ntmps82
  go_wp2_with fail
  go_loopw [8] (fun i wr => ∃ k : Nat, k ≤ n ∧ i = .int .i64 k ∧ Hid ((∀ j p f, j < k → l[j]? = some (p, f) → p = false) ∧ Bel w wr)) (fun i _ => n - (intOf i).toNat)
  case atStart => exact ⟨0, Nat.zero_le _, rfl, Lib.hid ⟨fun j p f hj => absurd hj (by omega), Bel.refl _⟩⟩
  case round =>
    obtain ⟨k, hk, rfl, hh⟩ := hrel
    by_cases hlt : k < n
    · obtain ⟨p, e, hpe⟩ : ∃ p e, l[k]? = some (p, e) := by
        have : k < l.length := by rw [HL.out]; exact hlt
        exact ⟨l[k].1, l[k].2, List.getElem?_eq_getElem this⟩
      have HPE := Lib.hid hpe
      obtain ⟨e0, e1⟩ := cellsO_at l k p e hpe
      have BW := Lib.hid (H.out.bel hh.out.2)
      have c0 : wr.cell? ⟨g, k * 2, none⟩ = some (.bool p) := BW.out.cell _ (by rw [List.getElem?_toArray, Nat.mul_comm]; exact e0)
      have c1 : wr.cell? ⟨g, k * 2 + 1, none⟩ = some (.int .i64 e) := BW.out.cell _ (by rw [List.getElem?_toArray, Nat.mul_comm]; exact e1)
      have HO := Lib.hid (holds p e)
      clear hpe e0 e1
      have hlt3 : (k : Int) < n := by omega
      go_wp2_with fail
      refine (HO.out _).mono ?_
      rintro r w1 ⟨rfl, kb⟩
      have KB := Lib.hid (hh.out.2.trans kb)
      clear kb
      cases p
      · go_wp2_with fail
        go_roundw
        case rel =>
          refine ⟨k + 1, by omega, by go_num, Lib.hid ⟨fun j p f hj hp => ?_, KB.out⟩⟩
          rcases Nat.lt_or_ge j k with h' | h'
          · exact hh.out.1 j p f h' hp
          · obtain rfl : j = k := by omega
            have := HPE.out.symm.trans hp
            simp at this
            exact this.1
        case measure => simp [intOf]; omega
      · go_wp2_with fail
        go_ret
        refine ⟨?_, KB.out⟩
        rw [idx_at l k 0 e HPE.out (fun j p f hj hp => hh.out.1 j p f hj hp), Nat.zero_add]
        rfl
    · obtain rfl : k = n := by omega
      go_wp2_with fail
      go_ret
      refine ⟨?_, hh.out.2⟩
      rw [idx_no l 0 (fun j p f hp => hh.out.1 j p f (by rw [← HL.out]; exact (List.getElem?_eq_some_iff.1 hp).1) hp)]
      rfl

/-- The seven objections. -/
def obj (a b c d : Int) : List (Bool × Int) :=
  [(decide (a < 0 ∨ 31 < a), 3), (decide (b < 1 ∨ 4294967296 < b), 3), (decide (c < -1 ∨ 31 < c), 3), (decide (d < 0 ∨ 4294967296 < d), 3), (decide (c = a), 2), (decide ((c = -1 ∧ d ≠ 0) ∨ (c ≠ -1 ∧ d = 0)), 11), (decide (b < d), 9)]
theorem obj_ck (a b c d : Int) : (idx (obj a b c d) 0 = -1 ∧ ck a b c d = 0) ∨ ∃ i : Nat, i < 7 ∧ idx (obj a b c d) 0 = i ∧ (obj a b c d)[i]? = some (true, ck a b c d) := by
  unfold obj ck
  by_cases h1 : a < 0 ∨ 31 < a
  · rw [decide_eq_true h1, if_pos (.inl h1)]; exact .inr ⟨0, by omega, rfl, rfl⟩
  by_cases h2 : b < 1 ∨ 4294967296 < b
  · rw [decide_eq_false h1, decide_eq_true h2, if_pos (.inr (.inl h2))]; exact .inr ⟨1, by omega, rfl, rfl⟩
  by_cases h3 : c < -1 ∨ 31 < c
  · rw [decide_eq_false h1, decide_eq_false h2, decide_eq_true h3, if_pos (.inr (.inr (.inl h3)))]; exact .inr ⟨2, by omega, rfl, rfl⟩
  by_cases h4 : d < 0 ∨ 4294967296 < d
  · rw [decide_eq_false h1, decide_eq_false h2, decide_eq_false h3, decide_eq_true h4, if_pos (.inr (.inr (.inr h4)))]; exact .inr ⟨3, by omega, rfl, rfl⟩
  have h0 : ¬ ((a < 0 ∨ 31 < a) ∨ (b < 1 ∨ 4294967296 < b) ∨ (c < -1 ∨ 31 < c) ∨ (d < 0 ∨ 4294967296 < d)) := by omega
  rw [decide_eq_false h1, decide_eq_false h2, decide_eq_false h3, decide_eq_false h4, if_neg h0]
  by_cases h5 : c = a
  · rw [decide_eq_true h5, if_pos h5]; exact .inr ⟨4, by omega, rfl, rfl⟩
  rw [decide_eq_false h5, if_neg h5]
  by_cases h6 : (c = -1 ∧ d ≠ 0) ∨ (c ≠ -1 ∧ d = 0)
  · rw [decide_eq_true h6, if_pos h6]; exact .inr ⟨5, by omega, rfl, rfl⟩
  rw [decide_eq_false h6, if_neg h6]
  by_cases h7 : b < d
  · rw [decide_eq_true h7, if_pos h7]; exact .inr ⟨6, by omega, rfl, rfl⟩
  rw [decide_eq_false h7, if_neg h7]
  exact .inl ⟨rfl, rfl⟩

theorem two {p q : Prop} [Decidable p] [Decidable q] {A : Bool} (h : decide (p ∨ q) = A) : (decide p = true ∧ A = true) ∨ (decide p = false ∧ decide q = A) := by
  by_cases hp : p
  · exact .inl ⟨decide_eq_true hp, by rw [← h]; exact decide_eq_true (.inl hp)⟩
  · refine .inr ⟨decide_eq_false hp, ?_⟩
    rw [← h]
    by_cases hq : q
    · rw [decide_eq_true hq, decide_eq_true (p := p ∨ q) (.inr hq)]
    · rw [decide_eq_false hq, decide_eq_false (p := p ∨ q) (by rintro (h | h); exact hp h; exact hq h)]
theorem odd {c d : Int} {A : Bool} (h : decide ((c = -1 ∧ d ≠ 0) ∨ (c ≠ -1 ∧ d = 0)) = A) : (!((c == -1) == (d == 0))) = A := by
  rw [← h]
  by_cases h1 : c = -1
  · subst h1
    by_cases h2 : d = 0
    · subst h2; rfl
    · rw [beq_eq_false_iff_ne.2 h2, decide_eq_true (.inl ⟨rfl, h2⟩)]; rfl
  · rw [beq_eq_false_iff_ne.2 h1]
    by_cases h2 : d = 0
    · subst h2; rw [decide_eq_true (.inr ⟨h1, rfl⟩)]; rfl
    · rw [beq_eq_false_iff_ne.2 h2, decide_eq_false (by rintro (⟨h, _⟩ | ⟨_, h⟩); exact h1 h; exact h2 h)]; rfl
end Sm
end Go.Proofs.YtcefjigbaglmeaaGreat
