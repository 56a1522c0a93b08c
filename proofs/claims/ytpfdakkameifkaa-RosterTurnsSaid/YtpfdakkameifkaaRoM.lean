/-
  What rosters are, and what becomes of them: plain functions and their mathematics. No program.
-/
import Derived.Test.YtpfdakkameifkaaRw
namespace Go.Proofs.Ytpfdakkameifkaa
open Go.RowKit Go.Shelf
set_option linter.unusedVariables false
namespace Ro

/-- A validator: operator, minself, status, until, and whether it was punished for attestations, for proposals. -/
abbrev V6 := Int × Int × Int × Int × Bool × Bool
def vC : V6 → List Value
  | (o, m, s, u, a, p) => [.int .i64 o, .int .u64 m, .int .i64 s, .int .i64 u, .bool a, .bool p]
def vR : Rw.Row V6 where
  k := vC
  z := 6
  len := fun _ => rfl
  one := fun r u hu => by
    obtain ⟨a, b, c, d, e, f⟩ := r
    simp [vC] at hu
    rcases hu with rfl | rfl | rfl | rfl | rfl | rfl <;> rfl
  pos := by decide
def op : V6 → Int
  | (o, _) => o
def st : V6 → Int
  | (_, _, s, _) => s
def un : V6 → Int
  | (_, _, _, u, _) => u
def att : V6 → Bool
  | (_, _, _, _, a, _) => a
def pro : V6 → Bool
  | (_, _, _, _, _, p) => p
def rngB (o s u : Int) : Bool := decide (0 ≤ o ∧ o < 64 ∧ 1 ≤ s ∧ s ≤ 4 ∧ 0 ≤ u ∧ u ≤ 4296015872)
def agrB (s u : Int) (a p : Bool) : Bool := (decide (s = 4) == a) && (!(decide (s = 3) || a || p) || !decide (u = 0))
/-- The error of a validator, where it is known whether its operator has one ahead of it. -/
def vE (h : Bool) : V6 → Int
  | (o, m, s, u, a, p) => if rngB o s u = false then 3 else if m = 0 then 2 else if h = true then 8 else if agrB s u a p = false then 11 else 0
/-- The first validator of an operator. -/
def fnd (l : List V6) (o : Int) : Option Nat := l.findIdx? (fun r => decide (op r = o))
def has (l : List V6) (o : Int) : Bool := (fnd l o).isSome
theorem fnd_take {l : List V6} {k : Nat} {r : V6} (h : l[k]? = some r) (o : Int) : fnd (l.take (k + 1)) o = (fnd (l.take k) o).or (if op r = o then some k else none) := by
  have hk := (List.getElem?_eq_some_iff.1 h).1
  have e : l.take (k + 1) = l.take k ++ [r] := by rw [List.take_add_one, h]; rfl
  unfold fnd
  rw [e, List.findIdx?_append]
  congr 1
  by_cases hr : op r = o
  · simp [hr, List.length_take, Nat.min_eq_left (Nat.le_of_lt hk)]
  · simp [hr]
theorem fnd_stay {l : List V6} {k : Nat} {o : Int} {i : Nat} (h : fnd (l.take k) o = some i) : fnd l o = some i := by
  have e : l = l.take k ++ l.drop k := (List.take_append_drop k l).symm
  rw [show fnd l o = fnd (l.take k ++ l.drop k) o by rw [← e]]
  unfold fnd at h ⊢
  rw [List.findIdx?_append, h]; rfl
theorem fnd_lt {l : List V6} {o : Int} {i : Nat} (h : fnd l o = some i) : ∃ r, l[i]? = some r ∧ op r = o := by
  unfold fnd at h
  rw [List.findIdx?_eq_some_iff_getElem] at h
  obtain ⟨h1, h2, _⟩ := h
  exact ⟨_, List.getElem?_eq_getElem h1, by simpa using h2⟩
theorem fnd_none {l : List V6} {o : Int} : fnd l o = none ↔ ∀ r ∈ l, op r ≠ o := by
  unfold fnd
  rw [List.findIdx?_eq_none_iff]
  exact ⟨fun h r hr => of_decide_eq_false (h r hr), fun h r hr => decide_eq_false (h r hr)⟩
theorem has_iff {l : List V6} {o : Int} : has l o = true ↔ ∃ r ∈ l, op r = o := by
  unfold has
  cases h : fnd l o with
  | none => simpa using fnd_none.1 h
  | some i =>
    obtain ⟨r, h1, h2⟩ := fnd_lt h
    exact ⟨fun _ => ⟨r, List.mem_of_getElem? h1, h2⟩, fun _ => rfl⟩
/-- Where the map of all has the operator of x, which stands at k. -/
theorem fnd_at {l : List V6} {k : Nat} {r : V6} (h : l[k]? = some r) : ∃ j, fnd l (op r) = some j ∧ j ≤ k ∧ has (l.take k) (op r) = decide (j < k) := by
  cases hf : fnd (l.take k) (op r) with
  | some j =>
    obtain ⟨y, h1, h2⟩ := fnd_lt hf
    have := (List.getElem?_eq_some_iff.1 h1).1
    rw [List.length_take] at this
    refine ⟨j, fnd_stay hf, by omega, ?_⟩
    unfold has
    rw [hf, decide_eq_true (by omega)]
    rfl
  | none =>
    have := fnd_take h (op r)
    rw [hf, if_pos rfl] at this
    refine ⟨k, fnd_stay (k := k + 1) this, Nat.le_refl _, ?_⟩
    unfold has
    rw [hf, decide_eq_false (by omega)]
    rfl
/-- The error of the validator k behind those ahead of it. -/
def eA (l : List V6) (k : Nat) : Int := (l[k]?).elim 0 (fun r => vE (has (l.take k) (op r)) r)
theorem eA_at {l : List V6} {k : Nat} {r : V6} (h : l[k]? = some r) : eA l k = vE (has (l.take k) (op r)) r := by
  unfold eA; rw [h]; rfl
/-- The first error, from k on. -/
def ckF (l : List V6) : Nat → Nat → Int × Nat
  | 0, _ => (0, 0)
  | f + 1, k => if eA l k = 0 then ckF l f (k + 1) else (eA l k, k)
def chk (l : List V6) : Int × Nat := if 32 < l.length then (4, 32) else ckF l l.length 0
theorem ckF_at (l : List V6) : ∀ (f k j : Nat), (∀ i, k ≤ i → i < j → eA l i = 0) → k ≤ j → j < k + f → eA l j ≠ 0 → ckF l f k = (eA l j, j)
  | 0, k, j, _, h1, h2, _ => by omega
  | f + 1, k, j, h, h1, h2, h3 => by
    unfold ckF
    by_cases hk : k = j
    · subst hk
      rw [if_neg h3]
    · rw [if_pos (h k (Nat.le_refl _) (by omega))]
      exact ckF_at l f (k + 1) j (fun i h4 h5 => h i (by omega) h5) (by omega) (by omega) h3
theorem ckF_end (l : List V6) : ∀ (f k : Nat), (∀ i, k ≤ i → i < k + f → eA l i = 0) → ckF l f k = (0, 0)
  | 0, k, _ => rfl
  | f + 1, k, h => by
    unfold ckF
    rw [if_pos (h k (Nat.le_refl _) (by omega))]
    exact ckF_end l f (k + 1) (fun i h4 h5 => h i (by omega) (by omega))
theorem ckF_inv (l : List V6) : ∀ (f k : Nat), (ckF l f k).1 = 0 → ∀ i, k ≤ i → i < k + f → eA l i = 0
  | 0, k, _, i, h1, h2 => by omega
  | f + 1, k, h, i, h1, h2 => by
    unfold ckF at h
    by_cases h0 : eA l k = 0
    · rw [if_pos h0] at h
      by_cases hk : i = k
      · rw [hk]; exact h0
      · exact ckF_inv l f (k + 1) h i (by omega) (by omega)
    · rw [if_neg h0] at h
      exact absurd h h0
theorem chk_long {l : List V6} (h : 32 < l.length) : chk l = (4, 32) := if_pos h
theorem chk_at {l : List V6} {k : Nat} (hl : ¬ 32 < l.length) (h : ∀ i, i < k → eA l i = 0) (hk : k < l.length) (h0 : eA l k ≠ 0) : chk l = (eA l k, k) := by
  unfold chk
  rw [if_neg hl]
  exact ckF_at l _ 0 k (fun i _ h2 => h i h2) (by omega) (by omega) h0
theorem chk_end {l : List V6} (hl : ¬ 32 < l.length) (h : ∀ i, i < l.length → eA l i = 0) : chk l = (0, 0) := by
  unfold chk
  rw [if_neg hl]
  exact ckF_end l _ 0 (fun i _ h2 => h i (by omega))
theorem chk_ok {l : List V6} : (chk l).1 = 0 ↔ l.length ≤ 32 ∧ ∀ i, i < l.length → eA l i = 0 := by
  constructor
  · intro h
    by_cases hl : 32 < l.length
    · rw [chk_long hl] at h; cases h
    · refine ⟨by omega, fun i hi => ?_⟩
      unfold chk at h
      rw [if_neg hl] at h
      exact ckF_inv l _ 0 h i (by omega) (by omega)
  · rintro ⟨h1, h2⟩
    rw [chk_end (by omega) h2]
theorem chk_ok2 {l : List V6} (h : (chk l).1 = 0) : chk l = (0, 0) := by
  obtain ⟨h1, h2⟩ := chk_ok.1 h
  exact chk_end (by omega) h2
/-- What a good validator is. -/
def Gd : V6 → Prop
  | (o, m, s, u, a, p) => 0 ≤ o ∧ o < 64 ∧ m ≠ 0 ∧ 1 ≤ s ∧ s ≤ 4 ∧ 0 ≤ u ∧ u ≤ 4296015872 ∧ (s = 4 ↔ a = true) ∧ ((s = 3 ∨ a = true ∨ p = true) → u ≠ 0)
theorem agr_iff {s u : Int} {a p : Bool} : agrB s u a p = true ↔ (s = 4 ↔ a = true) ∧ ((s = 3 ∨ a = true ∨ p = true) → u ≠ 0) := by
  unfold agrB
  cases a <;> cases p <;> by_cases h1 : s = 4 <;> by_cases h2 : s = 3 <;> by_cases h3 : u = 0 <;> simp [h1, h2, h3]
theorem rng_iff {o s u : Int} : rngB o s u = true ↔ 0 ≤ o ∧ o < 64 ∧ 1 ≤ s ∧ s ≤ 4 ∧ 0 ≤ u ∧ u ≤ 4296015872 := by
  unfold rngB; exact decide_eq_true_iff
theorem vE_ok {h : Bool} {r : V6} : vE h r = 0 ↔ Gd r ∧ h = false := by
  obtain ⟨o, m, s, u, a, p⟩ := r
  have h1 := @rng_iff o s u
  have h2 := @agr_iff s u a p
  show (if rngB o s u = false then (3 : Int) else if m = 0 then 2 else if h = true then 8 else if agrB s u a p = false then 11 else 0) = 0 ↔ (0 ≤ o ∧ o < 64 ∧ m ≠ 0 ∧ 1 ≤ s ∧ s ≤ 4 ∧ 0 ≤ u ∧ u ≤ 4296015872 ∧ (s = 4 ↔ a = true) ∧ ((s = 3 ∨ a = true ∨ p = true) → u ≠ 0)) ∧ h = false
  cases hx : rngB o s u
  · rw [if_pos rfl]
    have : ¬ (0 ≤ o ∧ o < 64 ∧ 1 ≤ s ∧ s ≤ 4 ∧ 0 ≤ u ∧ u ≤ 4296015872) := fun h => by rw [← h1, hx] at h; cases h
    constructor
    · intro h; cases h
    · rintro ⟨⟨q1, q2, q3, q4, q5, q6, q7, q8⟩, _⟩
      exact absurd ⟨q1, q2, q4, q5, q6, q7⟩ this
  · rw [if_neg (by decide)]
    have q := h1.1 hx
    by_cases hm : m = 0
    · rw [if_pos hm]
      exact ⟨fun h => (by cases h), fun h => absurd hm h.1.2.2.1⟩
    · rw [if_neg hm]
      cases h
      · rw [if_neg (by decide)]
        cases hy : agrB s u a p
        · rw [if_pos rfl]
          have : ¬ ((s = 4 ↔ a = true) ∧ ((s = 3 ∨ a = true ∨ p = true) → u ≠ 0)) := fun h => by rw [← h2, hy] at h; cases h
          exact ⟨fun h => (by cases h), fun h => absurd h.1.2.2.2.2.2.2.2 this⟩
        · rw [if_neg (by decide)]
          exact ⟨fun _ => ⟨⟨q.1, q.2.1, hm, q.2.2.1, q.2.2.2.1, q.2.2.2.2.1, q.2.2.2.2.2, h2.1 hy⟩, rfl⟩, fun _ => rfl⟩
      · rw [if_pos rfl]
        exact ⟨fun h => (by cases h), fun h => by cases h.2⟩
/-- A roster that may be. -/
def Ok (l : List V6) : Prop := l.length ≤ 32 ∧ ∀ (k : Nat) (r : V6), l[k]? = some r → Gd r ∧ has (l.take k) (op r) = false
theorem ok_iff {l : List V6} : (chk l).1 = 0 ↔ Ok l := by
  rw [chk_ok]
  constructor
  · rintro ⟨h1, h2⟩
    refine ⟨h1, fun k r hr => ?_⟩
    have := h2 k (List.getElem?_eq_some_iff.1 hr).1
    rw [eA_at hr] at this
    exact vE_ok.1 this
  · rintro ⟨h1, h2⟩
    refine ⟨h1, fun k hk => ?_⟩
    have hr := List.getElem?_eq_getElem hk
    rw [eA_at hr]
    exact vE_ok.2 (h2 k _ hr)

/-- Create. -/
def crE (l : List V6) (o m : Int) : Int := if (chk l).1 ≠ 0 then (chk l).1 else if ¬ (0 ≤ o ∧ o < 64) then 3 else if m = 0 then 2 else if has l o = true then 8 else if l.length = 32 then 7 else 0
def newV (o m : Int) : V6 := (o, m, 1, 0, false, false)
def crL (l : List V6) (o m : Int) : List V6 := if crE l o m = 0 then l ++ [newV o m] else []
def crN (l : List V6) (o m : Int) : Nat := if crE l o m = 0 then l.length else 0
/-- The validator v, if there is one. -/
def nth (l : List V6) (v : Int) : Option V6 := if 0 ≤ v then l[v.toNat]? else none
def reE (l : List V6) (v : Int) : Int := (nth l v).elim 10 (fun r => if st r = 4 then 20 else 0)
def free (r : V6) : Bool := decide (st r = 1) || decide (st r = 2)
def acts (r : V6) : Bool := decide (st r = 2)
/-- Choose. -/
def clash : List V6 → List Bool → Bool
  | r :: l, b :: bs => (b && !free r) || clash l bs
  | _, _ => false
def chE (l : List V6) (b : List Bool) : Int := if (chk l).1 ≠ 0 then (chk l).1 else if b.length ≠ l.length then 2 else if clash l b = true then 11 else 0
def setS (s : Int) : V6 → V6
  | (o, m, _, u, a, p) => (o, m, s, u, a, p)
def pick (r : V6) (b : Bool) : V6 := if free r = true then setS (if b = true then 2 else 1) r else r
def chL (l : List V6) (b : List Bool) : List V6 := if chE l b = 0 then l.zipWith pick b else []
def untB (n : Int) : Bool := decide (1 ≤ n ∧ n ≤ 4296015872)
/-- What is changed in a roster. -/
def upd (l : List V6) (v : Int) (E : Int) (f : V6 → V6) : List V6 := if E = 0 then (match nth l v with | some r => l.set v.toNat (f r) | none => []) else []
/-- The error of a change: of the roster, of the number, of what is changed. -/
def cgE (l : List V6) (v : Int) (e : V6 → Int) : Int := if (chk l).1 ≠ 0 then (chk l).1 else (nth l v).elim 10 e
def jaE (tl : Int) (r : V6) : Int := if st r = 4 then 20 else if untB tl = false then 3 else 0
def jaF (tl : Int) : V6 → V6
  | (o, m, _, u, a, p) => (o, m, 3, max u tl, a, p)
def unE (b h : Int) (r : V6) : Int := if b ≠ op r then 24 else if st r = 4 then 20 else if free r = true then 11 else if h < un r then 21 else 0
def pdE (l : List V6) (v c : Int) : Int := if (chk l).1 ≠ 0 then (chk l).1 else if ¬ (c = 1 ∨ c = 2) then 2 else (nth l v).elim 10 (fun r => if st r = 4 then 20 else if c = 2 ∧ pro r = true then 19 else 0)
def puE (l : List V6) (v c tl : Int) : Int := if pdE l v c ≠ 0 then pdE l v c else if untB tl = false then 3 else 0
def puF (c tl : Int) : V6 → V6
  | (o, m, _, u, a, p) => if c = 1 then (o, m, 4, max u tl, true, p) else (o, m, 3, max u tl, a, true)
end Ro
end Go.Proofs.Ytpfdakkameifkaa
