/-
  Plain arithmetic of great numbers as lists of digits to the base 65536 (no Go program in sight): what a list of digits comes to, and how that grows, is cut and is compared.
  Conditions: digits are from 0 to 65535.
-/
import Derived.Below
namespace Go.Proofs.Ytmbodfmdaocppaa
namespace Gt

/-- What the first k digits come to. -/
def valTo (zs : List Int) : Nat → Int
  | 0 => 0
  | k + 1 => valTo zs k + zs.getD k 0 * 65536 ^ k
def Dig (zs : List Int) : Prop := ∀ i, 0 ≤ zs.getD i 0 ∧ zs.getD i 0 ≤ 65535
theorem dig_nil : Dig [] := fun i => by simp
theorem pow_pos (k : Nat) : (0 : Int) < 65536 ^ k := Int.pow_pos (by decide)
theorem pow_succ (k : Nat) : (65536 : Int) ^ (k + 1) = 65536 ^ k * 65536 := Int.pow_succ _ _
theorem valTo_nil (k : Nat) : valTo [] k = 0 := by
  induction k with
  | zero => rfl
  | succ k ih => show valTo [] k + _ = 0; rw [ih]; simp
theorem valTo_congr {xs ys : List Int} {k : Nat} (h : ∀ i, i < k → xs.getD i 0 = ys.getD i 0) : valTo xs k = valTo ys k := by
  induction k with
  | zero => rfl
  | succ k ih =>
    show valTo xs k + _ = valTo ys k + _
    rw [ih fun i hi => h i (by omega), h k (by omega)]
theorem getD_snoc_lt {ys : List Int} {y : Int} {i : Nat} (h : i < ys.length) : (ys ++ [y]).getD i 0 = ys.getD i 0 := by
  simp [List.getD_eq_getElem?_getD, List.getElem?_append_left h]
theorem getD_snoc_at {ys : List Int} {y : Int} : (ys ++ [y]).getD ys.length 0 = y := by
  simp [List.getD_eq_getElem?_getD]
theorem getD_ge {ys : List Int} {i : Nat} (h : ys.length ≤ i) : ys.getD i 0 = 0 := by
  simp [List.getD_eq_getElem?_getD, List.getElem?_eq_none h]
theorem dig_snoc {ys : List Int} {y : Int} (h : Dig ys) (y0 : 0 ≤ y) (y1 : y ≤ 65535) : Dig (ys ++ [y]) := by
  intro i
  rcases Nat.lt_trichotomy i ys.length with hi | hi | hi
  · rw [getD_snoc_lt hi]; exact h i
  · subst hi; rw [getD_snoc_at]; exact ⟨y0, y1⟩
  · rw [getD_ge (by simp; omega)]; exact ⟨by decide, by decide⟩
theorem valTo_snoc {ys : List Int} {y : Int} : valTo (ys ++ [y]) (ys.length + 1) = valTo ys ys.length + y * 65536 ^ ys.length := by
  show valTo (ys ++ [y]) ys.length + (ys ++ [y]).getD ys.length 0 * _ = _
  rw [getD_snoc_at, valTo_congr fun i hi => getD_snoc_lt hi]
theorem valTo_beyond {zs : List Int} {k : Nat} (h : zs.length ≤ k) : valTo zs k = valTo zs zs.length := by
  induction k with
  | zero => rw [show zs.length = 0 by omega]
  | succ k ih =>
    rcases Nat.lt_or_ge k zs.length with hlt | hge
    · rw [show zs.length = k + 1 by omega]
    · show valTo zs k + zs.getD k 0 * _ = _
      rw [ih hge, getD_ge hge]; omega
theorem valTo_bounds {zs : List Int} (h : Dig zs) (k : Nat) : 0 ≤ valTo zs k ∧ valTo zs k < 65536 ^ k := by
  induction k with
  | zero => exact ⟨Int.le_refl _, show (0 : Int) < 65536 ^ 0 by decide⟩
  | succ k ih =>
    have hd := h k
    have h1 : 0 ≤ zs.getD k 0 * 65536 ^ k := Int.mul_nonneg hd.1 (Int.le_of_lt (pow_pos k))
    have h2 : zs.getD k 0 * 65536 ^ k ≤ 65535 * 65536 ^ k := Int.mul_le_mul_of_nonneg_right hd.2 (Int.le_of_lt (pow_pos k))
    show 0 ≤ valTo zs k + _ ∧ valTo zs k + _ < _
    rw [pow_succ]
    generalize zs.getD k 0 * 65536 ^ k = t at *
    generalize (65536 : Int) ^ k = p at *
    omega
/-- A list whose last digit is not 0. -/
def Full (zs : List Int) (n : Nat) : Prop := 0 < n → zs.getD (n - 1) 0 ≠ 0
theorem valTo_full {zs : List Int} (h : Dig zs) {n : Nat} (hf : Full zs n) (hn : 0 < n) : 65536 ^ (n - 1) ≤ valTo zs n := by
  obtain ⟨k, rfl⟩ : ∃ k, n = k + 1 := ⟨n - 1, by omega⟩
  have hk : zs.getD k 0 ≠ 0 := hf hn
  have h1 := (valTo_bounds h k).1
  have h2 := h k
  have h3 : 1 * 65536 ^ k ≤ zs.getD k 0 * 65536 ^ k := Int.mul_le_mul_of_nonneg_right (by omega) (Int.le_of_lt (pow_pos k))
  show 65536 ^ k ≤ valTo zs k + zs.getD k 0 * 65536 ^ k
  generalize zs.getD k 0 * 65536 ^ k = t at *
  generalize (65536 : Int) ^ k = p at *
  omega
theorem pow_mono {a b : Nat} (h : a ≤ b) : (65536 : Int) ^ a ≤ 65536 ^ b := by
  induction b with
  | zero => rw [show a = 0 by omega]; exact Int.le_refl _
  | succ b ih =>
    rcases Nat.lt_or_ge b a with hlt | hge
    · rw [show a = b + 1 by omega]; exact Int.le_refl _
    · have := ih hge
      have := pow_pos b
      rw [pow_succ]; omega
/-- Fewer digits: a lesser number. -/
theorem less_len {xs ys : List Int} (hx : Dig xs) (hy : Dig ys) {n m : Nat} (hf : Full ys m) (h : n < m) : valTo xs n < valTo ys m := by
  have h1 := (valTo_bounds hx n).2
  have h2 := valTo_full hy hf (by omega)
  have h3 : (65536 : Int) ^ n ≤ 65536 ^ (m - 1) := pow_mono (by omega)
  omega
/-- The digit at k decides, where those above are the same. -/
theorem less_digit {xs ys : List Int} (hx : Dig xs) (hy : Dig ys) {k n : Nat} (hk : k < n) (he : ∀ i, k < i → i < n → xs.getD i 0 = ys.getD i 0) (h : xs.getD k 0 < ys.getD k 0) : valTo xs n < valTo ys n := by
  induction n with
  | zero => omega
  | succ n ih =>
    rcases Nat.lt_or_ge k n with hlt | hge
    · show valTo xs n + xs.getD n 0 * _ < valTo ys n + ys.getD n 0 * _
      rw [he n hlt (by omega)]
      have := ih hlt fun i h1 h2 => he i h1 (by omega)
      omega
    · obtain rfl : k = n := by omega
      have h1 := (valTo_bounds hx k).2
      have h2 := (valTo_bounds hy k).1
      have h3 : (xs.getD k 0 + 1) * 65536 ^ k ≤ ys.getD k 0 * 65536 ^ k := Int.mul_le_mul_of_nonneg_right (by omega) (Int.le_of_lt (pow_pos k))
      rw [Int.add_mul] at h3
      show valTo xs k + xs.getD k 0 * _ < valTo ys k + ys.getD k 0 * _
      generalize xs.getD k 0 * 65536 ^ k = s at *
      generalize ys.getD k 0 * 65536 ^ k = t at *
      generalize (65536 : Int) ^ k = p at *
      omega
end Gt
end Go.Proofs.Ytmbodfmdaocppaa
