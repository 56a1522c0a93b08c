/-
  Plain facts on the bytes of numbers: seven bits a byte, the lowest first. No program, no condition but the bounds that each fact names.
-/
import Derived.Laws.Bits64
namespace Go.Proofs.YtpohcdfmkcfonaaGreatDoor
set_option linter.unusedVariables false
namespace Cd

/-- The bytes of n, at most f + 1 of them. -/
def encN : Nat → Int → List Int
  | 0, n => [n]
  | f + 1, n => if n < 128 then [n] else (n % 128 + 128) :: encN f (n / 128)
/-- The bytes of a word. -/
def enc (n : Int) : List Int := encN 9 n
/-- The most that f + 1 bytes hold. -/
def top : Nat → Int
  | 0 => 2
  | f + 1 => 128 * top f
theorem top0 (f : Nat) : 2 ≤ top f := by
  induction f with
  | zero => exact Int.le_refl _
  | succ f ih => show _ ≤ 128 * top f; omega
theorem top_mono {f g : Nat} (h : f ≤ g) : top f ≤ top g := by
  induction g with
  | zero => obtain rfl : f = 0 := by omega
            exact Int.le_refl _
  | succ g ih =>
    rcases Nat.lt_or_ge g f with hlt | hge
    · obtain rfl : f = g + 1 := by omega
      exact Int.le_refl _
    · have h1 := ih hge; have h2 := top0 g; show _ ≤ 128 * top g; omega
theorem top9 : top 9 = 18446744073709551616 := by decide
theorem encN_small {n : Int} (f : Nat) (h : n < 128) : encN f n = [n] := by
  cases f with
  | zero => rfl
  | succ f => exact if_pos h
theorem encN_great {n : Int} (f : Nat) (h : 128 ≤ n) : encN (f + 1) n = (n % 128 + 128) :: encN f (n / 128) := if_neg (by omega)
theorem encN_len (f : Nat) : ∀ n, 1 ≤ (encN f n).length ∧ (encN f n).length ≤ f + 1 := by
  induction f with
  | zero => intro n; exact ⟨Nat.le_refl _, Nat.le_refl _⟩
  | succ f ih =>
    intro n
    rcases Int.lt_or_le n 128 with h | h
    · rw [encN_small _ h]; exact ⟨Nat.le_refl _, by simp⟩
    · rw [encN_great _ h]
      have := ih (n / 128)
      simp
      omega
theorem enc_len (n : Int) : 1 ≤ (enc n).length ∧ (enc n).length ≤ 10 := encN_len 9 n
theorem encN_byte (f : Nat) : ∀ n, 0 ≤ n → n < top f → ∀ z ∈ encN f n, 0 ≤ z ∧ z ≤ 255 := by
  induction f with
  | zero => intro n h0 h1 z hz; simp [encN] at hz; subst hz; have : top 0 = 2 := rfl; omega
  | succ f ih =>
    intro n h0 h1 z hz
    have ht : top (f + 1) = 128 * top f := rfl
    rcases Int.lt_or_le n 128 with h | h
    · rw [encN_small _ h] at hz; simp at hz; omega
    · rw [encN_great _ h] at hz
      rcases List.mem_cons.1 hz with rfl | hz
      · omega
      · exact ih (n / 128) (by omega) (by omega) z hz
theorem enc_byte {n : Int} (h0 : 0 ≤ n) (h1 : n ≤ 18446744073709551615) : ∀ z ∈ enc n, 0 ≤ z ∧ z ≤ 255 := encN_byte 9 n h0 (by rw [top9]; omega)
/-- With more room the bytes are the same. -/
theorem encN_room (f : Nat) : ∀ n, 0 ≤ n → n < top f → encN (f + 1) n = encN f n := by
  induction f with
  | zero => intro n h0 h1; have : top 0 = 2 := rfl; rw [encN_small _ (by omega), encN_small _ (by omega)]
  | succ f ih =>
    intro n h0 h1
    have ht : top (f + 1) = 128 * top f := rfl
    rcases Int.lt_or_le n 128 with h | h
    · rw [encN_small _ h, encN_small _ h]
    · rw [encN_great _ h, encN_great _ h, ih _ (by omega) (by omega)]

/-- A byte's lower seven bits, with the highest bit. -/
theorem or128 {r : Int} (h0 : 0 ≤ r) (h1 : r ≤ 255) : bits .or .u8 r 128 = r % 128 + 128 := by
  obtain ⟨n, rfl⟩ := Int.eq_ofNat_of_zero_le h0
  have hn : n < 256 := by omega
  have : ∀ m : Fin 256, bits .or .u8 ((m.1 : Nat) : Int) 128 = ((m.1 : Nat) : Int) % 128 + 128 := by decide +kernel
  exact this ⟨n, hn⟩
theorem andNot128 {r : Int} (h0 : 0 ≤ r) (h1 : r ≤ 255) : bits .andNot .u8 r 128 = r % 128 := by
  obtain ⟨n, rfl⟩ := Int.eq_ofNat_of_zero_le h0
  have hn : n < 256 := by omega
  have : ∀ m : Fin 256, bits .andNot .u8 ((m.1 : Nat) : Int) 128 = ((m.1 : Nat) : Int) % 128 := by decide +kernel
  exact this ⟨n, hn⟩

/-- Words that share no bit. -/
theorem or_add {n t : Int} (k : Nat) (n0 : 0 ≤ n) (hn : n < 128 ^ k) (t0 : 0 ≤ t) (h1 : t * 128 ^ k + n < 18446744073709551616) : bits .or .u64 n (t * 128 ^ k) = n + t * 128 ^ k := by
  obtain ⟨n, rfl⟩ := Int.eq_ofNat_of_zero_le n0
  obtain ⟨t, rfl⟩ := Int.eq_ofNat_of_zero_le t0
  have e : (128 : Int) ^ k = ((2 ^ (7 * k) : Nat) : Int) := by
    rw [Nat.pow_mul]; simp
  rw [e] at hn h1 ⊢
  rw [← Int.natCast_mul] at h1 ⊢
  have hn' : n < 2 ^ (7 * k) := by omega
  have h1' : t * 2 ^ (7 * k) + n < 18446744073709551616 := by omega
  have ha : (BitVec.ofInt 64 (n : Int)).toNat = n := by
    rw [BitVec.ofInt_natCast, BitVec.toNat_ofNat]; exact Nat.mod_eq_of_lt (by omega)
  have hb : (BitVec.ofInt 64 ((t * 2 ^ (7 * k) : Nat) : Int)).toNat = t * 2 ^ (7 * k) := by
    rw [BitVec.ofInt_natCast, BitVec.toNat_ofNat]; exact Nat.mod_eq_of_lt (by omega)
  show IntKind.u64.wrap ((BitVec.ofInt 64 (n : Int) ||| BitVec.ofInt 64 ((t * 2 ^ (7 * k) : Nat) : Int)).toNat : Int) = _
  rw [BitVec.toNat_or, ha, hb, IntKind.wrap_u64]
  have h2 : n ||| t * 2 ^ (7 * k) = n + t * 2 ^ (7 * k) := by
    rw [Nat.or_comm, Nat.mul_comm, ← Nat.two_pow_add_eq_or_of_lt hn']; omega
  rw [h2]
  omega

/-- What m bytes from k on come to, seven bits a byte. -/
def val (zs : List Int) (k : Nat) : Nat → Int
  | 0 => 0
  | m + 1 => val zs k m + zs.getD (k + m) 0 % 128 * 128 ^ m
theorem pow1 (m : Nat) : (128 : Int) ^ (m + 1) = 128 ^ m * 128 := by rw [Int.pow_succ]
theorem pow0 (m : Nat) : (1 : Int) ≤ 128 ^ m := by
  induction m with
  | zero => exact Int.le_refl _
  | succ m ih => rw [pow1]; omega
theorem val_lt (zs : List Int) (k m : Nat) : 0 ≤ val zs k m ∧ val zs k m < 128 ^ m := by
  induction m with
  | zero => exact ⟨Int.le_refl _, by simp [val]⟩
  | succ m ih =>
    show 0 ≤ val zs k m + zs.getD (k + m) 0 % 128 * 128 ^ m ∧ val zs k m + zs.getD (k + m) 0 % 128 * 128 ^ m < _
    rw [pow1]
    have h0 : 0 ≤ zs.getD (k + m) 0 % 128 := by omega
    have h1 : zs.getD (k + m) 0 % 128 ≤ 127 := by omega
    have hp := pow0 m
    generalize zs.getD (k + m) 0 % 128 = t at *
    generalize (128 : Int) ^ m = p at *
    have h2 : 0 ≤ t * p := Int.mul_nonneg h0 (by omega)
    have h3 : t * p ≤ 127 * p := Int.mul_le_mul_of_nonneg_right h1 (by omega)
    omega

theorem or_step {v z : Int} (t : Nat) (v0 : 0 ≤ v) (v1 : v < 128 ^ t) (z0 : 0 ≤ z) (h : t ≤ 8 ∨ (t = 9 ∧ z ≤ 1)) : bits .or .u64 v (IntKind.u64.wrap (z % 128 * 2 ^ (t * 7))) = v + z % 128 * 128 ^ t := by
  have e : (2 : Int) ^ (t * 7) = 128 ^ t := by rw [Nat.mul_comm, Int.pow_mul]; rfl
  have hx0 : 0 ≤ z % 128 := by omega
  have hx1 : z % 128 ≤ 127 := by omega
  have hp0 := pow0 t
  have hb : z % 128 * 128 ^ t + v < 18446744073709551616 := by
    rcases h with h | ⟨rfl, h⟩
    · have hp1 : (128 : Int) ^ t ≤ 72057594037927936 := by
        have : ∀ m : Fin 9, (128 : Int) ^ m.1 ≤ 72057594037927936 := by decide
        exact this ⟨t, by omega⟩
      have h3 : z % 128 * 128 ^ t ≤ 127 * 128 ^ t := Int.mul_le_mul_of_nonneg_right hx1 (by omega)
      generalize z % 128 * 128 ^ t = y at *
      generalize (128 : Int) ^ t = p at *
      omega
    · have e9 : (128 : Int) ^ 9 = 9223372036854775808 := by decide
      rw [e9] at *
      omega
  have hy0 : 0 ≤ z % 128 * 128 ^ t := Int.mul_nonneg hx0 (by omega)
  rw [e, IntKind.wrap_u64, Int.emod_eq_of_lt hy0 (by omega)]
  exact or_add t v0 v1 hx0 hb

theorem or_step' {v z : Int} (t : Nat) (v0 : 0 ≤ v) (v1 : v < 128 ^ t) (z0 : 0 ≤ z) (h : t ≤ 8 ∨ (t = 9 ∧ z ≤ 1)) : bits .or .u64 v (IntKind.u64.wrap (z % 128 * 2 ^ (7 * t))) = v + z % 128 * 128 ^ t := by
  rw [Nat.mul_comm]; exact or_step t v0 v1 z0 h

/-- What stands at a place of bytes: a number and the place behind it, or why none (which error, where). -/
def Way (zs : List Int) (at_ n to e bad : Int) : Prop :=
  ((at_ < 0 ∨ (zs.length : Int) < at_) ∧ n = 0 ∧ to = 0 ∧ e = 3 ∧ bad = 0) ∨
  (∃ k : Nat, at_ = k ∧ k ≤ zs.length ∧ n = 0 ∧ to = 0 ∧ bad = k ∧
    ((e = 6 ∧ zs.length < k + 10 ∧ ∀ i, k + i < zs.length → 128 ≤ zs.getD (k + i) 0) ∨
     (e = 5 ∧ k + 10 ≤ zs.length ∧ ∀ i, i < 10 → 128 ≤ zs.getD (k + i) 0) ∨
     (e = 5 ∧ ∃ j : Nat, j < 10 ∧ 0 < j ∧ k + j < zs.length ∧ (∀ i, i < j → 128 ≤ zs.getD (k + i) 0) ∧ zs.getD (k + j) 0 < 128 ∧ (zs.getD (k + j) 0 = 0 ∨ (j = 9 ∧ 1 < zs.getD (k + j) 0))))) ∨
  (∃ k j : Nat, at_ = k ∧ j < 10 ∧ k + j < zs.length ∧ (∀ i, i < j → 128 ≤ zs.getD (k + i) 0) ∧ zs.getD (k + j) 0 < 128 ∧ (0 < j → 0 < zs.getD (k + j) 0) ∧ (j = 9 → zs.getD (k + j) 0 = 1) ∧
    n = val zs k (j + 1) ∧ to = (k : Int) + j + 1 ∧ e = 0 ∧ bad = 0)

/-- Bytes. -/
def Bytes (zs : List Int) : Prop := ∀ i, 0 ≤ zs.getD i 0 ∧ zs.getD i 0 ≤ 255
theorem bytes_of {zs : List Int} (h : ∀ z ∈ zs, 0 ≤ z ∧ z ≤ 255) : Bytes zs := by
  intro i
  rw [List.getD_eq_getElem?_getD]
  rcases Nat.lt_or_ge i zs.length with hi | hi
  · rw [List.getElem?_eq_getElem hi]; exact h _ (List.getElem_mem hi)
  · rw [List.getElem?_eq_none hi]; exact ⟨by decide, by decide⟩
theorem Bytes.mem {zs : List Int} (h : Bytes zs) : ∀ z ∈ zs, 0 ≤ z ∧ z ≤ 255 := by
  intro z hz
  obtain ⟨i, hi, rfl⟩ := List.getElem_of_mem hz
  have := h i
  rwa [List.getD_eq_getElem?_getD, List.getElem?_eq_getElem hi] at this

/-- The first byte below 128 among the first m from k on. -/
theorem first_low (zs : List Int) (k m : Nat) : (∀ i, i < m → 128 ≤ zs.getD (k + i) 0) ∨ ∃ j, j < m ∧ (∀ i, i < j → 128 ≤ zs.getD (k + i) 0) ∧ zs.getD (k + j) 0 < 128 := by
  induction m with
  | zero => exact .inl fun i h => absurd h (by omega)
  | succ m ih =>
    rcases ih with h | ⟨j, h1, h2, h3⟩
    · rcases Int.lt_or_le (zs.getD (k + m) 0) 128 with hm | hm
      · exact .inr ⟨m, by omega, h, hm⟩
      · refine .inl fun i hi => ?_
        rcases Nat.lt_or_ge i m with hl | hl
        · exact h i hl
        · obtain rfl : i = m := by omega
          exact hm
    · exact .inr ⟨j, by omega, h2, h3⟩

theorem way_of (zs : List Int) (hb : Bytes zs) (at_ : Int) : ∃ n to e bad, Way zs at_ n to e bad := by
  by_cases h : at_ < 0 ∨ (zs.length : Int) < at_
  · exact ⟨_, _, _, _, .inl ⟨h, rfl, rfl, rfl, rfl⟩⟩
  obtain ⟨k, rfl⟩ := Int.eq_ofNat_of_zero_le (a := at_) (by omega)
  have hk : k ≤ zs.length := by omega
  rcases first_low zs k (min 10 (zs.length - k)) with hl | ⟨j, hj, hl, hlt⟩
  · rcases Nat.lt_or_ge (zs.length - k) 10 with hs | hs
    · exact ⟨_, _, _, _, .inr (.inl ⟨k, rfl, hk, rfl, rfl, rfl, .inl ⟨rfl, by omega, fun i hi => hl i (by omega)⟩⟩)⟩
    · exact ⟨_, _, _, _, .inr (.inl ⟨k, rfl, hk, rfl, rfl, rfl, .inr (.inl ⟨rfl, by omega, fun i hi => hl i (by omega)⟩)⟩)⟩
  · by_cases hbad : 0 < j ∧ (zs.getD (k + j) 0 = 0 ∨ (j = 9 ∧ 1 < zs.getD (k + j) 0))
    · exact ⟨_, _, _, _, .inr (.inl ⟨k, rfl, hk, rfl, rfl, rfl, .inr (.inr ⟨rfl, j, by omega, hbad.1, by omega, hl, hlt, hbad.2⟩)⟩)⟩
    · have h0 := hb (k + j)
      exact ⟨_, _, _, _, .inr (.inr ⟨k, j, rfl, by omega, by omega, hl, hlt, by omega, by omega, rfl, rfl, rfl, rfl⟩)⟩
end Cd
end Go.Proofs.YtpohcdfmkcfonaaGreatDoor
