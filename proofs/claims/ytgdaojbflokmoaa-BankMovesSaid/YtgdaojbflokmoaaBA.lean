/-
  Texts of this claim, put together: Enc, Iter, Put, Base, Get, Get2, Ref02, Kit. What each one says, and under which conditions, stands ahead of it.
-/
import Derived.Laws.Bits64
import Derived.RangeFuncNested
import Derived.RangeFuncBound
import Derived.RangeFuncCalls
import Derived.RangeFuncLeaves
import Derived.RangeFuncBox
import Derived.Shelf.Abstract
import Derived.Shelf.RegionOpen
import Derived.WalkKit
import Derived.OwnWalkIn
import Derived.TacticsInMore
import Derived.LoopNIn
import Derived.LoopIn
import Derived.Maps.AppendAt
import Derived.Lib.Hide
import Derived.StillTailTactics
import Derived.BigQuiet
import Derived.Deep.QuietTactic
import Derived.IntWalk
import Derived.Laws.BytesArg
import Derived.Laws.AppendOwnNone
import Derived.WalkSpells
import Derived.Test.YtgdaojbflokmoaaChecked

section
/-
  Plain facts on the bytes of numbers: seven bits a byte, the lowest first. No program, no condition but the bounds that each fact names.
-/
namespace Go.Proofs.Ytgdaojbflokmoaa
set_option linter.unusedVariables false
namespace Cd

/-- The bytes of n, at most f + 1 of them. -/
def encN : Nat → Int → List Int
  | 0, n => [n]
  | f + 1, n => if n < 128 then [n] else (n % 128 + 128) :: encN f (n / 128)
/-- The bytes of a word. -/
def enc (n : Int) : List Int := encN 9 n
/-- The most that f + 1 bytes hold. -/
def top : Nat → Int
  | 0 => 2
  | f + 1 => 128 * top f
theorem top0 (f : Nat) : 2 ≤ top f := by
  induction f with
  | zero => exact Int.le_refl _
  | succ f ih => show _ ≤ 128 * top f; omega
theorem top_mono {f g : Nat} (h : f ≤ g) : top f ≤ top g := by
  induction g with
  | zero => obtain rfl : f = 0 := by omega
            exact Int.le_refl _
  | succ g ih =>
    rcases Nat.lt_or_ge g f with hlt | hge
    · obtain rfl : f = g + 1 := by omega
      exact Int.le_refl _
    · have h1 := ih hge; have h2 := top0 g; show _ ≤ 128 * top g; omega
theorem top9 : top 9 = 18446744073709551616 := by decide
theorem encN_small {n : Int} (f : Nat) (h : n < 128) : encN f n = [n] := by
  cases f with
  | zero => rfl
  | succ f => exact if_pos h
theorem encN_great {n : Int} (f : Nat) (h : 128 ≤ n) : encN (f + 1) n = (n % 128 + 128) :: encN f (n / 128) := if_neg (by omega)
theorem encN_len (f : Nat) : ∀ n, 1 ≤ (encN f n).length ∧ (encN f n).length ≤ f + 1 := by
  induction f with
  | zero => intro n; exact ⟨Nat.le_refl _, Nat.le_refl _⟩
  | succ f ih =>
    intro n
    rcases Int.lt_or_le n 128 with h | h
    · rw [encN_small _ h]; exact ⟨Nat.le_refl _, by simp⟩
    · rw [encN_great _ h]
      have := ih (n / 128)
      simp
      omega
theorem enc_len (n : Int) : 1 ≤ (enc n).length ∧ (enc n).length ≤ 10 := encN_len 9 n
theorem encN_byte (f : Nat) : ∀ n, 0 ≤ n → n < top f → ∀ z ∈ encN f n, 0 ≤ z ∧ z ≤ 255 := by
  induction f with
  | zero => intro n h0 h1 z hz; simp [encN] at hz; subst hz; have : top 0 = 2 := rfl; omega
  | succ f ih =>
    intro n h0 h1 z hz
    have ht : top (f + 1) = 128 * top f := rfl
    rcases Int.lt_or_le n 128 with h | h
    · rw [encN_small _ h] at hz; simp at hz; omega
    · rw [encN_great _ h] at hz
      rcases List.mem_cons.1 hz with rfl | hz
      · omega
      · exact ih (n / 128) (by omega) (by omega) z hz
theorem enc_byte {n : Int} (h0 : 0 ≤ n) (h1 : n ≤ 18446744073709551615) : ∀ z ∈ enc n, 0 ≤ z ∧ z ≤ 255 := encN_byte 9 n h0 (by rw [top9]; omega)
/-- With more room the bytes are the same. -/
theorem encN_room (f : Nat) : ∀ n, 0 ≤ n → n < top f → encN (f + 1) n = encN f n := by
  induction f with
  | zero => intro n h0 h1; have : top 0 = 2 := rfl; rw [encN_small _ (by omega), encN_small _ (by omega)]
  | succ f ih =>
    intro n h0 h1
    have ht : top (f + 1) = 128 * top f := rfl
    rcases Int.lt_or_le n 128 with h | h
    · rw [encN_small _ h, encN_small _ h]
    · rw [encN_great _ h, encN_great _ h, ih _ (by omega) (by omega)]

/-- A byte's lower seven bits, with the highest bit. -/
theorem or128 {r : Int} (h0 : 0 ≤ r) (h1 : r ≤ 255) : bits .or .u8 r 128 = r % 128 + 128 := by
  obtain ⟨n, rfl⟩ := Int.eq_ofNat_of_zero_le h0
  have hn : n < 256 := by omega
  have : ∀ m : Fin 256, bits .or .u8 ((m.1 : Nat) : Int) 128 = ((m.1 : Nat) : Int) % 128 + 128 := by decide +kernel
  exact this ⟨n, hn⟩
theorem andNot128 {r : Int} (h0 : 0 ≤ r) (h1 : r ≤ 255) : bits .andNot .u8 r 128 = r % 128 := by
  obtain ⟨n, rfl⟩ := Int.eq_ofNat_of_zero_le h0
  have hn : n < 256 := by omega
  have : ∀ m : Fin 256, bits .andNot .u8 ((m.1 : Nat) : Int) 128 = ((m.1 : Nat) : Int) % 128 := by decide +kernel
  exact this ⟨n, hn⟩

/-- Words that share no bit. -/
theorem or_add {n t : Int} (k : Nat) (n0 : 0 ≤ n) (hn : n < 128 ^ k) (t0 : 0 ≤ t) (h1 : t * 128 ^ k + n < 18446744073709551616) : bits .or .u64 n (t * 128 ^ k) = n + t * 128 ^ k := by
  obtain ⟨n, rfl⟩ := Int.eq_ofNat_of_zero_le n0
  obtain ⟨t, rfl⟩ := Int.eq_ofNat_of_zero_le t0
  have e : (128 : Int) ^ k = ((2 ^ (7 * k) : Nat) : Int) := by
    rw [Nat.pow_mul]; simp
  rw [e] at hn h1 ⊢
  rw [← Int.natCast_mul] at h1 ⊢
  have hn' : n < 2 ^ (7 * k) := by omega
  have h1' : t * 2 ^ (7 * k) + n < 18446744073709551616 := by omega
  have ha : (BitVec.ofInt 64 (n : Int)).toNat = n := by
    rw [BitVec.ofInt_natCast, BitVec.toNat_ofNat]; exact Nat.mod_eq_of_lt (by omega)
  have hb : (BitVec.ofInt 64 ((t * 2 ^ (7 * k) : Nat) : Int)).toNat = t * 2 ^ (7 * k) := by
    rw [BitVec.ofInt_natCast, BitVec.toNat_ofNat]; exact Nat.mod_eq_of_lt (by omega)
  show IntKind.u64.wrap ((BitVec.ofInt 64 (n : Int) ||| BitVec.ofInt 64 ((t * 2 ^ (7 * k) : Nat) : Int)).toNat : Int) = _
  rw [BitVec.toNat_or, ha, hb, IntKind.wrap_u64]
  have h2 : n ||| t * 2 ^ (7 * k) = n + t * 2 ^ (7 * k) := by
    rw [Nat.or_comm, Nat.mul_comm, ← Nat.two_pow_add_eq_or_of_lt hn']; omega
  rw [h2]
  omega

/-- What m bytes from k on come to, seven bits a byte. -/
def val (zs : List Int) (k : Nat) : Nat → Int
  | 0 => 0
  | m + 1 => val zs k m + zs.getD (k + m) 0 % 128 * 128 ^ m
theorem pow1 (m : Nat) : (128 : Int) ^ (m + 1) = 128 ^ m * 128 := by rw [Int.pow_succ]
theorem pow0 (m : Nat) : (1 : Int) ≤ 128 ^ m := by
  induction m with
  | zero => exact Int.le_refl _
  | succ m ih => rw [pow1]; omega
theorem val_lt (zs : List Int) (k m : Nat) : 0 ≤ val zs k m ∧ val zs k m < 128 ^ m := by
  induction m with
  | zero => exact ⟨Int.le_refl _, by simp [val]⟩
  | succ m ih =>
    show 0 ≤ val zs k m + zs.getD (k + m) 0 % 128 * 128 ^ m ∧ val zs k m + zs.getD (k + m) 0 % 128 * 128 ^ m < _
    rw [pow1]
    have h0 : 0 ≤ zs.getD (k + m) 0 % 128 := by omega
    have h1 : zs.getD (k + m) 0 % 128 ≤ 127 := by omega
    have hp := pow0 m
    generalize zs.getD (k + m) 0 % 128 = t at *
    generalize (128 : Int) ^ m = p at *
    have h2 : 0 ≤ t * p := Int.mul_nonneg h0 (by omega)
    have h3 : t * p ≤ 127 * p := Int.mul_le_mul_of_nonneg_right h1 (by omega)
    omega

theorem or_step {v z : Int} (t : Nat) (v0 : 0 ≤ v) (v1 : v < 128 ^ t) (z0 : 0 ≤ z) (h : t ≤ 8 ∨ (t = 9 ∧ z ≤ 1)) : bits .or .u64 v (IntKind.u64.wrap (z % 128 * 2 ^ (t * 7))) = v + z % 128 * 128 ^ t := by
  have e : (2 : Int) ^ (t * 7) = 128 ^ t := by rw [Nat.mul_comm, Int.pow_mul]; rfl
  have hx0 : 0 ≤ z % 128 := by omega
  have hx1 : z % 128 ≤ 127 := by omega
  have hp0 := pow0 t
  have hb : z % 128 * 128 ^ t + v < 18446744073709551616 := by
    rcases h with h | ⟨rfl, h⟩
    · have hp1 : (128 : Int) ^ t ≤ 72057594037927936 := by
        have : ∀ m : Fin 9, (128 : Int) ^ m.1 ≤ 72057594037927936 := by decide
        exact this ⟨t, by omega⟩
      have h3 : z % 128 * 128 ^ t ≤ 127 * 128 ^ t := Int.mul_le_mul_of_nonneg_right hx1 (by omega)
      generalize z % 128 * 128 ^ t = y at *
      generalize (128 : Int) ^ t = p at *
      omega
    · have e9 : (128 : Int) ^ 9 = 9223372036854775808 := by decide
      rw [e9] at *
      omega
  have hy0 : 0 ≤ z % 128 * 128 ^ t := Int.mul_nonneg hx0 (by omega)
  rw [e, IntKind.wrap_u64, Int.emod_eq_of_lt hy0 (by omega)]
  exact or_add t v0 v1 hx0 hb

theorem or_step' {v z : Int} (t : Nat) (v0 : 0 ≤ v) (v1 : v < 128 ^ t) (z0 : 0 ≤ z) (h : t ≤ 8 ∨ (t = 9 ∧ z ≤ 1)) : bits .or .u64 v (IntKind.u64.wrap (z % 128 * 2 ^ (7 * t))) = v + z % 128 * 128 ^ t := by
  rw [Nat.mul_comm]; exact or_step t v0 v1 z0 h

/-- What stands at a place of bytes: a number and the place behind it, or why none (which error, where). -/
def Way (zs : List Int) (at_ n to e bad : Int) : Prop :=
  ((at_ < 0 ∨ (zs.length : Int) < at_) ∧ n = 0 ∧ to = 0 ∧ e = 3 ∧ bad = 0) ∨
  (∃ k : Nat, at_ = k ∧ k ≤ zs.length ∧ n = 0 ∧ to = 0 ∧ bad = k ∧
    ((e = 6 ∧ zs.length < k + 10 ∧ ∀ i, k + i < zs.length → 128 ≤ zs.getD (k + i) 0) ∨
     (e = 5 ∧ k + 10 ≤ zs.length ∧ ∀ i, i < 10 → 128 ≤ zs.getD (k + i) 0) ∨
     (e = 5 ∧ ∃ j : Nat, j < 10 ∧ 0 < j ∧ k + j < zs.length ∧ (∀ i, i < j → 128 ≤ zs.getD (k + i) 0) ∧ zs.getD (k + j) 0 < 128 ∧ (zs.getD (k + j) 0 = 0 ∨ (j = 9 ∧ 1 < zs.getD (k + j) 0))))) ∨
  (∃ k j : Nat, at_ = k ∧ j < 10 ∧ k + j < zs.length ∧ (∀ i, i < j → 128 ≤ zs.getD (k + i) 0) ∧ zs.getD (k + j) 0 < 128 ∧ (0 < j → 0 < zs.getD (k + j) 0) ∧ (j = 9 → zs.getD (k + j) 0 = 1) ∧
    n = val zs k (j + 1) ∧ to = (k : Int) + j + 1 ∧ e = 0 ∧ bad = 0)

/-- Bytes. -/
def Bytes (zs : List Int) : Prop := ∀ i, 0 ≤ zs.getD i 0 ∧ zs.getD i 0 ≤ 255
theorem bytes_of {zs : List Int} (h : ∀ z ∈ zs, 0 ≤ z ∧ z ≤ 255) : Bytes zs := by
  intro i
  rw [List.getD_eq_getElem?_getD]
  rcases Nat.lt_or_ge i zs.length with hi | hi
  · rw [List.getElem?_eq_getElem hi]; exact h _ (List.getElem_mem hi)
  · rw [List.getElem?_eq_none hi]; exact ⟨by decide, by decide⟩
theorem Bytes.mem {zs : List Int} (h : Bytes zs) : ∀ z ∈ zs, 0 ≤ z ∧ z ≤ 255 := by
  intro z hz
  obtain ⟨i, hi, rfl⟩ := List.getElem_of_mem hz
  have := h i
  rwa [List.getD_eq_getElem?_getD, List.getElem?_eq_getElem hi] at this

/-- The first byte below 128 among the first m from k on. -/
theorem first_low (zs : List Int) (k m : Nat) : (∀ i, i < m → 128 ≤ zs.getD (k + i) 0) ∨ ∃ j, j < m ∧ (∀ i, i < j → 128 ≤ zs.getD (k + i) 0) ∧ zs.getD (k + j) 0 < 128 := by
  induction m with
  | zero => exact .inl fun i h => absurd h (by omega)
  | succ m ih =>
    rcases ih with h | ⟨j, h1, h2, h3⟩
    · rcases Int.lt_or_le (zs.getD (k + m) 0) 128 with hm | hm
      · exact .inr ⟨m, by omega, h, hm⟩
      · refine .inl fun i hi => ?_
        rcases Nat.lt_or_ge i m with hl | hl
        · exact h i hl
        · obtain rfl : i = m := by omega
          exact hm
    · exact .inr ⟨j, by omega, h2, h3⟩

theorem way_of (zs : List Int) (hb : Bytes zs) (at_ : Int) : ∃ n to e bad, Way zs at_ n to e bad := by
  by_cases h : at_ < 0 ∨ (zs.length : Int) < at_
  · exact ⟨_, _, _, _, .inl ⟨h, rfl, rfl, rfl, rfl⟩⟩
  obtain ⟨k, rfl⟩ := Int.eq_ofNat_of_zero_le (a := at_) (by omega)
  have hk : k ≤ zs.length := by omega
  rcases first_low zs k (min 10 (zs.length - k)) with hl | ⟨j, hj, hl, hlt⟩
  · rcases Nat.lt_or_ge (zs.length - k) 10 with hs | hs
    · exact ⟨_, _, _, _, .inr (.inl ⟨k, rfl, hk, rfl, rfl, rfl, .inl ⟨rfl, by omega, fun i hi => hl i (by omega)⟩⟩)⟩
    · exact ⟨_, _, _, _, .inr (.inl ⟨k, rfl, hk, rfl, rfl, rfl, .inr (.inl ⟨rfl, by omega, fun i hi => hl i (by omega)⟩)⟩)⟩
  · by_cases hbad : 0 < j ∧ (zs.getD (k + j) 0 = 0 ∨ (j = 9 ∧ 1 < zs.getD (k + j) 0))
    · exact ⟨_, _, _, _, .inr (.inl ⟨k, rfl, hk, rfl, rfl, rfl, .inr (.inr ⟨rfl, j, by omega, hbad.1, by omega, hl, hlt, hbad.2⟩)⟩)⟩
    · have h0 := hb (k + j)
      exact ⟨_, _, _, _, .inr (.inr ⟨k, j, rfl, by omega, by omega, hl, hlt, by omega, by omega, rfl, rfl, rfl, rfl⟩)⟩
end Cd
end Go.Proofs.Ytgdaojbflokmoaa
end

section
/-
  What codec.encoding answers in this program: an iterator over the bytes of a word, for every loop body that keeps what lay below.
  Conditions: the word is from 0 to 2^64 - 1.
-/
namespace Go.Proofs.Ytgdaojbflokmoaa
open Go.RowKit Go.Shelf
set_option linter.unusedVariables false
attribute [local go_sem] Oper.semAt_some
namespace Cd

end Cd
end Go.Proofs.Ytgdaojbflokmoaa
end

section
/-
  What codec.Put and codec.Size answer in this program: the bytes of a word, and how many they are.
  Conditions: the word is from 0 to 2^64 - 1.
-/
namespace Go.Proofs.Ytgdaojbflokmoaa
open Go.RowKit Go.Shelf
set_option linter.unusedVariables false
attribute [local go_sem] Oper.semAt_some
theorem Try.info_u8 : (Try.prog.info? 5).map (fun i => (i.zero, i.size, i.bytes)) = some (some (.int .u8 0), 1, 1) := by kernel_rfl
namespace Cd

end Cd
end Go.Proofs.Ytgdaojbflokmoaa
end

section
/-
  What a walk says of memory: what was there is as it was; a slice reads as numbers; a part of a slice. No condition.
-/
namespace Go.Proofs.Ytgdaojbflokmoaa
open Go.RowKit Go.Shelf
set_option linter.unusedVariables false

/-- What was there is as it was. -/
def Bel (a w : World) : Prop := Below a.heap.size a w
theorem Bel.refl (a : World) : Bel a a := Below.refl _ _
theorem Bel.alloc {a w : World} (h : Bel a w) (o : Obj) : Bel a (w.alloc o) := Below.alloc h (Below.size h) o
theorem Bel.drew {a w : World} (h : Bel a w) : Bel a w.drew := Below.drew h
theorem Bel.drewN {a w : World} (h : Bel a w) (n : Nat) : Bel a (w.drewN n) := ⟨h.os, h.tape, h.output, h.size, h.block⟩
theorem Bel.trans {a b c : World} (h : Bel a b) (k : Bel b c) : Bel a c := Below.trans h (Below.mono k (Below.size h))
theorem Bel.set {a w : World} (h : Bel a w) {p : Addr} (hp : a.heap.size ≤ p.block) (u : Value) : Bel a (w.setCell p u) := Below.setCell h hp u
theorem Bel.facts {W w1 : World} (hb : Bel W w1) : (∀ b o, b < W.heap.size → w1.cell? ⟨b, o, none⟩ = W.cell? ⟨b, o, none⟩) ∧ (∀ b o, b < W.heap.size → w1.frozen? ⟨b, o, none⟩ = W.frozen? ⟨b, o, none⟩) :=
  ⟨fun b o h => Below.cell (p := ⟨b, o, none⟩) hb h, fun b o h => Below.frozen (p := ⟨b, o, none⟩) hb h⟩
theorem Bel.grown {a w w' : World} {row : Option Nat} (h : Bel a w) (hg : w.grownBy w' row) (hr : ∀ k, row = some k → a.heap.size ≤ k) : Bel a w' := Below.grown h hg (Below.size h) hr

/-- A slice that reads as the numbers zs (its elements). -/
def Ints (k : IntKind) (w : World) (A : Option Addr) (n : Nat) (zs : List Int) : Prop :=
  zs.length = n ∧ (0 < n → ∃ b o, A = some ⟨b, o, none⟩ ∧ b < w.heap.size ∧ ∀ i, i < n → w.cell? ⟨b, o + i, none⟩ = some (.int k (zs.getD i 0)))
theorem Ints.bel {k : IntKind} {w w' : World} {A : Option Addr} {n : Nat} {zs : List Int} (h : Ints k w A n zs) (hb : Bel w w') : Ints k w' A n zs :=
  ⟨h.1, fun hn => by
    obtain ⟨b, o, e, hlt, hc⟩ := h.2 hn
    exact ⟨b, o, e, Nat.lt_of_lt_of_le hlt (Below.size hb), fun i hi => (Below.cell (p := ⟨b, o + i, none⟩) hb hlt).trans (hc i hi)⟩⟩
theorem Ints.nil_ {k : IntKind} {w : World} {A : Option Addr} : Ints k w A 0 [] := ⟨rfl, fun h => absurd h (by omega)⟩
theorem Ints.cell {k : IntKind} {w : World} {A : Option Addr} {n : Nat} {zs : List Int} (h : Ints k w A n zs) {i : Nat} (hi : i < n) : ∃ b o, A = some ⟨b, o, none⟩ ∧ b < w.heap.size ∧ w.cell? ⟨b, o + i, none⟩ = some (.int k (zs.getD i 0)) := by
  obtain ⟨b, o, e, hlt, hc⟩ := h.2 (by omega)
  exact ⟨b, o, e, hlt, hc i hi⟩

theorem getD_eq (zs : List Int) (i : Nat) (h : i < zs.length) : zs.getD i 0 = zs[i] := by
  rw [List.getD_eq_getElem?_getD, List.getElem?_eq_getElem h]; rfl
theorem getD_part (zs : List Int) (k m i : Nat) (h : i < m) : ((zs.drop k).take m).getD i 0 = zs.getD (k + i) 0 := by
  simp [List.getD_eq_getElem?_getD, h]

/-- A part of a slice. -/
theorem Ints.part {kd : IntKind} {w : World} {A : Option Addr} {n c : Nat} {zs : List Int} (h : Ints kd w A n zs) {k m : Nat} (hk : k + m ≤ n) (hc : n ≤ c) : Ints kd w (if c = k then A else A.map (·.add (k * 1))) m ((zs.drop k).take m) := by
  refine ⟨by have := h.1; simp; omega, fun hm => ?_⟩
  obtain ⟨b, o, rfl, hlt, hcell⟩ := h.2 (by omega)
  rw [if_neg (by omega)]
  refine ⟨b, o + k, ?_, hlt, fun i hi => ?_⟩
  · rw [Nat.mul_one]
    simp only [Option.map_some, Addr.add]
    by_cases h0 : k = 0
    · simp [h0]
    · simp [h0]
  · rw [getD_part _ _ _ _ hi, Nat.add_assoc]
    exact hcell (k + i) (by omega)

/-- A row of the call's own reads as numbers. -/
theorem ints_of_own {kd : IntKind} {w : World} {base : Nat} {e : TypeId} {v : Value} {n : Nat} {zs : List Int} (h : w.ownsRow base e 1 v n (zs.map (Value.int kd))) :
    ∃ A c, v = .slice A n c ∧ Ints kd w A n zs ∧ n ≤ c ∧ c ≤ maxLen := by
  have hl : zs.length = n := by simpa using h.1
  rcases h.2 with ⟨rfl, rfl⟩ | ⟨g, cap, cur, rfl, hb, hg, hnc, hm, r⟩
  · have : zs = [] := List.length_eq_zero_iff.1 hl
    subst this
    exact ⟨none, 0, rfl, Ints.nil_, Nat.le_refl _, Nat.zero_le _⟩
  · refine ⟨_, _, rfl, ⟨hl, fun hn => ⟨g, 0, rfl, ?_, fun i hi => ?_⟩⟩, hnc, hm⟩
    · exact (Array.getElem?_eq_some_iff.1 hg).1
    · have := h.cellAt i (by omega)
      rw [Nat.zero_add, this, List.getElem?_map, List.getElem?_eq_getElem (by omega), List.getD_eq_getElem?_getD, List.getElem?_eq_getElem (by omega)]
      rfl

end Go.Proofs.Ytgdaojbflokmoaa
end

section
/-
  What codec.Get answers in this program, of any bytes at any place: a number and the place behind it, or why there is none.
  Conditions: the slice reads as bytes, of at most 2^47 of them.
-/
namespace Go.Proofs.Ytgdaojbflokmoaa
open Go.RowKit Go.Shelf
set_option linter.unusedVariables false
namespace Cd

/-- The first low byte, or -1. -/
def First (zs : List Int) (n : Nat) (r : Int) : Prop :=
  (r = -1 ∧ ∀ i, i < n → 128 ≤ zs.getD i 0) ∨ (∃ j : Nat, r = j ∧ j < n ∧ (∀ i, i < j → 128 ≤ zs.getD i 0) ∧ zs.getD j 0 < 128)

/-- Is what stands there the shortest form? -/
def shortB (n : Nat) (z : Int) : Bool := if n = 1 then true else if n = 10 then z == 1 else decide (0 < z)

end Cd
end Go.Proofs.Ytgdaojbflokmoaa
end

section
/-
  What codec.Get answers in this program, of any bytes at any place: a number and the place behind it, or why there is none.
  Conditions: the slice reads as bytes, of at most 2^47 of them.
-/
namespace Go.Proofs.Ytgdaojbflokmoaa
open Go.RowKit Go.Shelf
set_option linter.unusedVariables false
namespace Cd
/-- A number, the place behind it, a fault. -/
abbrev got (n to e bad : Int) : Value := .tuple #[.int .u64 n, .int .i64 to, .agg #[.int .i64 e, .int .i64 bad]]

end Cd
end Go.Proofs.Ytgdaojbflokmoaa
end

section
/-
  What distraintref02.Put and distraintref02.Get answer in this program: the same as codec's.
  Conditions: a word; a slice that reads as bytes, of at most 10^9 of them.
-/
namespace Go.Proofs.Ytgdaojbflokmoaa
open Go.RowKit Go.Shelf
set_option linter.unusedVariables false
namespace Cd

theorem Bel.grownBy {w w' : World} (h : Bel w w') : w.grownBy w' none := ⟨Below.os h, Below.tape h, Below.output h, Below.size h, fun k hk _ => Below.block h k hk⟩
theorem owns_bel {w w' : World} {base : Nat} {e : TypeId} {size : Nat} {v : Value} {n : Nat} {xs : List Value} (h : w.ownsRow base e size v n xs) (hb : Bel w w') : w'.ownsRow base e size v n xs := by
  refine h.kept (Bel.grownBy hb) ?_
  cases v.ownBlock with
  | none => exact .inl rfl
  | some g => exact .inr (by simp)
theorem owns_mono {w : World} {base base' : Nat} {e : TypeId} {size : Nat} {v : Value} {n : Nat} {xs : List Value} (h : w.ownsRow base e size v n xs) (hb : base' ≤ base) : w.ownsRow base' e size v n xs := by
  refine ⟨h.1, h.2.imp id fun ⟨g, cap, cur, h1, h2, r⟩ => ⟨g, cap, cur, h1, Nat.le_trans hb h2, r⟩⟩

/-- New bytes. -/
def Fresh (w w' : World) (v : Value) (zs : List Int) : Prop := w'.ownsRow w.heap.size 5 1 v zs.length (zs.map (Value.int .u8)) ∧ Bel w w'

theorem one_ok (z : Int) {k : IntKind} : ∀ u ∈ [Value.int k z], u.oneCell' = true := by
  intro u hu
  simp at hu
  subst hu
  rfl
theorem ints_ok (zs : List Int) {k : IntKind} : ∀ u ∈ zs.map (Value.int k), u.oneCell' = true := by
  intro u hu
  obtain ⟨z, _, rfl⟩ := List.mem_map.1 hu
  rfl
/-- The cells of a slice that reads as numbers, as an append takes them. -/
theorem Ints.news {k : IntKind} {w : World} {A : Addr} {n : Nat} {zs : List Int} (h : Ints k w (some A) n zs) : ∀ j u, (zs.map (Value.int k))[j]? = some u → w.cell? (A.add j) = some u := by
  intro j u hj
  have hl := h.1
  have hjn : j < n := by
    rcases Nat.lt_or_ge j n with h' | h'
    · exact h'
    · rw [List.getElem?_eq_none (by simp; omega)] at hj; cases hj
  obtain ⟨b, o, e, _, hc⟩ := h.cell hjn
  injection e with e
  subst e
  rw [List.getElem?_map, List.getElem?_eq_getElem (by omega)] at hj
  rw [getD_eq _ _ (by omega)] at hc
  simp at hj
  subst hj
  rw [← hc]
  unfold Addr.add
  by_cases h0 : j = 0
  · simp [h0]
  · simp [h0]

end Cd
end Go.Proofs.Ytgdaojbflokmoaa
end

section
/-
  What the small functions of distraintkit answer in this program: bytes side by side, copied, written over, lent with room behind them.
  Conditions: the slices read as bytes, of at most 10^9 of them.
-/
namespace Go.Proofs.Ytgdaojbflokmoaa
open Go.RowKit Go.Shelf
set_option linter.unusedVariables false
namespace Cd

/-- A slice of bytes: nil has no room. -/
structure Sl (w : World) (A : Option Addr) (n c : Nat) (zs : List Int) : Prop where
  ints : Ints .u8 w A n zs
  cap : n ≤ c
  nil : A = none → c = 0
theorem Sl.bel {w w' : World} {A : Option Addr} {n c : Nat} {zs : List Int} (h : Sl w A n c zs) (hb : Bel w w') : Sl w' A n c zs := ⟨h.ints.bel hb, h.cap, h.nil⟩
theorem Sl.len {w : World} {A : Option Addr} {n c : Nat} {zs : List Int} (h : Sl w A n c zs) : zs.length = n := h.ints.1
theorem sl_of_own {w : World} {base : Nat} {e : TypeId} {v : Value} {n : Nat} {zs : List Int} (h : w.ownsRow base e 1 v n (zs.map (Value.int .u8))) : ∃ A c, v = .slice A n c ∧ Sl w A n c zs := by
  obtain ⟨A, c, e, hi, hc, _⟩ := ints_of_own h
  refine ⟨A, c, e, hi, hc, ?_⟩
  rintro rfl
  rcases h.2 with ⟨h1, _⟩ | ⟨g, cap, cur, h1, _⟩
  · rw [h1] at e; injection e with _ _ e; exact e.symm
  · rw [h1] at e; injection e with e; cases e
theorem Fresh.sl {w w' : World} {v : Value} {zs : List Int} (h : Fresh w w' v zs) : ∃ A c, v = .slice A zs.length c ∧ Sl w' A zs.length c zs := sl_of_own h.1

theorem own_empty (w : World) : (w.alloc (.cells #[] 5)).ownsRow w.heap.size 5 1 (.slice (some ⟨w.heap.size, 0, none⟩) 0 0) 0 [] :=
  World.ownsRow_lit w #[] 0 (Nat.le_refl _) (Nat.zero_le _) rfl


/-- What the call may have turned: the blocks S alone. -/
structure Kep (S : Nat → Prop) (a w : World) : Prop where
  os : w.os = a.os
  tape : w.tape = a.tape
  output : w.output = a.output
  size : a.heap.size ≤ w.heap.size
  block : ∀ k, k < a.heap.size → ¬ S k → w.heap[k]? = a.heap[k]?
theorem Kep.refl (S : Nat → Prop) (a : World) : Kep S a a := ⟨rfl, rfl, rfl, Nat.le_refl _, fun _ _ _ => rfl⟩
theorem Kep.of_bel {S : Nat → Prop} {a w : World} (h : Bel a w) : Kep S a w := ⟨Below.os h, Below.tape h, Below.output h, Below.size h, fun k hk _ => Below.block h k hk⟩
theorem Kep.trans {S : Nat → Prop} {a b c : World} (h : Kep S a b) (k : Kep S b c) : Kep S a c :=
  ⟨k.os.trans h.os, k.tape.trans h.tape, k.output.trans h.output, Nat.le_trans h.size k.size, fun i hi hs => (k.block i (Nat.lt_of_lt_of_le hi h.size) hs).trans (h.block i hi hs)⟩
theorem Kep.mono {S T : Nat → Prop} {a b : World} (h : Kep S a b) (hst : ∀ k, k < a.heap.size → S k → T k) : Kep T a b := ⟨h.os, h.tape, h.output, h.size, fun i hi hs => h.block i hi (fun hS => hs (hst i hi hS))⟩
theorem Kep.grown {S : Nat → Prop} {a w w' : World} {row : Option Nat} (h : Kep S a w) (hg : w.grownBy w' row) (hr : ∀ k, row = some k → k < a.heap.size → S k) : Kep S a w' :=
  ⟨hg.os.trans h.os, hg.tape.trans h.tape, hg.output.trans h.output, Nat.le_trans h.size hg.size, fun i hi hs => (hg.block i (Nat.lt_of_lt_of_le hi h.size) (fun e => hs (hr i e.symm hi))).trans (h.block i hi hs)⟩
theorem Kep.bel {S : Nat → Prop} {a b w : World} (h : Bel a b) (k : Kep S b w) (hs : ∀ k, S k → a.heap.size ≤ k) : Bel a w :=
  ⟨k.os.trans (Below.os h), k.tape.trans (Below.tape h), k.output.trans (Below.output h), Nat.le_trans (Below.size h) k.size, fun i hi => (k.block i (Nat.lt_of_lt_of_le hi (Below.size h)) (fun hS => by have := hs i hS; omega)).trans (Below.block h i hi)⟩
theorem Kep.alloc {S : Nat → Prop} {a w : World} (h : Kep S a w) (o : Obj) : Kep S a (w.alloc o) := h.trans (Kep.of_bel ((Bel.refl w).alloc o))
theorem Kep.drewN {S : Nat → Prop} {a w : World} (h : Kep S a w) (n : Nat) : Kep S a (w.drewN n) := h.trans (Kep.of_bel ((Bel.refl w).drewN n))
theorem Kep.drew {S : Nat → Prop} {a w : World} (h : Kep S a w) : Kep S a w.drew := h.trans (Kep.of_bel ((Bel.refl w).drew))
theorem Kep.set {S : Nat → Prop} {a w : World} (h : Kep S a w) {b o : Nat} (hp : S b) (u : Value) : Kep S a (w.setCell ⟨b, o, none⟩ u) :=
  h.trans ⟨rfl, rfl, rfl, by have := (KeepsWalks.setCell w ⟨b, o, none⟩ u).size; exact this, fun k hk hs => Below.heap_setCell w ⟨b, o, none⟩ u k (fun e => hs (by rw [e]; exact hp))⟩
theorem Kep.cell {S : Nat → Prop} {a w : World} (h : Kep S a w) {b o : Nat} {v : Value} (hs : ¬ S b) (hc : a.cell? ⟨b, o, none⟩ = some v) : w.cell? ⟨b, o, none⟩ = some v :=
  (World.cell?_of_block (w := a) (h.block b (World.block_lt_of_cell? a ⟨b, o, none⟩ hc) hs)).trans hc
theorem Kep.ints {S : Nat → Prop} {k : IntKind} {a w : World} {A : Option Addr} {n : Nat} {zs : List Int} (h : Kep S a w) (hs : ∀ x, A = some x → ¬ S x.block) (hi : Ints k a A n zs) : Ints k w A n zs := by
  refine ⟨hi.1, fun hn => ?_⟩
  obtain ⟨b, o, rfl, hlt, hc⟩ := hi.2 hn
  exact ⟨b, o, rfl, Nat.lt_of_lt_of_le hlt h.size, fun i hin => h.cell (hs _ rfl) (hc i hin)⟩
theorem Kep.owns {S : Nat → Prop} {a w : World} {base : Nat} {e : TypeId} {size : Nat} {v : Value} {n : Nat} {xs : List Value} (h : Kep S a w) (hs : ∀ k, v.ownBlock = some k → ¬ S k) (ho : a.ownsRow base e size v n xs) : w.ownsRow base e size v n xs := by
  refine ⟨ho.1, ho.2.imp id ?_⟩
  rintro ⟨g, cap, cur, rfl, hb, hg, r⟩
  exact ⟨g, cap, cur, rfl, hb, (h.block g (Array.getElem?_eq_some_iff.1 hg).1 (hs g rfl)).trans hg, r⟩

theorem xor_u8 (a b : Int) (w : World) : ∃ z, bits .xor .u8 a b = z := ⟨_, rfl⟩

theorem own_form {w : World} {base n : Nat} {v : Value} {zs : List Value} (h : w.ownsRow base 5 1 v (0 + n + 4) zs) : ∃ g c, v = .slice (some ⟨g, 0, none⟩) (n + 4) c ∧ n + 4 ≤ c ∧ c ≤ maxLen := by
  rw [Nat.zero_add] at h
  rcases h.2 with ⟨_, h0⟩ | ⟨g, cap, cur, e, _, _, h1, h2, _⟩
  · omega
  · exact ⟨g, cap, e, h1, h2⟩

/-! ### Bytes with room behind them -/
/-- A slice with the four bytes behind it that tell whether its room was touched. -/
structure Lent (base : Nat) (w : World) (v : Value) (n : Nat) (zs : List Int) : Prop where
  row : ∃ g c, v = .slice (some ⟨g, 0, none⟩) n c ∧ n + 4 ≤ c ∧ c ≤ maxLen ∧ w.ownsRow base 5 1 (.slice (some ⟨g, 0, none⟩) (n + 4) c) (n + 4) ((zs ++ [201, 202, 203, 204]).map (Value.int .u8))
  len : zs.length = n

theorem sl_lit (w : World) (zs : List Int) : Sl (w.alloc (.cells (zs.map (Value.int .u8)).toArray 5)) (some ⟨w.heap.size, 0, none⟩) zs.length zs.length zs := by
  refine ⟨⟨rfl, fun hn => ⟨w.heap.size, 0, rfl, by simp, fun i hi => ?_⟩⟩, Nat.le_refl _, fun h => by cases h⟩
  rw [Nat.zero_add, World.cell?_alloc_new, List.getElem?_toArray, List.getElem?_map, List.getElem?_eq_getElem hi, getD_eq _ _ hi]
  rfl


theorem owns_front {w : World} {base g c n m : Nat} {e : TypeId} {xs ys : List Value} (h : w.ownsRow base e 1 (.slice (some ⟨g, 0, none⟩) m c) m (xs ++ ys)) (hn : xs.length = n) : w.ownsRow base e 1 (.slice (some ⟨g, 0, none⟩) n c) n xs := by
  have hl := h.1
  rw [List.length_append] at hl
  refine ⟨by omega, ?_⟩
  rcases h.2 with ⟨h1, _⟩ | ⟨g', cap, cur, h1, hb, hg, hnc, hcm, hcs, ht⟩
  · cases h1
  · injection h1 with h1 _ h3
    injection h1 with h1
    injection h1 with h1
    subst h1 h3
    refine .inr ⟨g, c, cur, rfl, hb, hg, by omega, hcm, hcs, ?_⟩
    have h2 := congrArg (List.take n) ht
    rw [List.take_take, Nat.min_eq_left (by omega), List.take_left' (by omega)] at h2
    rw [Nat.mul_one]
    exact h2
theorem Lent.own {base : Nat} {w : World} {v : Value} {n : Nat} {zs : List Int} (h : Lent base w v n zs) : w.ownsRow base 5 1 v n (zs.map (Value.int .u8)) := by
  obtain ⟨g, c, rfl, h1, h2, h3⟩ := h.row
  rw [List.map_append] at h3
  exact owns_front h3 (by simpa using h.len)
theorem Lent.bel {base : Nat} {w w' : World} {v : Value} {n : Nat} {zs : List Int} (h : Lent base w v n zs) (hb : Bel w w') : Lent base w' v n zs := by
  obtain ⟨g, c, e, h1, h2, h3⟩ := h.row
  exact ⟨⟨g, c, e, h1, h2, owns_bel h3 hb⟩, h.len⟩
theorem Lent.kep {S : Nat → Prop} {base : Nat} {w w' : World} {v : Value} {n : Nat} {zs : List Int} (h : Lent base w v n zs) (hb : Kep S w w') (hs : ∀ k, v.ownBlock = some k → ¬ S k) : Lent base w' v n zs := by
  obtain ⟨g, c, rfl, h1, h2, h3⟩ := h.row
  exact ⟨⟨g, c, rfl, h1, h2, hb.owns (fun k e => hs k e) h3⟩, h.len⟩
end Cd
end Go.Proofs.Ytgdaojbflokmoaa
end
