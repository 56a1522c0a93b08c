/-
  Texts of this claim, put together: Enc, Iter, Put, Base, Get, Get2, Ref02, Kit. What each one says, and under which conditions, stands ahead of it.
-/
import Derived.Laws.Bits64
import Derived.RangeFuncNested
import Derived.RangeFuncBound
import Derived.RangeFuncCalls
import Derived.RangeFuncLeaves
import Derived.RangeFuncBox
import Derived.Shelf.Abstract
import Derived.Shelf.RegionOpen
import Derived.WalkKit
import Derived.OwnWalkIn
import Derived.TacticsInMore
import Derived.LoopNIn
import Derived.LoopIn
import Derived.Maps.AppendAt
import Derived.Lib.Hide
import Derived.StillTailTactics
import Derived.BigQuiet
import Derived.Deep.QuietTactic
import Derived.IntWalk
import Derived.Laws.BytesArg
import Derived.Laws.AppendOwnNone
import Derived.WalkSpells
import Derived.Test.YthdcgkikhindiaaChecked

section
/-
  Plain facts on the bytes of numbers: seven bits a byte, the lowest first. No program, no condition but the bounds that each fact names.
-/
namespace Go.Proofs.Ythdcgkikhindiaa
set_option linter.unusedVariables false
namespace Cd

/-- The bytes of n, at most f + 1 of them. -/
def encN : Nat → Int → List Int
  | 0, n => [n]
  | f + 1, n => if n < 128 then [n] else (n % 128 + 128) :: encN f (n / 128)
/-- The bytes of a word. -/
def enc (n : Int) : List Int := encN 9 n
/-- The most that f + 1 bytes hold. -/
def top : Nat → Int
  | 0 => 2
  | f + 1 => 128 * top f
theorem top0 (f : Nat) : 2 ≤ top f := by
  induction f with
  | zero => exact Int.le_refl _
  | succ f ih => show _ ≤ 128 * top f; omega
theorem top_mono {f g : Nat} (h : f ≤ g) : top f ≤ top g := by
  induction g with
  | zero => obtain rfl : f = 0 := by omega
            exact Int.le_refl _
  | succ g ih =>
    rcases Nat.lt_or_ge g f with hlt | hge
    · obtain rfl : f = g + 1 := by omega
      exact Int.le_refl _
    · have h1 := ih hge; have h2 := top0 g; show _ ≤ 128 * top g; omega
theorem top9 : top 9 = 18446744073709551616 := by decide
theorem encN_small {n : Int} (f : Nat) (h : n < 128) : encN f n = [n] := by
  cases f with
  | zero => rfl
  | succ f => exact if_pos h
theorem encN_great {n : Int} (f : Nat) (h : 128 ≤ n) : encN (f + 1) n = (n % 128 + 128) :: encN f (n / 128) := if_neg (by omega)
theorem encN_len (f : Nat) : ∀ n, 1 ≤ (encN f n).length ∧ (encN f n).length ≤ f + 1 := by
  induction f with
  | zero => intro n; exact ⟨Nat.le_refl _, Nat.le_refl _⟩
  | succ f ih =>
    intro n
    rcases Int.lt_or_le n 128 with h | h
    · rw [encN_small _ h]; exact ⟨Nat.le_refl _, by simp⟩
    · rw [encN_great _ h]
      have := ih (n / 128)
      simp
      omega
theorem enc_len (n : Int) : 1 ≤ (enc n).length ∧ (enc n).length ≤ 10 := encN_len 9 n
theorem encN_byte (f : Nat) : ∀ n, 0 ≤ n → n < top f → ∀ z ∈ encN f n, 0 ≤ z ∧ z ≤ 255 := by
  induction f with
  | zero => intro n h0 h1 z hz; simp [encN] at hz; subst hz; have : top 0 = 2 := rfl; omega
  | succ f ih =>
    intro n h0 h1 z hz
    have ht : top (f + 1) = 128 * top f := rfl
    rcases Int.lt_or_le n 128 with h | h
    · rw [encN_small _ h] at hz; simp at hz; omega
    · rw [encN_great _ h] at hz
      rcases List.mem_cons.1 hz with rfl | hz
      · omega
      · exact ih (n / 128) (by omega) (by omega) z hz
theorem enc_byte {n : Int} (h0 : 0 ≤ n) (h1 : n ≤ 18446744073709551615) : ∀ z ∈ enc n, 0 ≤ z ∧ z ≤ 255 := encN_byte 9 n h0 (by rw [top9]; omega)
/-- With more room the bytes are the same. -/
theorem encN_room (f : Nat) : ∀ n, 0 ≤ n → n < top f → encN (f + 1) n = encN f n := by
  induction f with
  | zero => intro n h0 h1; have : top 0 = 2 := rfl; rw [encN_small _ (by omega), encN_small _ (by omega)]
  | succ f ih =>
    intro n h0 h1
    have ht : top (f + 1) = 128 * top f := rfl
    rcases Int.lt_or_le n 128 with h | h
    · rw [encN_small _ h, encN_small _ h]
    · rw [encN_great _ h, encN_great _ h, ih _ (by omega) (by omega)]

/-- A byte's lower seven bits, with the highest bit. -/
theorem or128 {r : Int} (h0 : 0 ≤ r) (h1 : r ≤ 255) : bits .or .u8 r 128 = r % 128 + 128 := by
  obtain ⟨n, rfl⟩ := Int.eq_ofNat_of_zero_le h0
  have hn : n < 256 := by omega
  have : ∀ m : Fin 256, bits .or .u8 ((m.1 : Nat) : Int) 128 = ((m.1 : Nat) : Int) % 128 + 128 := by decide +kernel
  exact this ⟨n, hn⟩
theorem andNot128 {r : Int} (h0 : 0 ≤ r) (h1 : r ≤ 255) : bits .andNot .u8 r 128 = r % 128 := by
  obtain ⟨n, rfl⟩ := Int.eq_ofNat_of_zero_le h0
  have hn : n < 256 := by omega
  have : ∀ m : Fin 256, bits .andNot .u8 ((m.1 : Nat) : Int) 128 = ((m.1 : Nat) : Int) % 128 := by decide +kernel
  exact this ⟨n, hn⟩

/-- Words that share no bit. -/
theorem or_add {n t : Int} (k : Nat) (n0 : 0 ≤ n) (hn : n < 128 ^ k) (t0 : 0 ≤ t) (h1 : t * 128 ^ k + n < 18446744073709551616) : bits .or .u64 n (t * 128 ^ k) = n + t * 128 ^ k := by
  obtain ⟨n, rfl⟩ := Int.eq_ofNat_of_zero_le n0
  obtain ⟨t, rfl⟩ := Int.eq_ofNat_of_zero_le t0
  have e : (128 : Int) ^ k = ((2 ^ (7 * k) : Nat) : Int) := by
    rw [Nat.pow_mul]; simp
  rw [e] at hn h1 ⊢
  rw [← Int.natCast_mul] at h1 ⊢
  have hn' : n < 2 ^ (7 * k) := by omega
  have h1' : t * 2 ^ (7 * k) + n < 18446744073709551616 := by omega
  have ha : (BitVec.ofInt 64 (n : Int)).toNat = n := by
    rw [BitVec.ofInt_natCast, BitVec.toNat_ofNat]; exact Nat.mod_eq_of_lt (by omega)
  have hb : (BitVec.ofInt 64 ((t * 2 ^ (7 * k) : Nat) : Int)).toNat = t * 2 ^ (7 * k) := by
    rw [BitVec.ofInt_natCast, BitVec.toNat_ofNat]; exact Nat.mod_eq_of_lt (by omega)
  show IntKind.u64.wrap ((BitVec.ofInt 64 (n : Int) ||| BitVec.ofInt 64 ((t * 2 ^ (7 * k) : Nat) : Int)).toNat : Int) = _
  rw [BitVec.toNat_or, ha, hb, IntKind.wrap_u64]
  have h2 : n ||| t * 2 ^ (7 * k) = n + t * 2 ^ (7 * k) := by
    rw [Nat.or_comm, Nat.mul_comm, ← Nat.two_pow_add_eq_or_of_lt hn']; omega
  rw [h2]
  omega

/-- What m bytes from k on come to, seven bits a byte. -/
def val (zs : List Int) (k : Nat) : Nat → Int
  | 0 => 0
  | m + 1 => val zs k m + zs.getD (k + m) 0 % 128 * 128 ^ m
theorem pow1 (m : Nat) : (128 : Int) ^ (m + 1) = 128 ^ m * 128 := by rw [Int.pow_succ]
theorem pow0 (m : Nat) : (1 : Int) ≤ 128 ^ m := by
  induction m with
  | zero => exact Int.le_refl _
  | succ m ih => rw [pow1]; omega
theorem val_lt (zs : List Int) (k m : Nat) : 0 ≤ val zs k m ∧ val zs k m < 128 ^ m := by
  induction m with
  | zero => exact ⟨Int.le_refl _, by simp [val]⟩
  | succ m ih =>
    show 0 ≤ val zs k m + zs.getD (k + m) 0 % 128 * 128 ^ m ∧ val zs k m + zs.getD (k + m) 0 % 128 * 128 ^ m < _
    rw [pow1]
    have h0 : 0 ≤ zs.getD (k + m) 0 % 128 := by omega
    have h1 : zs.getD (k + m) 0 % 128 ≤ 127 := by omega
    have hp := pow0 m
    generalize zs.getD (k + m) 0 % 128 = t at *
    generalize (128 : Int) ^ m = p at *
    have h2 : 0 ≤ t * p := Int.mul_nonneg h0 (by omega)
    have h3 : t * p ≤ 127 * p := Int.mul_le_mul_of_nonneg_right h1 (by omega)
    omega

theorem or_step {v z : Int} (t : Nat) (v0 : 0 ≤ v) (v1 : v < 128 ^ t) (z0 : 0 ≤ z) (h : t ≤ 8 ∨ (t = 9 ∧ z ≤ 1)) : bits .or .u64 v (IntKind.u64.wrap (z % 128 * 2 ^ (t * 7))) = v + z % 128 * 128 ^ t := by
  have e : (2 : Int) ^ (t * 7) = 128 ^ t := by rw [Nat.mul_comm, Int.pow_mul]; rfl
  have hx0 : 0 ≤ z % 128 := by omega
  have hx1 : z % 128 ≤ 127 := by omega
  have hp0 := pow0 t
  have hb : z % 128 * 128 ^ t + v < 18446744073709551616 := by
    rcases h with h | ⟨rfl, h⟩
    · have hp1 : (128 : Int) ^ t ≤ 72057594037927936 := by
        have : ∀ m : Fin 9, (128 : Int) ^ m.1 ≤ 72057594037927936 := by decide
        exact this ⟨t, by omega⟩
      have h3 : z % 128 * 128 ^ t ≤ 127 * 128 ^ t := Int.mul_le_mul_of_nonneg_right hx1 (by omega)
      generalize z % 128 * 128 ^ t = y at *
      generalize (128 : Int) ^ t = p at *
      omega
    · have e9 : (128 : Int) ^ 9 = 9223372036854775808 := by decide
      rw [e9] at *
      omega
  have hy0 : 0 ≤ z % 128 * 128 ^ t := Int.mul_nonneg hx0 (by omega)
  rw [e, IntKind.wrap_u64, Int.emod_eq_of_lt hy0 (by omega)]
  exact or_add t v0 v1 hx0 hb

theorem or_step' {v z : Int} (t : Nat) (v0 : 0 ≤ v) (v1 : v < 128 ^ t) (z0 : 0 ≤ z) (h : t ≤ 8 ∨ (t = 9 ∧ z ≤ 1)) : bits .or .u64 v (IntKind.u64.wrap (z % 128 * 2 ^ (7 * t))) = v + z % 128 * 128 ^ t := by
  rw [Nat.mul_comm]; exact or_step t v0 v1 z0 h

/-- What stands at a place of bytes: a number and the place behind it, or why none (which error, where). -/
def Way (zs : List Int) (at_ n to e bad : Int) : Prop :=
  ((at_ < 0 ∨ (zs.length : Int) < at_) ∧ n = 0 ∧ to = 0 ∧ e = 3 ∧ bad = 0) ∨
  (∃ k : Nat, at_ = k ∧ k ≤ zs.length ∧ n = 0 ∧ to = 0 ∧ bad = k ∧
    ((e = 6 ∧ zs.length < k + 10 ∧ ∀ i, k + i < zs.length → 128 ≤ zs.getD (k + i) 0) ∨
     (e = 5 ∧ k + 10 ≤ zs.length ∧ ∀ i, i < 10 → 128 ≤ zs.getD (k + i) 0) ∨
     (e = 5 ∧ ∃ j : Nat, j < 10 ∧ 0 < j ∧ k + j < zs.length ∧ (∀ i, i < j → 128 ≤ zs.getD (k + i) 0) ∧ zs.getD (k + j) 0 < 128 ∧ (zs.getD (k + j) 0 = 0 ∨ (j = 9 ∧ 1 < zs.getD (k + j) 0))))) ∨
  (∃ k j : Nat, at_ = k ∧ j < 10 ∧ k + j < zs.length ∧ (∀ i, i < j → 128 ≤ zs.getD (k + i) 0) ∧ zs.getD (k + j) 0 < 128 ∧ (0 < j → 0 < zs.getD (k + j) 0) ∧ (j = 9 → zs.getD (k + j) 0 = 1) ∧
    n = val zs k (j + 1) ∧ to = (k : Int) + j + 1 ∧ e = 0 ∧ bad = 0)

/-- Bytes. -/
def Bytes (zs : List Int) : Prop := ∀ i, 0 ≤ zs.getD i 0 ∧ zs.getD i 0 ≤ 255
theorem bytes_of {zs : List Int} (h : ∀ z ∈ zs, 0 ≤ z ∧ z ≤ 255) : Bytes zs := by
  intro i
  rw [List.getD_eq_getElem?_getD]
  rcases Nat.lt_or_ge i zs.length with hi | hi
  · rw [List.getElem?_eq_getElem hi]; exact h _ (List.getElem_mem hi)
  · rw [List.getElem?_eq_none hi]; exact ⟨by decide, by decide⟩
theorem Bytes.mem {zs : List Int} (h : Bytes zs) : ∀ z ∈ zs, 0 ≤ z ∧ z ≤ 255 := by
  intro z hz
  obtain ⟨i, hi, rfl⟩ := List.getElem_of_mem hz
  have := h i
  rwa [List.getD_eq_getElem?_getD, List.getElem?_eq_getElem hi] at this

/-- The first byte below 128 among the first m from k on. -/
theorem first_low (zs : List Int) (k m : Nat) : (∀ i, i < m → 128 ≤ zs.getD (k + i) 0) ∨ ∃ j, j < m ∧ (∀ i, i < j → 128 ≤ zs.getD (k + i) 0) ∧ zs.getD (k + j) 0 < 128 := by
  induction m with
  | zero => exact .inl fun i h => absurd h (by omega)
  | succ m ih =>
    rcases ih with h | ⟨j, h1, h2, h3⟩
    · rcases Int.lt_or_le (zs.getD (k + m) 0) 128 with hm | hm
      · exact .inr ⟨m, by omega, h, hm⟩
      · refine .inl fun i hi => ?_
        rcases Nat.lt_or_ge i m with hl | hl
        · exact h i hl
        · obtain rfl : i = m := by omega
          exact hm
    · exact .inr ⟨j, by omega, h2, h3⟩

theorem way_of (zs : List Int) (hb : Bytes zs) (at_ : Int) : ∃ n to e bad, Way zs at_ n to e bad := by
  by_cases h : at_ < 0 ∨ (zs.length : Int) < at_
  · exact ⟨_, _, _, _, .inl ⟨h, rfl, rfl, rfl, rfl⟩⟩
  obtain ⟨k, rfl⟩ := Int.eq_ofNat_of_zero_le (a := at_) (by omega)
  have hk : k ≤ zs.length := by omega
  rcases first_low zs k (min 10 (zs.length - k)) with hl | ⟨j, hj, hl, hlt⟩
  · rcases Nat.lt_or_ge (zs.length - k) 10 with hs | hs
    · exact ⟨_, _, _, _, .inr (.inl ⟨k, rfl, hk, rfl, rfl, rfl, .inl ⟨rfl, by omega, fun i hi => hl i (by omega)⟩⟩)⟩
    · exact ⟨_, _, _, _, .inr (.inl ⟨k, rfl, hk, rfl, rfl, rfl, .inr (.inl ⟨rfl, by omega, fun i hi => hl i (by omega)⟩)⟩)⟩
  · by_cases hbad : 0 < j ∧ (zs.getD (k + j) 0 = 0 ∨ (j = 9 ∧ 1 < zs.getD (k + j) 0))
    · exact ⟨_, _, _, _, .inr (.inl ⟨k, rfl, hk, rfl, rfl, rfl, .inr (.inr ⟨rfl, j, by omega, hbad.1, by omega, hl, hlt, hbad.2⟩)⟩)⟩
    · have h0 := hb (k + j)
      exact ⟨_, _, _, _, .inr (.inr ⟨k, j, rfl, by omega, by omega, hl, hlt, by omega, by omega, rfl, rfl, rfl, rfl⟩)⟩
end Cd
end Go.Proofs.Ythdcgkikhindiaa
end

section
/-
  What codec.encoding answers in this program: an iterator over the bytes of a word, for every loop body that keeps what lay below.
  Conditions: the word is from 0 to 2^64 - 1.
-/
namespace Go.Proofs.Ythdcgkikhindiaa
open Go.RowKit Go.Shelf
set_option linter.unusedVariables false
attribute [local go_sem] Oper.semAt_some
namespace Cd

set_option maxRecDepth 100000 in
set_option maxHeartbeats 1000000 in
theorem yields (F : Fence) (n : Nat) (h6 : F.fn 102) (hro : F.round = none) (hn : 1 ≤ n) (l Bn n₀ : Nat) (x : Int) (x0 : 0 ≤ x) (x1 : x ≤ 18446744073709551615) (J Jx : List Int → World → Prop)
    (hY : ∀ pre z W, J pre W → pre.length < (enc x).length → YieldAt F (n - 1) Try.prog l #[.int .u8 z] W fun e W' =>
      (e = .returned (.bool true) ∧ J (pre ++ [z]) W' ∧ Below n₀ W W') ∨ (e = .returned (.bool false) ∧ Jx (pre ++ [z]) W'))
    (W : World) (hBn : W.cell? ⟨Bn, 0, none⟩ = some (.int .u64 x)) (h0 : J [] W) :
    CallsIn F n Try.prog 102 #[.func (.yield l) #[] #[], .pointer (some ⟨Bn, 0, none⟩)] W fun e W' => (∃ v, e = .returned v) ∧
      ((∃ ys, ys = enc x ∧ J ys W') ∨ (∃ pre, pre <+: enc x ∧ Jx pre W')) := by
  refine callsIn_of_wp Try.func102 rfl h6 ?_ hro
  simp only [Try.ntmps102, List.size_toArray, List.length_cons, List.length_nil, Nat.reduceAdd, Nat.reduceSub, Array.replicate_succ, Array.replicate_zero, List.push_toArray, List.append_toArray, List.nil_append, List.cons_append]
  gi_wp2
  gi_loopw [3] (fun r wr => ∃ (pre : List Int) (f : Nat) (M : Int), r = .int .u64 M ∧ 0 ≤ M ∧ M < top f ∧ f ≤ 9 ∧ enc x = pre ++ encN f M ∧ J pre wr)
    (fun r wr => (intOf r).toNat)
  case atStart =>
    exact ⟨[], 9, x, rfl, x0, by rw [top9]; omega, Nat.le_refl _, rfl, h0⟩
  case round =>
    obtain ⟨pre, f, M, rfl, m0, m1, hf, hx, hJs⟩ := hrel
    have hm : M ≤ 18446744073709551615 := by
      have h := top_mono hf
      rw [top9] at h
      omega
    rcases Int.lt_or_le M 128 with hlt | hge
    · rw [encN_small _ hlt] at hx
      obtain ⟨fn, tmps, assign, body, hy, hR⟩ := hY pre M wr hJs (by rw [hx]; simp)
      have E : M % 256 = M := by omega
      have HX := Lib.hid hx
      clear hx
      gi_wp2_with fail
      refine hR.mono ?_
      rintro e W3 (⟨rfl, hJ3, hk3⟩ | ⟨rfl, hJx3⟩)
      · gi_wp2
        go_end0
        exact ⟨⟨_, rfl⟩, .inl ⟨_, HX.out.symm, hJ3⟩⟩
      · gi_wp2
        go_end0
        exact ⟨⟨_, rfl⟩, .inr ⟨pre ++ [M], by rw [HX.out]; exact List.prefix_refl _, hJx3⟩⟩
    · obtain ⟨f, rfl⟩ : ∃ g, f = g + 1 := by
        cases f with
        | zero => have : top 0 = 2 := rfl; omega
        | succ g => exact ⟨g, rfl⟩
      have ht : top (f + 1) = 128 * top f := rfl
      rw [encN_great _ hge] at hx
      obtain ⟨fn, tmps, assign, body, hy, hR⟩ := hY pre (M % 128 + 128) wr hJs (by rw [hx]; simp)
      have E : bits .or .u8 (M % 256) 128 = M % 128 + 128 := by rw [or128 (by omega) (by omega)]; omega
      have h1 : M / 128 < top f := by omega
      have HX := Lib.hid hx
      have HT := Lib.hid h1
      clear hx ht m1 h1
      gi_wp2_with fail
      refine hR.mono ?_
      rintro e W3 (⟨rfl, hJ3, hk3⟩ | ⟨rfl, hJx3⟩)
      · gi_wp2
        go_roundw
        case rel => exact ⟨pre ++ [M % 128 + 128], f, M / 128, rfl, by omega, HT.out, by omega, by rw [HX.out]; simp, hJ3⟩
        case measure => simp [intOf]; omega
      · gi_wp2
        refine bodyPost_ret (results_none rfl _ _ _) rfl ?_
        exact ⟨⟨_, rfl⟩, .inr ⟨pre ++ [M % 128 + 128], by rw [HX.out]; exact ⟨encN f (M / 128), by simp⟩, hJx3⟩⟩

set_option maxHeartbeats 1000000 in
theorem maker (F : Fence) (n : Nat) (h5 : F.fn 98) (hro : F.round = none) (x : Int) (w : World) :
    CallsIn F n Try.prog 98 #[.int .u64 x] w fun e w' => e = .returned (.func (.func 102) #[] #[.pointer (some ⟨w.heap.size, 0, none⟩)]) ∧ w' = w.alloc (.cells #[.int .u64 x] 23) := by
  refine callsIn_of_wp Try.func98 rfl h5 ?_ hro
  simp only [Try.ntmps98, List.size_toArray, List.length_cons, List.length_nil, Nat.reduceAdd, Nat.reduceSub, Array.replicate_succ, Array.replicate_zero, List.push_toArray, List.append_toArray, List.nil_append, List.cons_append]
  gi_wp2
  go_ret
  exact ⟨rfl, rfl⟩

theorem stops (F : Fence) (n : Nat) (h6 : F.fn 102) (hro : F.round = none) (hn : 1 ≤ n) (Bn n₀ : Nat) (x : Int) (x0 : 0 ≤ x) (x1 : x ≤ 18446744073709551615) (w : World) (hBn : Bn < w.heap.size)
    (hc : w.cell? ⟨Bn, 0, none⟩ = some (.int .u64 x)) :
    SeqStopsK F n Try.prog 102 #[.pointer (some ⟨Bn, 0, none⟩)] (fun z : Int => #[Value.int .u8 z]) (Below n₀) (fun ys => ys = enc x) (fun pre => pre <+: enc x) (enc x).length w := fun l J Jx W hW _ _ hY h0 =>
  yields F n h6 hro hn l Bn n₀ x x0 x1 J Jx hY W ((hW.cell (p := ⟨Bn, 0, none⟩) hBn).trans hc) h0
end Cd
end Go.Proofs.Ythdcgkikhindiaa
end

section
/-
  What codec.Put and codec.Size answer in this program: the bytes of a word, and how many they are.
  Conditions: the word is from 0 to 2^64 - 1.
-/
namespace Go.Proofs.Ythdcgkikhindiaa
open Go.RowKit Go.Shelf
set_option linter.unusedVariables false
attribute [local go_sem] Oper.semAt_some
theorem Try.info_u8 : (Try.prog.info? 5).map (fun i => (i.zero, i.size, i.bytes)) = some (some (.int .u8 0), 1, 1) := by kernel_rfl
namespace Cd

set_option maxRecDepth 100000 in
set_option maxHeartbeats 2000000 in
theorem put_in (F : Fence) (n : Nat) (h3 : F.fn 83) (h4 : F.fn 98) (h5 : F.fn 102) (hro : F.round = none) (hn : 3 ≤ n) (x : Int) (x0 : 0 ≤ x) (x1 : x ≤ 18446744073709551615) (w : World) :
    CallsIn F n Try.prog 83 #[.int .u64 x] w fun e W' => ∃ v, e = .returned v ∧ W'.ownsRow w.heap.size 5 1 v (enc x).length ((enc x).map (Value.int .u8)) ∧ Below w.heap.size w W' := by
  have h1 : 1 ≤ n := by omega
  have hl := (enc_len x).2
  obtain ⟨i0, hi, hz0, hz1, hz2⟩ := info_parts Try.info_u8
  refine callsIn_of_wp_marks Try.func83 rfl h3 ?_ hro
  simp only [Try.ntmps83, List.size_toArray, List.length_cons, List.length_nil, Nat.reduceAdd, Nat.reduceSub, Array.replicate_succ, Array.replicate_zero, List.push_toArray, List.append_toArray, List.nil_append, List.cons_append]
  gi_wp2_with (first | (gi_at_call 98; refine (maker F (n - 1) h4 hro _ _).mono ?_; rintro e w' ⟨rfl, rfl⟩) | (gi_at_make; refine wpListIn_make_own _ rfl _ _ 43 rfl w.heap.size 5 i0 (.int .u8 0) 1 Try.underlying43 hi hz0 hz1 .i64 .i64 10 10 rfl rfl rfl (by rw [hz2]; omega) (by unfold maxLen; omega) (Nat.le_refl _) ?_; intro w1 hown1 hgrow1))
  have hlt1 : w.heap.size < w1.heap.size := (hown1.lt _ rfl).2
  have bO := Boxed.new w1 43 (.slice (some ⟨w.heap.size, 0, none⟩) 0 10)
  have bN := Boxed.new (w1.alloc (.cells #[.slice (some ⟨w.heap.size, 0, none⟩) 0 10] 43)) 23 (.int .u64 x)
  rw [World.size_alloc] at bN
  have hB1 : Below w.heap.size w w1 := (Below.refl _ w).grown hgrow1 (Nat.le_refl _) (by intro k hk; cases hk)
  have hB0 : Below w.heap.size w ((w1.alloc (.cells #[.slice (some ⟨w.heap.size, 0, none⟩) 0 10] 43)).alloc (.cells #[.int .u64 x] 23)) := (hB1.alloc (by omega) _).alloc (by simp; omega) _
  refine wpIn_rangeFunc_ownG hro h1 (gf := 102) (lb := #[.pointer (some ⟨w1.heap.size + 1, 0, none⟩)]) rfl h5 (enters_of Try.func102 (by kernel_rfl) rfl)
    (stops F (n - 1) h5 hro (by omega) (w1.heap.size + 1) w.heap.size x x0 x1 _ (by simp) bN.cell) belowK_t (belowK_b (by simp; omega)) (Below.refl _ _) (fun _ => rfl)
    (fun pre W => (∃ v, Boxed W w1.heap.size 43 v ∧ W.ownsRow w.heap.size 5 1 v pre.length (pre.map (Value.int .u8)) ∧ True) ∧ Below w.heap.size w W)
    (fun _ _ _ => False)
    (OwnFrom.and (Own.from (holdsRow_own w.heap.size w1.heap.size 43 5 1 (fun pre : List Int => pre.length) (fun pre : List Int => pre.map (Value.int .u8)) (fun _ _ => True)) _) (ownFrom_below (Nat.le_refl _) (by simp; omega)))
    (fun _ _ _ _ _ hs _ _ => hs)
    ⟨⟨_, bO.alloc _, (hown1.alloc _).alloc _, trivial⟩, hB0⟩
    (fun z => { tmps := #[.int .u64 x, undef, .slice none 0 0, .pointer (some ⟨w1.heap.size, 0, none⟩), .int .u8 z, .slice (some ⟨w.heap.size, 0, none⟩) 0 10, .int .u64 x, .func (.func 102) #[] #[.pointer (some ⟨w1.heap.size + 1, 0, none⟩)], .int .u8 z, undef, undef, undef, undef, undef], defers := [] }) ?assign ?body ?done ?stop
  case assign =>
    intro l x W K hK
    gi_wp2
    exact hK
  case body =>
    rintro l pre z W ⟨⟨v, hv, hrow, _⟩, hB⟩ hlt
    have hc := hv.cell
    gi_wp2_with (gi_at_builtin; refine wpListIn_append_own _ rfl _ _ 43 rfl w.heap.size 5 i0 (.int .u8 0) 1 1 Try.underlying43 hi hz0 hz1 hz2 rfl (by decide) _ _ _ rfl (hrow.alloc _) ⟨W.heap.size, 0, none⟩ 1 1 [.int .u8 z] rfl rfl (cell_one_new _ _ _) (by simp [Value.oneCell']) (by unfold maxLen; omega) (by omega) (by have := hB.size; simp; omega) ?_; intro v' w2 hown' hgrow _; obtain ⟨g', cap', rfl⟩ := ownsRow_succ hown'; obtain ⟨hv1, hv2, hr2, hk2, hb2⟩ := hv.appended (by decide) hrow hB.size (by omega) hown' hgrow; have hc1 := hv1.cell; have hf1 := hv1.frozen)
    exact ⟨hk2.from _, hb2, ⟨_, hv2, by simpa using hr2, trivial⟩, hB.trans hb2⟩
  case done =>
    rintro D ys W hD rfl ⟨⟨v, hv, hrow, _⟩, hB⟩ hK
    have hc := hv.cell
    gi_wp2
    refine ⟨by simp, .inl ⟨_, _, rfl, run_takeDeferred hK, ?_⟩⟩
    exact ⟨_, results_tmp rfl _ _ _, v, rfl, ownsRow_putObj hrow _ hK rfl, hB.trans (belowK_b (w := w) (Nat.le_refl _) W D _ _ (by simp at hD; omega) hK rfl rfl)⟩
  case stop =>
    rintro D c pre W _ _ h _
    exact h.elim

theorem put (x : Int) (w : World) (x0 : 0 ≤ x) (x1 : x ≤ 18446744073709551615) :
    Calls Try.prog 83 #[.int .u64 x] w fun e W' => ∃ v, e = .returned v ∧ W'.ownsRow w.heap.size 5 1 v (enc x).length ((enc x).map (Value.int .u8)) ∧ Below w.heap.size w W' :=
  callsIn_wide.1 (put_in Fence.wide 3 trivial trivial trivial rfl (Nat.le_refl _) x x0 x1 w)

end Cd
end Go.Proofs.Ythdcgkikhindiaa
end

section
/-
  What a walk says of memory: what was there is as it was; a slice reads as numbers; a part of a slice. No condition.
-/
namespace Go.Proofs.Ythdcgkikhindiaa
open Go.RowKit Go.Shelf
set_option linter.unusedVariables false

/-- What was there is as it was. -/
def Bel (a w : World) : Prop := Below a.heap.size a w
theorem Bel.refl (a : World) : Bel a a := Below.refl _ _
theorem Bel.alloc {a w : World} (h : Bel a w) (o : Obj) : Bel a (w.alloc o) := Below.alloc h (Below.size h) o
theorem Bel.drew {a w : World} (h : Bel a w) : Bel a w.drew := Below.drew h
theorem Bel.drewN {a w : World} (h : Bel a w) (n : Nat) : Bel a (w.drewN n) := ⟨h.os, h.tape, h.output, h.size, h.block⟩
theorem Bel.trans {a b c : World} (h : Bel a b) (k : Bel b c) : Bel a c := Below.trans h (Below.mono k (Below.size h))
theorem Bel.set {a w : World} (h : Bel a w) {p : Addr} (hp : a.heap.size ≤ p.block) (u : Value) : Bel a (w.setCell p u) := Below.setCell h hp u
theorem Bel.facts {W w1 : World} (hb : Bel W w1) : (∀ b o, b < W.heap.size → w1.cell? ⟨b, o, none⟩ = W.cell? ⟨b, o, none⟩) ∧ (∀ b o, b < W.heap.size → w1.frozen? ⟨b, o, none⟩ = W.frozen? ⟨b, o, none⟩) :=
  ⟨fun b o h => Below.cell (p := ⟨b, o, none⟩) hb h, fun b o h => Below.frozen (p := ⟨b, o, none⟩) hb h⟩
theorem Bel.grown {a w w' : World} {row : Option Nat} (h : Bel a w) (hg : w.grownBy w' row) (hr : ∀ k, row = some k → a.heap.size ≤ k) : Bel a w' := Below.grown h hg (Below.size h) hr

/-- A slice that reads as the numbers zs (its elements). -/
def Ints (k : IntKind) (w : World) (A : Option Addr) (n : Nat) (zs : List Int) : Prop :=
  zs.length = n ∧ (0 < n → ∃ b o, A = some ⟨b, o, none⟩ ∧ b < w.heap.size ∧ ∀ i, i < n → w.cell? ⟨b, o + i, none⟩ = some (.int k (zs.getD i 0)))
theorem Ints.bel {k : IntKind} {w w' : World} {A : Option Addr} {n : Nat} {zs : List Int} (h : Ints k w A n zs) (hb : Bel w w') : Ints k w' A n zs :=
  ⟨h.1, fun hn => by
    obtain ⟨b, o, e, hlt, hc⟩ := h.2 hn
    exact ⟨b, o, e, Nat.lt_of_lt_of_le hlt (Below.size hb), fun i hi => (Below.cell (p := ⟨b, o + i, none⟩) hb hlt).trans (hc i hi)⟩⟩
theorem Ints.nil_ {k : IntKind} {w : World} {A : Option Addr} : Ints k w A 0 [] := ⟨rfl, fun h => absurd h (by omega)⟩
theorem Ints.cell {k : IntKind} {w : World} {A : Option Addr} {n : Nat} {zs : List Int} (h : Ints k w A n zs) {i : Nat} (hi : i < n) : ∃ b o, A = some ⟨b, o, none⟩ ∧ b < w.heap.size ∧ w.cell? ⟨b, o + i, none⟩ = some (.int k (zs.getD i 0)) := by
  obtain ⟨b, o, e, hlt, hc⟩ := h.2 (by omega)
  exact ⟨b, o, e, hlt, hc i hi⟩

theorem getD_eq (zs : List Int) (i : Nat) (h : i < zs.length) : zs.getD i 0 = zs[i] := by
  rw [List.getD_eq_getElem?_getD, List.getElem?_eq_getElem h]; rfl
theorem getD_part (zs : List Int) (k m i : Nat) (h : i < m) : ((zs.drop k).take m).getD i 0 = zs.getD (k + i) 0 := by
  simp [List.getD_eq_getElem?_getD, h]

/-- A part of a slice. -/
theorem Ints.part {kd : IntKind} {w : World} {A : Option Addr} {n c : Nat} {zs : List Int} (h : Ints kd w A n zs) {k m : Nat} (hk : k + m ≤ n) (hc : n ≤ c) : Ints kd w (if c = k then A else A.map (·.add (k * 1))) m ((zs.drop k).take m) := by
  refine ⟨by have := h.1; simp; omega, fun hm => ?_⟩
  obtain ⟨b, o, rfl, hlt, hcell⟩ := h.2 (by omega)
  rw [if_neg (by omega)]
  refine ⟨b, o + k, ?_, hlt, fun i hi => ?_⟩
  · rw [Nat.mul_one]
    simp only [Option.map_some, Addr.add]
    by_cases h0 : k = 0
    · simp [h0]
    · simp [h0]
  · rw [getD_part _ _ _ _ hi, Nat.add_assoc]
    exact hcell (k + i) (by omega)

/-- A row of the call's own reads as numbers. -/
theorem ints_of_own {kd : IntKind} {w : World} {base : Nat} {e : TypeId} {v : Value} {n : Nat} {zs : List Int} (h : w.ownsRow base e 1 v n (zs.map (Value.int kd))) :
    ∃ A c, v = .slice A n c ∧ Ints kd w A n zs ∧ n ≤ c ∧ c ≤ maxLen := by
  have hl : zs.length = n := by simpa using h.1
  rcases h.2 with ⟨rfl, rfl⟩ | ⟨g, cap, cur, rfl, hb, hg, hnc, hm, r⟩
  · have : zs = [] := List.length_eq_zero_iff.1 hl
    subst this
    exact ⟨none, 0, rfl, Ints.nil_, Nat.le_refl _, Nat.zero_le _⟩
  · refine ⟨_, _, rfl, ⟨hl, fun hn => ⟨g, 0, rfl, ?_, fun i hi => ?_⟩⟩, hnc, hm⟩
    · exact (Array.getElem?_eq_some_iff.1 hg).1
    · have := h.cellAt i (by omega)
      rw [Nat.zero_add, this, List.getElem?_map, List.getElem?_eq_getElem (by omega), List.getD_eq_getElem?_getD, List.getElem?_eq_getElem (by omega)]
      rfl

theorem elem_u8 : Try.prog.elem 43 = 5 := by kernel_rfl
theorem slice_lh (A : Option Addr) (n c : Nat) (l h : Int) (w : World) (h0 : 0 ≤ l) (h1 : l ≤ h) (h2 : h ≤ c) :
    (Instr.slice 43 (.slice A n c) (some (.int .i64 l)) (some (.int .i64 h)) none).run Try.prog w = .ok (.slice (if c = l.toNat then A else A.map (·.add (l.toNat * 1))) (h.toNat - l.toNat) (c - l.toNat)) w := by
  rw [run_slice_lh (P := Try.prog) (w := w) (t := 43) (a := A) (len := n) (cap := c) (by rw [elem_u8]; exact Try.underlying43) .i64 .i64 l h h0 h1 h2]
  rw [elem_u8]
  simp [Try.sizeOf5, Result.andThen, sliced]
theorem slice_h (A : Option Addr) (n c : Nat) (h : Int) (w : World) (h0 : 0 ≤ h) (h2 : h ≤ c) :
    (Instr.slice 43 (.slice A n c) none (some (.int .i64 h)) none).run Try.prog w = .ok (.slice (if c = 0 then A else A.map (·.add (0 * 1))) (h.toNat - 0) (c - 0)) w := by
  rw [run_slice_h (P := Try.prog) (w := w) (t := 43) (a := A) (len := n) (cap := c) (by rw [elem_u8]; exact Try.underlying43) .i64 h h0 h2]
  rw [elem_u8]
  simp [Try.sizeOf5, Result.andThen, sliced]
end Go.Proofs.Ythdcgkikhindiaa
end

section
/-
  What codec.Get answers in this program, of any bytes at any place: a number and the place behind it, or why there is none.
  Conditions: the slice reads as bytes, of at most 2^47 of them.
-/
namespace Go.Proofs.Ythdcgkikhindiaa
open Go.RowKit Go.Shelf
set_option linter.unusedVariables false
namespace Cd

theorem low_ (z : Int) (w : World) : Calls Try.prog 100 #[.int .u8 z] w fun e w' => e = .returned (.bool (decide (z < 128))) ∧ w = w' := by
  go_enter Try.func100, Try.ntmps100
  go_wp2
  go_ret
  exact ⟨rfl, rfl⟩

/-- The first low byte, or -1. -/
def First (zs : List Int) (n : Nat) (r : Int) : Prop :=
  (r = -1 ∧ ∀ i, i < n → 128 ≤ zs.getD i 0) ∨ (∃ j : Nat, r = j ∧ j < n ∧ (∀ i, i < j → 128 ≤ zs.getD i 0) ∧ zs.getD j 0 < 128)

set_option maxHeartbeats 400000 in
theorem indexFunc (A : Option Addr) (n c : Nat) (zs : List Int) (r : Int) (w : World) (hi : Ints .u8 w A n zs) (hn : n ≤ 9223372036854775807) (hr : First zs n r) :
    Calls Try.prog 99 #[.slice A n c, .func (.func 100) #[] #[]] w fun e w' => e = .returned (.int .i64 r) ∧ w = w' := by
  have HI := Lib.hid hi
  have HR := Lib.hid hr
  clear hi hr
  go_enter Try.func99, Try.ntmps99
  go_wp2_with fail
  go_loop [8] (fun i => ∃ k : Nat, k ≤ n ∧ i = .int .i64 k ∧ ∀ j, j < k → 128 ≤ zs.getD j 0) (fun i => n - (intOf i).toNat)
  case atStart => exact ⟨0, Nat.zero_le _, rfl, fun j h => absurd h (by omega)⟩
  case round =>
    obtain ⟨k, hk, rfl, hbs⟩ := hrel
    have HB := Lib.hid hbs
    clear hbs
    by_cases hlt : k < n
    · obtain ⟨b, o, rfl, hbw, hcell⟩ := HI.out.cell hlt
      rcases Int.lt_or_le (zs.getD k 0) 128 with hz | hz
      · have hrk : r = k := by
          rcases HR.out with ⟨_, h⟩ | ⟨j, h1, h2, h3, h4⟩
          · have := h k hlt; omega
          · have h5 : ¬ k < j := fun h => by have := h3 k h; omega
            have h6 : ¬ j < k := fun h => by have := HB.out j h; omega
            omega
        have HRK := Lib.hid hrk
        clear hrk
        generalize zs.getD k 0 = z at *
        have hd : decide (z < 128) = true := decide_eq_true hz
        go_wp2_with (go_at_call 100; refine (low_ _ _).mono ?_; rintro e w' ⟨rfl, rfl⟩)
        go_ret
        exact ⟨by rw [HRK.out]; rfl, rfl⟩
      · have HN : Hid (∀ j, j < k + 1 → 128 ≤ zs.getD j 0) := by
          intro j hj
          rcases Nat.lt_or_ge j k with h | h
          · exact HB.out j h
          · obtain rfl : j = k := by omega
            exact hz
        generalize zs.getD k 0 = z at *
        have hd : decide (z < 128) = false := decide_eq_false (by omega)
        go_wp2_with (go_at_call 100; refine (low_ _ _).mono ?_; rintro e w' ⟨rfl, rfl⟩)
        go_round
        case rel => exact ⟨k + 1, by omega, by go_num, HN.out⟩
        case measure => simp [intOf]; omega
    · obtain rfl : k = n := by omega
      have hrk : r = -1 := by
        rcases HR.out with ⟨h, _⟩ | ⟨j, h1, h2, h3, h4⟩
        · exact h
        · have := HB.out j h2; omega
      have HRK := Lib.hid hrk
      clear hrk
      go_wp2
      go_ret
      exact ⟨by rw [HRK.out]; rfl, rfl⟩

/-- Is what stands there the shortest form? -/
def shortB (n : Nat) (z : Int) : Bool := if n = 1 then true else if n = 10 then z == 1 else decide (0 < z)

theorem shortest (A : Option Addr) (n c : Nat) (zs : List Int) (w : World) (hi : Ints .u8 w A n zs) (hn : n ≤ 9223372036854775807) (h1 : 1 ≤ n) :
    Calls Try.prog 101 #[.slice A n c] w fun e w' => e = .returned (.bool (shortB n (zs.getD (n - 1) 0))) ∧ w = w' := by
  obtain ⟨b, o, rfl, hbw, hcell⟩ := hi.cell (i := n - 1) (by omega)
  have g0 : (0 : Int) ≤ (n : Int) - 1 := by omega
  have g1 : ((n : Int) - 1).toNat = n - 1 := by omega
  have g2 : (n : Int) - 1 < n := by omega
  generalize zs.getD (n - 1) 0 = z at *
  by_cases e1 : n = 1
  · have E := Lib.hid (show shortB n z = true from if_pos e1)
    have f1 : ((n : Int) == 1) = true := beq_iff_eq.2 (by omega)
    clear e1
    go_enter Try.func101, Try.ntmps101
    go_wp2
    go_ret
    exact ⟨by rw [E.out]; rfl, rfl⟩
  · have f1 : ((n : Int) == 1) = false := beq_eq_false_iff_ne.2 (by omega)
    by_cases e2 : n = 10
    · have E := Lib.hid (show shortB n z = (z == 1) by unfold shortB; rw [if_neg e1, if_pos e2])
      have f2 : ((n : Int) == 10) = true := beq_iff_eq.2 (by omega)
      clear e1 e2
      go_enter Try.func101, Try.ntmps101
      go_wp2
      go_ret
      exact ⟨by rw [E.out]; rfl, rfl⟩
    · have E := Lib.hid (show shortB n z = decide (0 < z) by unfold shortB; rw [if_neg e1, if_neg e2])
      have f2 : ((n : Int) == 10) = false := beq_eq_false_iff_ne.2 (by omega)
      clear e1 e2
      go_enter Try.func101, Try.ntmps101
      go_wp2
      go_ret
      exact ⟨by rw [E.out]; rfl, rfl⟩
end Cd
end Go.Proofs.Ythdcgkikhindiaa
end

section
/-
  What codec.Get answers in this program, of any bytes at any place: a number and the place behind it, or why there is none.
  Conditions: the slice reads as bytes, of at most 2^47 of them.
-/
namespace Go.Proofs.Ythdcgkikhindiaa
open Go.RowKit Go.Shelf
set_option linter.unusedVariables false
namespace Cd
/-- A number, the place behind it, a fault. -/
abbrev got (n to e bad : Int) : Value := .tuple #[.int .u64 n, .int .i64 to, .agg #[.int .i64 e, .int .i64 bad]]

theorem get_range (A : Option Addr) (n c : Nat) (at_ : Int) (w : World) (h : at_ < 0 ∨ (n : Int) < at_) :
    Calls Try.prog 87 #[.slice A n c, .int .i64 at_] w fun e w' => e = .returned (got 0 0 3 0) ∧ Bel w w' := by
  by_cases h0 : at_ < 0
  · go_enter Try.func87, Try.ntmps87
    go_wp2
    refine bodyPost_ret (v := got 0 0 3 0) (by simp [results, Try.results87, go_sem]) rfl ⟨rfl, ?_⟩
    exact (Bel.refl _).alloc _
  · have h1 : (n : Int) < at_ := by omega
    clear h
    go_enter Try.func87, Try.ntmps87
    go_wp2
    refine bodyPost_ret (v := got 0 0 3 0) (by simp [results, Try.results87, go_sem]) rfl ⟨rfl, ?_⟩
    exact (Bel.refl _).alloc _

/-- The part of the bytes that is looked at, and a head of that. -/
theorem head_ (A : Option Addr) (n c k m : Nat) (zs : List Int) (w : World) (hi : Ints .u8 w A n zs) (hk : k + m ≤ n) (hc : n ≤ c) :
    ∃ A', (∀ w' : World, (Instr.slice 43 (.slice A n c) (some (.int .i64 (k : Int))) (some (.int .i64 ((k + m : Nat) : Int))) none).run Try.prog w' = .ok (.slice A' m (c - k)) w') ∧ Ints .u8 w A' m ((zs.drop k).take m) := by
  refine ⟨_, fun w' => ?_, hi.part hk hc⟩
  rw [slice_lh A n c k ((k + m : Nat) : Int) w' (by omega) (by omega) (by omega)]
  simp only [Int.toNat_natCast, Nat.add_sub_cancel_left]
theorem start_ (A : Option Addr) (n c m : Nat) (zs : List Int) (w : World) (hi : Ints .u8 w A n zs) (hk : m ≤ n) (hc : n ≤ c) :
    ∃ A', (∀ w' : World, (Instr.slice 43 (.slice A n c) none (some (.int .i64 (m : Int))) none).run Try.prog w' = .ok (.slice A' m c) w') ∧ Ints .u8 w A' m (zs.take m) := by
  refine ⟨_, fun w' => ?_, by have := hi.part (k := 0) (m := m) (by omega) hc; simpa using this⟩
  rw [slice_h A n c m w' (by omega) (by omega)]
  simp

set_option maxHeartbeats 1000000 in
theorem get_ok (A : Option Addr) (n c k j : Nat) (zs : List Int) (w : World) (hi : Ints .u8 w A n zs) (hn : n ≤ 1000000000) (hb : Bytes zs) (hc : n ≤ c) (hj : j < 10) (hkj : k + j < n)
    (hl : ∀ i, i < j → 128 ≤ zs.getD (k + i) 0) (hz : zs.getD (k + j) 0 < 128) (h0 : 0 < j → 0 < zs.getD (k + j) 0) (h9 : j = 9 → zs.getD (k + j) 0 = 1) :
    Calls Try.prog 87 #[.slice A n c, .int .i64 k] w fun e w' => e = .returned (got (val zs k (j + 1)) ((k : Int) + j + 1) 0 0) ∧ Bel w w' := by
  have hk' : k ≤ 1000000000 := by omega
  obtain ⟨m, H, hm, hH, hd⟩ : ∃ (m : Nat) (H : Int), (k + m ≤ n ∧ j < m) ∧ ((k + m : Nat) : Int) = H ∧ ((H = (k : Int) + 10 ∧ (k : Int) + 10 ≤ (n : Int) ∧ m = 10) ∨ (H = n ∧ (n : Int) < (k : Int) + 10)) := by
    rcases Nat.lt_or_ge n (k + 10) with h | h
    · exact ⟨n - k, n, by omega, by omega, .inr ⟨rfl, by omega⟩⟩
    · exact ⟨10, (k : Int) + 10, by omega, by omega, .inl ⟨rfl, by omega, rfl⟩⟩
  obtain ⟨hm, hjm⟩ := hm
  have hm' : m ≤ 1000000000 := by omega
  obtain ⟨A', hs, hi'⟩ := head_ A n c k m zs w hi hm hc
  rw [hH] at hs
  obtain ⟨A2, hs2, hi2⟩ := start_ A' m (c - k) (j + 1) _ w hi' (by omega) (by omega)
  rw [show ((j + 1 : Nat) : Int) = (j : Int) + 1 by omega] at hs2
  have hF : First ((zs.drop k).take m) m j := .inr ⟨j, rfl, hjm, fun i h => by rw [getD_part _ _ _ _ (by omega)]; exact hl i h, by rw [getD_part _ _ _ _ hjm]; exact hz⟩
  have IF := Lib.hid (fun w' (hw : Bel w w') => indexFunc A' m (c - k) _ j w' (hi'.bel hw) (by omega) hF)
  have hz2 : (((zs.drop k).take m).take (j + 1)).getD j 0 = zs.getD (k + j) 0 := by
    rw [List.take_take, Nat.min_eq_left (by omega), getD_part _ _ _ _ (by omega)]
  have hsB : shortB (j + 1) ((((zs.drop k).take m).take (j + 1)).getD (j + 1 - 1) 0) = true := by
    rw [Nat.add_sub_cancel, hz2]
    have b0 := hb (k + j)
    unfold shortB
    split
    · rfl
    · split
      · rw [beq_iff_eq]; exact h9 (by omega)
      · exact decide_eq_true (h0 (by omega))
  have SH := Lib.hid (fun w' (hw : Bel w w') => by have := shortest A2 (j + 1) (c - k) _ w' (hi2.bel hw) (by omega) (by omega); rw [hsB] at this; exact this)
  have HI2 := Lib.hid hi2
  have HB := Lib.hid hb
  have H9 := Lib.hid h9
  clear hi2 hb hsB hz2 hF hi' hi hl h0 h9 hz
  rcases hd with ⟨rfl, hd, rfl⟩ | ⟨rfl, hd⟩
  all_goals
    clear hH
    go_enter Try.func87, Try.ntmps87
    go_wp2_with (first | (go_at_call 99; refine (IF.out _ ((Bel.refl _).alloc _)).mono ?_; rintro e w' ⟨rfl, rfl⟩) | (go_at_call 101; refine (SH.out _ ((Bel.refl _).alloc _)).mono ?_; rintro e w' ⟨rfl, rfl⟩))
    go_loop [9, 57] (fun x i => ∃ t : Nat, t ≤ j + 1 ∧ i = .int .i64 t ∧ x = .int .u64 (val zs k t)) (fun _ i => j + 1 - (intOf i).toNat)
    case atStart => exact ⟨0, Nat.zero_le _, rfl, rfl⟩
    case round =>
      obtain ⟨t, ht, rfl, rfl⟩ := hrel
      by_cases hlt : t < j + 1
      · obtain ⟨b, o, rfl, hbw, hcell⟩ := (HI2.out.bel ((Bel.refl _).alloc (.cells #[.int .i64 0, .int .i64 0] 49))).cell hlt
        rw [List.take_take, Nat.min_eq_left (by omega), getD_part _ _ _ _ (by omega)] at hcell
        have hv := val_lt zs k t
        obtain ⟨z0, z1⟩ := HB.out (k + t)
        have HV := Lib.hid (show val zs k (t + 1) = val zs k t + zs.getD (k + t) 0 % 128 * 128 ^ t from rfl)
        have hz8 : t ≤ 8 ∨ (t = 9 ∧ zs.getD (k + t) 0 ≤ 1) := by
          rcases Nat.lt_or_ge t 9 with h | h
          · exact .inl (by omega)
          · obtain rfl : t = 9 := by omega
            obtain rfl : j = 9 := by omega
            have := H9.out rfl
            exact .inr ⟨rfl, by omega⟩
        generalize zs.getD (k + t) 0 = z at *
        obtain ⟨v0, v1⟩ := hv
        generalize val zs k t = v at *
        have E1 : bits .andNot .u8 z 128 = z % 128 := andNot128 z0 z1
        have E2 := Lib.hid (or_step t v0 v1 z0 hz8)
        have ht' : t < j + 1 := hlt
        clear v1 hz8
        go_wp2
        go_round
        case rel => exact ⟨t + 1, by omega, by go_num, by rw [E2.out, HV.out]⟩
        case measure => simp [intOf]; omega
      · obtain rfl : t = j + 1 := by omega
        go_wp2
        refine bodyPost_ret (v := got (val zs k (j + 1)) ((k : Int) + j + 1) 0 0) (by simp [results, Try.results87, go_sem]) rfl ⟨rfl, ?_⟩
        exact ((Bel.refl _).alloc _)

set_option maxHeartbeats 1000000 in
theorem get_bad (A : Option Addr) (n c k j : Nat) (zs : List Int) (w : World) (hi : Ints .u8 w A n zs) (hn : n ≤ 1000000000) (hc : n ≤ c) (hj : j < 10) (hj0 : 0 < j) (hkj : k + j < n)
    (hl : ∀ i, i < j → 128 ≤ zs.getD (k + i) 0) (hz : zs.getD (k + j) 0 < 128) (h0 : zs.getD (k + j) 0 = 0 ∨ (j = 9 ∧ 1 < zs.getD (k + j) 0)) :
    Calls Try.prog 87 #[.slice A n c, .int .i64 k] w fun e w' => e = .returned (got 0 0 5 k) ∧ Bel w w' := by
  have hk' : k ≤ 1000000000 := by omega
  obtain ⟨m, H, hm, hH, hd⟩ : ∃ (m : Nat) (H : Int), (k + m ≤ n ∧ j < m) ∧ ((k + m : Nat) : Int) = H ∧ ((H = (k : Int) + 10 ∧ (k : Int) + 10 ≤ (n : Int) ∧ m = 10) ∨ (H = n ∧ (n : Int) < (k : Int) + 10)) := by
    rcases Nat.lt_or_ge n (k + 10) with h | h
    · exact ⟨n - k, n, by omega, by omega, .inr ⟨rfl, by omega⟩⟩
    · exact ⟨10, (k : Int) + 10, by omega, by omega, .inl ⟨rfl, by omega, rfl⟩⟩
  obtain ⟨hm, hjm⟩ := hm
  have hm' : m ≤ 1000000000 := by omega
  obtain ⟨A', hs, hi'⟩ := head_ A n c k m zs w hi hm hc
  rw [hH] at hs
  obtain ⟨A2, hs2, hi2⟩ := start_ A' m (c - k) (j + 1) _ w hi' (by omega) (by omega)
  rw [show ((j + 1 : Nat) : Int) = (j : Int) + 1 by omega] at hs2
  have hF : First ((zs.drop k).take m) m j := .inr ⟨j, rfl, hjm, fun i h => by rw [getD_part _ _ _ _ (by omega)]; exact hl i h, by rw [getD_part _ _ _ _ hjm]; exact hz⟩
  have IF := Lib.hid (fun w' (hw : Bel w w') => indexFunc A' m (c - k) _ j w' (hi'.bel hw) (by omega) hF)
  have hz2 : (((zs.drop k).take m).take (j + 1)).getD j 0 = zs.getD (k + j) 0 := by
    rw [List.take_take, Nat.min_eq_left (by omega), getD_part _ _ _ _ (by omega)]
  have hsB : shortB (j + 1) ((((zs.drop k).take m).take (j + 1)).getD (j + 1 - 1) 0) = false := by
    rw [Nat.add_sub_cancel, hz2]
    unfold shortB
    rw [if_neg (by omega)]
    rcases h0 with h | ⟨rfl, h⟩
    · rw [h]; split <;> rfl
    · rw [if_pos rfl]; exact beq_eq_false_iff_ne.2 (by omega)
  have SH := Lib.hid (fun w' (hw : Bel w w') => by have := shortest A2 (j + 1) (c - k) _ w' (hi2.bel hw) (by omega) (by omega); rw [hsB] at this; exact this)
  clear hi2 hsB hz2 hF hi' hi hl h0 hz
  rcases hd with ⟨rfl, hd, rfl⟩ | ⟨rfl, hd⟩
  all_goals
    clear hH
    go_enter Try.func87, Try.ntmps87
    go_wp2_with (first | (go_at_call 99; refine (IF.out _ ((Bel.refl _).alloc _)).mono ?_; rintro e w' ⟨rfl, rfl⟩) | (go_at_call 101; refine (SH.out _ ((Bel.refl _).alloc _)).mono ?_; rintro e w' ⟨rfl, rfl⟩))
    refine bodyPost_ret (v := got 0 0 5 k) (by simp [results, Try.results87, go_sem]) rfl ⟨rfl, ?_⟩
    exact ((Bel.refl _).alloc _)

set_option maxHeartbeats 1000000 in
theorem get_short (A : Option Addr) (n c k : Nat) (zs : List Int) (w : World) (hi : Ints .u8 w A n zs) (hn : n ≤ 1000000000) (hc : n ≤ c) (hk : k ≤ n) (hd : n < k + 10)
    (hl : ∀ i, k + i < n → 128 ≤ zs.getD (k + i) 0) :
    Calls Try.prog 87 #[.slice A n c, .int .i64 k] w fun e w' => e = .returned (got 0 0 6 k) ∧ Bel w w' := by
  have hk' : k ≤ 1000000000 := by omega
  obtain ⟨A', hs, hi'⟩ := head_ A n c k (n - k) zs w hi (by omega) hc
  rw [show ((k + (n - k) : Nat) : Int) = (n : Int) by omega] at hs
  obtain ⟨m, hm⟩ : ∃ m, m = n - k := ⟨_, rfl⟩
  rw [← hm] at hs hi'
  have hm' : m < 10 := by omega
  have hF : First ((zs.drop k).take m) m (-1) := .inl ⟨rfl, fun i h => by rw [getD_part _ _ _ _ h]; exact hl i (by omega)⟩
  have IF := Lib.hid (fun w' (hw : Bel w w') => indexFunc A' m (c - k) _ (-1) w' (hi'.bel hw) (by omega) hF)
  have hd' : (n : Int) < (k : Int) + 10 := by omega
  clear hF hi' hi hl hm
  go_enter Try.func87, Try.ntmps87
  go_wp2_with (go_at_call 99; refine (IF.out _ ((Bel.refl _).alloc _)).mono ?_; rintro e w' ⟨rfl, rfl⟩)
  refine bodyPost_ret (v := got 0 0 6 k) (by simp [results, Try.results87, go_sem]) rfl ⟨rfl, ?_⟩
  exact ((Bel.refl _).alloc _)

set_option maxHeartbeats 1000000 in
theorem get_full (A : Option Addr) (n c k : Nat) (zs : List Int) (w : World) (hi : Ints .u8 w A n zs) (hn : n ≤ 1000000000) (hc : n ≤ c) (hd : k + 10 ≤ n)
    (hl : ∀ i, i < 10 → 128 ≤ zs.getD (k + i) 0) :
    Calls Try.prog 87 #[.slice A n c, .int .i64 k] w fun e w' => e = .returned (got 0 0 5 k) ∧ Bel w w' := by
  have hk' : k ≤ 1000000000 := by omega
  obtain ⟨A', hs, hi'⟩ := head_ A n c k 10 zs w hi (by omega) hc
  rw [show ((k + 10 : Nat) : Int) = (k : Int) + 10 by omega] at hs
  have hF : First ((zs.drop k).take 10) 10 (-1) := .inl ⟨rfl, fun i h => by rw [getD_part _ _ _ _ h]; exact hl i (by omega)⟩
  have IF := Lib.hid (fun w' (hw : Bel w w') => indexFunc A' 10 (c - k) _ (-1) w' (hi'.bel hw) (by omega) hF)
  have hd' : (k : Int) + 10 ≤ (n : Int) := by omega
  clear hF hi' hi hl
  go_enter Try.func87, Try.ntmps87
  go_wp2_with (go_at_call 99; refine (IF.out _ ((Bel.refl _).alloc _)).mono ?_; rintro e w' ⟨rfl, rfl⟩)
  refine bodyPost_ret (v := got 0 0 5 k) (by simp [results, Try.results87, go_sem]) rfl ⟨rfl, ?_⟩
  exact ((Bel.refl _).alloc _)

/-- Get, of any bytes at any place. -/
theorem get (A : Option Addr) (n c : Nat) (zs : List Int) (at_ x to e bad : Int) (w : World) (hi : Ints .u8 w A n zs) (hn : n ≤ 1000000000) (hb : Bytes zs) (hc : n ≤ c) (hw : Way zs at_ x to e bad) :
    Calls Try.prog 87 #[.slice A n c, .int .i64 at_] w fun r w' => r = .returned (got x to e bad) ∧ Bel w w' := by
  have hlen := hi.1
  rcases hw with ⟨h, rfl, rfl, rfl, rfl⟩ | ⟨k, rfl, hk, rfl, rfl, rfl, h⟩ | ⟨k, j, rfl, hj, hkj, hl, hz, h0, h9, rfl, rfl, rfl, rfl⟩
  · exact get_range A n c at_ w (by omega)
  · rcases h with ⟨rfl, h1, h2⟩ | ⟨rfl, h1, h2⟩ | ⟨rfl, j, hj, hj0, hkj, hl, hz, h0⟩
    · exact get_short A n c k zs w hi hn hc (by omega) (by omega) (fun i h => h2 i (by omega))
    · exact get_full A n c k zs w hi hn hc (by omega) h2
    · exact get_bad A n c k j zs w hi hn hc hj hj0 (by omega) hl hz h0
  · exact get_ok A n c k j zs w hi hn hb hc hj (by omega) hl hz h0 h9
end Cd
end Go.Proofs.Ythdcgkikhindiaa
end

section
/-
  What distraintref02.Put and distraintref02.Get answer in this program: the same as codec's.
  Conditions: a word; a slice that reads as bytes, of at most 10^9 of them.
-/
namespace Go.Proofs.Ythdcgkikhindiaa
open Go.RowKit Go.Shelf
set_option linter.unusedVariables false
namespace Cd

theorem Bel.grownBy {w w' : World} (h : Bel w w') : w.grownBy w' none := ⟨Below.os h, Below.tape h, Below.output h, Below.size h, fun k hk _ => Below.block h k hk⟩
theorem owns_bel {w w' : World} {base : Nat} {e : TypeId} {size : Nat} {v : Value} {n : Nat} {xs : List Value} (h : w.ownsRow base e size v n xs) (hb : Bel w w') : w'.ownsRow base e size v n xs := by
  refine h.kept (Bel.grownBy hb) ?_
  cases v.ownBlock with
  | none => exact .inl rfl
  | some g => exact .inr (by simp)
theorem owns_mono {w : World} {base base' : Nat} {e : TypeId} {size : Nat} {v : Value} {n : Nat} {xs : List Value} (h : w.ownsRow base e size v n xs) (hb : base' ≤ base) : w.ownsRow base' e size v n xs := by
  refine ⟨h.1, h.2.imp id fun ⟨g, cap, cur, h1, h2, r⟩ => ⟨g, cap, cur, h1, Nat.le_trans hb h2, r⟩⟩

/-- New bytes. -/
def Fresh (w w' : World) (v : Value) (zs : List Int) : Prop := w'.ownsRow w.heap.size 5 1 v zs.length (zs.map (Value.int .u8)) ∧ Bel w w'

theorem one_ok (z : Int) {k : IntKind} : ∀ u ∈ [Value.int k z], u.oneCell' = true := by
  intro u hu
  simp at hu
  subst hu
  rfl
theorem ints_ok (zs : List Int) {k : IntKind} : ∀ u ∈ zs.map (Value.int k), u.oneCell' = true := by
  intro u hu
  obtain ⟨z, _, rfl⟩ := List.mem_map.1 hu
  rfl
/-- The cells of a slice that reads as numbers, as an append takes them. -/
theorem Ints.news {k : IntKind} {w : World} {A : Addr} {n : Nat} {zs : List Int} (h : Ints k w (some A) n zs) : ∀ j u, (zs.map (Value.int k))[j]? = some u → w.cell? (A.add j) = some u := by
  intro j u hj
  have hl := h.1
  have hjn : j < n := by
    rcases Nat.lt_or_ge j n with h' | h'
    · exact h'
    · rw [List.getElem?_eq_none (by simp; omega)] at hj; cases hj
  obtain ⟨b, o, e, _, hc⟩ := h.cell hjn
  injection e with e
  subst e
  rw [List.getElem?_map, List.getElem?_eq_getElem (by omega)] at hj
  rw [getD_eq _ _ (by omega)] at hc
  simp at hj
  subst hj
  rw [← hc]
  unfold Addr.add
  by_cases h0 : j = 0
  · simp [h0]
  · simp [h0]

set_option maxRecDepth 100000 in
set_option maxHeartbeats 1000000 in
theorem ref_putN (f : Nat) : ∀ (x : Int) (w : World), 0 ≤ x → x < top f → f ≤ 9 →
    Calls Try.prog 61 #[.int .u64 x] w fun e w' => ∃ v, e = .returned v ∧ Fresh w w' v (encN f x) := by
  have low : ∀ (f : Nat) (x : Int) (w : World), 0 ≤ x → x < 128 → Calls Try.prog 61 #[.int .u64 x] w fun e w' => ∃ v, e = .returned v ∧ Fresh w w' v (encN f x) := by
    intro f x w x0 x1
    have E := Lib.hid (encN_small f x1)
    go_enter Try.func61, Try.ntmps61
    go_wp2_with fail
    go_ret
    refine ⟨_, rfl, ?_⟩
    rw [E.out]
    exact ⟨World.ownsRow_lit w #[.int .u8 x] 1 (Nat.le_refl _) (by unfold maxLen; omega) rfl, (Bel.refl _).alloc _⟩
  induction f with
  | zero => intro x w x0 x1 _; exact low 0 x w x0 (by have : top 0 = 2 := rfl; omega)
  | succ f ih =>
    intro x w x0 x1 hf
    rcases Int.lt_or_le x 128 with hlt | hge
    · exact low (f + 1) x w x0 hlt
    · obtain ⟨i0, hi, hz0, hz1, hz2⟩ := info_parts Try.info_u8
      have ht : top (f + 1) = 128 * top f := rfl
      have h1 : x / 128 < top f := by omega
      have hx : x ≤ 18446744073709551615 := by
        have h := top_mono hf
        rw [top9] at h
        omega
      have E := Lib.hid (encN_great f hge)
      have IH := Lib.hid (fun w' => ih (x / 128) w' (by omega) h1 (by omega))
      have e1 : bits .or .u8 (x % 128) 128 = x % 128 + 128 := by rw [or128 (by omega) (by omega)]; omega
      have hl := encN_len f (x / 128)
      clear ih h1 x1 ht low
      go_enter Try.func61, Try.ntmps61
      go_wp2_with fail
      refine (IH.out _).mono ?_
      rintro e w1 ⟨v, rfl, hv, hb⟩
      have own0 := World.ownsRow_lit w #[.int .u8 (x % 128 + 128)] (base := w.heap.size) (e := 5) (size := 1) 1 (Nat.le_refl _) (by unfold maxLen; omega) rfl
      have own1 := owns_bel own0 hb
      obtain ⟨A, c, rfl, hA, hAc, hcm⟩ := ints_of_own hv
      obtain ⟨b, o, rfl, _, _⟩ := hA.cell (i := 0) (by omega)
      have NW := Lib.hid (Ints.news hA)
      have HO := Lib.hid own1
      have OK := Lib.hid (ints_ok (encN f (x / 128)) (k := .u8))
      clear hA own0 own1 hv
      go_wp2_with (at_builtin; refine wpList_append_own _ rfl _ _ 43 rfl w.heap.size 5 i0 (.int .u8 0) 1 1 Try.underlying43 hi hz0 hz1 hz2 rfl (by decide) _ _ _ rfl HO.out _ (encN f (x / 128)).length _ _ rfl (by simp) NW.out OK.out (by unfold maxLen; omega) (by omega) (by have := Below.size hb; simp at this; omega) ?_; intro v' w2 hown' hgrow _)
      have HOW := Lib.hid hown'
      clear hown'
      have hb2 : Bel w w2 := Bel.grown (((Bel.refl w).alloc _).trans hb) hgrow (fun k hk => (HO.out.lt k hk).1)
      clear hgrow
      go_wp2
      go_ret
      refine ⟨_, rfl, ?_⟩
      rw [E.out]
      exact ⟨by have h := HOW.out; rw [Nat.add_comm] at h; exact h, hb2⟩

theorem ref_put (x : Int) (w : World) (x0 : 0 ≤ x) (x1 : x ≤ 18446744073709551615) :
    Calls Try.prog 61 #[.int .u64 x] w fun e w' => ∃ v, e = .returned v ∧ Fresh w w' v (enc x) :=
  ref_putN 9 x w x0 (by rw [top9]; omega) (Nat.le_refl _)
end Cd
end Go.Proofs.Ythdcgkikhindiaa
end

section
/-
  What the small functions of distraintkit answer in this program: bytes side by side, copied, written over, lent with room behind them.
  Conditions: the slices read as bytes, of at most 10^9 of them.
-/
namespace Go.Proofs.Ythdcgkikhindiaa
open Go.RowKit Go.Shelf
set_option linter.unusedVariables false
namespace Cd

theorem conv {A : Option Addr} {n c : Nat} {zs : List Int} {w : World} (hi : Ints .u8 w A n zs) : (convert 43 9 (.slice A n c)).run Try.prog w = .ok (.string (strOfNums zs)) w := by
  rcases Nat.eq_zero_or_pos n with rfl | hn
  · have : zs = [] := List.length_eq_zero_iff.1 hi.1
    subst this
    cases A with
    | none => exact run_convert_bytes_nil w _ _ Try.underlying43 Try.underlying5 0 c _ Try.underlying9
    | some a =>
      rw [run_convert_bytes_string w _ _ _ _ 0 c Try.underlying43 Try.underlying5 Try.underlying9]
      exact run_bytesToString w a 0 c [] (run_loadCells_list w a [] (fun j v h => by simp at h))
  · obtain ⟨b, o, rfl, _, hc⟩ := hi.2 hn
    exact run_convert_bytes_arg w _ _ Try.underlying43 Try.underlying5 b o n c zs hi.1 hc _ Try.underlying9

theorem same (A B : Option Addr) (n c m d : Nat) (zs : List Int) (w : World) (ha : Ints .u8 w A n zs) (hb : Ints .u8 w B m zs) :
    Calls Try.prog 28 #[.slice A n c, .slice B m d] w fun e w' => e = .returned (.bool true) ∧ w = w' := by
  have h1 := conv ha (c := c)
  have h2 := conv hb (c := d)
  clear ha hb
  generalize strOfNums zs = s at *
  go_enter Try.func28, Try.ntmps28
  go_wp2
  go_ret
  exact ⟨by simp, rfl⟩

/-- A slice of bytes: nil has no room. -/
structure Sl (w : World) (A : Option Addr) (n c : Nat) (zs : List Int) : Prop where
  ints : Ints .u8 w A n zs
  cap : n ≤ c
  nil : A = none → c = 0
theorem Sl.bel {w w' : World} {A : Option Addr} {n c : Nat} {zs : List Int} (h : Sl w A n c zs) (hb : Bel w w') : Sl w' A n c zs := ⟨h.ints.bel hb, h.cap, h.nil⟩
theorem Sl.len {w : World} {A : Option Addr} {n c : Nat} {zs : List Int} (h : Sl w A n c zs) : zs.length = n := h.ints.1
theorem sl_of_own {w : World} {base : Nat} {e : TypeId} {v : Value} {n : Nat} {zs : List Int} (h : w.ownsRow base e 1 v n (zs.map (Value.int .u8))) : ∃ A c, v = .slice A n c ∧ Sl w A n c zs := by
  obtain ⟨A, c, e, hi, hc, _⟩ := ints_of_own h
  refine ⟨A, c, e, hi, hc, ?_⟩
  rintro rfl
  rcases h.2 with ⟨h1, _⟩ | ⟨g, cap, cur, h1, _⟩
  · rw [h1] at e; injection e with _ _ e; exact e.symm
  · rw [h1] at e; injection e with e; cases e
theorem Fresh.sl {w w' : World} {v : Value} {zs : List Int} (h : Fresh w w' v zs) : ∃ A c, v = .slice A zs.length c ∧ Sl w' A zs.length c zs := sl_of_own h.1

theorem wpList_append_sl {w : World} {ops : Array Oper} {rest : List Oper} {o : Oper} {a : Act} {Q : Exit → Act → World → Prop} (hgd : o.guard = none) (s x : Operand)
    (ho : o.op = .call { callee := .builtin .append, args := #[s, x], argTypes := #[43, 43] })
    (base : Nat) (v : Value) (k : Nat) (xs : List Value) (hs : a.eval s = v) (hown : w.ownsRow base 5 1 v k xs) (A : Option Addr) (m c : Nat) (zs : List Int) (hx : a.eval x = .slice A m c) (hi : Sl w A m c zs)
    (hm : k + m ≤ 1000000000000) (hb : base ≤ w.heap.size)
    (h : ∀ v' w', w'.ownsRow base 5 1 v' (k + m) (xs ++ zs.map (Value.int .u8)) → w.grownBy w' v.ownBlock → wpList Try.prog ops Q rest (a.put o.dst v') w') : wpList Try.prog ops Q (o :: rest) a w := by
  obtain ⟨i0, h1, hz0, hz1, hz2⟩ := info_parts Try.info_u8
  cases A with
  | none =>
    obtain rfl : c = 0 := hi.nil rfl
    obtain rfl : m = 0 := by have := hi.cap; omega
    have hz : zs = [] := List.length_eq_zero_iff.1 hi.ints.1
    subst hz
    refine wpList_append_own_none hgd s x 43 ho base 5 i0 1 Try.underlying43 h1 v k xs hs hown hx ?_
    exact h v w (by simpa using hown) ⟨rfl, rfl, rfl, Nat.le_refl _, fun _ _ _ => rfl⟩
  | some ad =>
    refine wpList_append_own w hgd s x 43 ho base 5 i0 (.int .u8 0) 1 1 Try.underlying43 h1 hz0 hz1 hz2 rfl (by decide) v k xs hs hown ad m c (zs.map (Value.int .u8)) hx (by have := hi.ints.1; simp; omega) (Ints.news hi.ints) (ints_ok zs) (by unfold maxLen; omega) (by omega) hb ?_
    intro v' w' h2 h3 _
    exact h v' w' h2 h3

theorem own_empty (w : World) : (w.alloc (.cells #[] 5)).ownsRow w.heap.size 5 1 (.slice (some ⟨w.heap.size, 0, none⟩) 0 0) 0 [] :=
  World.ownsRow_lit w #[] 0 (Nat.le_refl _) (Nat.zero_le _) rfl

/-- append([]byte{}, b...) -/
theorem copyBytes (A : Option Addr) (n c : Nat) (zs : List Int) (w : World) (hi : Sl w A n c zs) (hn : n ≤ 1000000000) :
    Calls Try.prog 25 #[.slice A n c] w fun e w' => ∃ v, e = .returned v ∧ Fresh w w' v zs := by
  have HS := Lib.hid (hi.bel ((Bel.refl w).alloc (.cells #[] 5)))
  have HE := Lib.hid (own_empty w)
  have HL := Lib.hid hi.len
  clear hi
  go_enter Try.func25, Try.ntmps25
  go_wp2_with (at_builtin; refine wpList_append_sl rfl _ _ rfl w.heap.size _ 0 [] rfl HE.out A n c zs rfl HS.out (by omega) (by simp) ?_; intro v' w1 hown' hgrow)
  have HO := Lib.hid hown'
  have hb : Bel w w1 := Bel.grown ((Bel.refl w).alloc _) hgrow (fun k hk => (HE.out.lt k hk).1)
  clear hown' hgrow
  go_wp2
  go_ret
  refine ⟨_, rfl, ?_, hb⟩
  have h := HO.out
  rw [Nat.zero_add, List.nil_append, ← HL.out] at h
  exact h

theorem clone (A : Option Addr) (n c : Nat) (zs : List Int) (w : World) (hi : Sl w A n c zs) (hn : n ≤ 1000000000) :
    Calls Try.prog 84 #[.slice A n c] w fun e w' => ∃ v, e = .returned v ∧ Fresh w w' v zs := by
  have HS := Lib.hid (hi.bel ((Bel.refl w).alloc (.cells #[] 5)))
  have HE := Lib.hid (own_empty w)
  have HL := Lib.hid hi.len
  have HC := Lib.hid hi.cap
  have HN := Lib.hid hi.nil
  clear hi
  cases A with
  | none =>
    have hz : Hid (zs = []) := List.length_eq_zero_iff.1 (by have := HN.out rfl; have := HC.out; have := HL.out; omega)
    have hq := fun w => Lib.run_eql_slice_nil (P := Try.prog) w 43 5 none n c 0 0 Try.underlying43
    go_enter Try.func84, Try.ntmps84
    go_wp2
    go_ret
    refine ⟨_, rfl, ?_, Bel.refl _⟩
    rw [hz.out]
    exact World.ownsRow_nil _ _ _ _
  | some ad =>
    have hq := fun w => Lib.run_eql_slice_nil (P := Try.prog) w 43 5 (some ad) n c 0 0 Try.underlying43
    go_enter Try.func84, Try.ntmps84
    go_wp2_with (at_builtin; refine wpList_append_sl rfl _ _ rfl w.heap.size _ 0 [] rfl HE.out (some ad) n c zs rfl HS.out (by omega) (by simp) ?_; intro v' w1 hown' hgrow)
    have HO := Lib.hid hown'
    have hb : Bel w w1 := Bel.grown ((Bel.refl w).alloc _) hgrow (fun k hk => (HE.out.lt k hk).1)
    clear hown' hgrow
    go_wp2
    go_ret
    refine ⟨_, rfl, ?_, hb⟩
    have h := HO.out
    rw [Nat.zero_add, List.nil_append, ← HL.out] at h
    exact h

/-- What the call may have turned: the blocks S alone. -/
structure Kep (S : Nat → Prop) (a w : World) : Prop where
  os : w.os = a.os
  tape : w.tape = a.tape
  output : w.output = a.output
  size : a.heap.size ≤ w.heap.size
  block : ∀ k, k < a.heap.size → ¬ S k → w.heap[k]? = a.heap[k]?
theorem Kep.refl (S : Nat → Prop) (a : World) : Kep S a a := ⟨rfl, rfl, rfl, Nat.le_refl _, fun _ _ _ => rfl⟩
theorem Kep.of_bel {S : Nat → Prop} {a w : World} (h : Bel a w) : Kep S a w := ⟨Below.os h, Below.tape h, Below.output h, Below.size h, fun k hk _ => Below.block h k hk⟩
theorem Kep.trans {S : Nat → Prop} {a b c : World} (h : Kep S a b) (k : Kep S b c) : Kep S a c :=
  ⟨k.os.trans h.os, k.tape.trans h.tape, k.output.trans h.output, Nat.le_trans h.size k.size, fun i hi hs => (k.block i (Nat.lt_of_lt_of_le hi h.size) hs).trans (h.block i hi hs)⟩
theorem Kep.mono {S T : Nat → Prop} {a b : World} (h : Kep S a b) (hst : ∀ k, k < a.heap.size → S k → T k) : Kep T a b := ⟨h.os, h.tape, h.output, h.size, fun i hi hs => h.block i hi (fun hS => hs (hst i hi hS))⟩
theorem Kep.grown {S : Nat → Prop} {a w w' : World} {row : Option Nat} (h : Kep S a w) (hg : w.grownBy w' row) (hr : ∀ k, row = some k → k < a.heap.size → S k) : Kep S a w' :=
  ⟨hg.os.trans h.os, hg.tape.trans h.tape, hg.output.trans h.output, Nat.le_trans h.size hg.size, fun i hi hs => (hg.block i (Nat.lt_of_lt_of_le hi h.size) (fun e => hs (hr i e.symm hi))).trans (h.block i hi hs)⟩
theorem Kep.bel {S : Nat → Prop} {a b w : World} (h : Bel a b) (k : Kep S b w) (hs : ∀ k, S k → a.heap.size ≤ k) : Bel a w :=
  ⟨k.os.trans (Below.os h), k.tape.trans (Below.tape h), k.output.trans (Below.output h), Nat.le_trans (Below.size h) k.size, fun i hi => (k.block i (Nat.lt_of_lt_of_le hi (Below.size h)) (fun hS => by have := hs i hS; omega)).trans (Below.block h i hi)⟩
theorem Kep.alloc {S : Nat → Prop} {a w : World} (h : Kep S a w) (o : Obj) : Kep S a (w.alloc o) := h.trans (Kep.of_bel ((Bel.refl w).alloc o))
theorem Kep.drewN {S : Nat → Prop} {a w : World} (h : Kep S a w) (n : Nat) : Kep S a (w.drewN n) := h.trans (Kep.of_bel ((Bel.refl w).drewN n))
theorem Kep.drew {S : Nat → Prop} {a w : World} (h : Kep S a w) : Kep S a w.drew := h.trans (Kep.of_bel ((Bel.refl w).drew))
theorem Kep.set {S : Nat → Prop} {a w : World} (h : Kep S a w) {b o : Nat} (hp : S b) (u : Value) : Kep S a (w.setCell ⟨b, o, none⟩ u) :=
  h.trans ⟨rfl, rfl, rfl, by have := (KeepsWalks.setCell w ⟨b, o, none⟩ u).size; exact this, fun k hk hs => Below.heap_setCell w ⟨b, o, none⟩ u k (fun e => hs (by rw [e]; exact hp))⟩
theorem Kep.cell {S : Nat → Prop} {a w : World} (h : Kep S a w) {b o : Nat} {v : Value} (hs : ¬ S b) (hc : a.cell? ⟨b, o, none⟩ = some v) : w.cell? ⟨b, o, none⟩ = some v :=
  (World.cell?_of_block (w := a) (h.block b (World.block_lt_of_cell? a ⟨b, o, none⟩ hc) hs)).trans hc
theorem Kep.ints {S : Nat → Prop} {k : IntKind} {a w : World} {A : Option Addr} {n : Nat} {zs : List Int} (h : Kep S a w) (hs : ∀ x, A = some x → ¬ S x.block) (hi : Ints k a A n zs) : Ints k w A n zs := by
  refine ⟨hi.1, fun hn => ?_⟩
  obtain ⟨b, o, rfl, hlt, hc⟩ := hi.2 hn
  exact ⟨b, o, rfl, Nat.lt_of_lt_of_le hlt h.size, fun i hin => h.cell (hs _ rfl) (hc i hin)⟩
theorem Kep.owns {S : Nat → Prop} {a w : World} {base : Nat} {e : TypeId} {size : Nat} {v : Value} {n : Nat} {xs : List Value} (h : Kep S a w) (hs : ∀ k, v.ownBlock = some k → ¬ S k) (ho : a.ownsRow base e size v n xs) : w.ownsRow base e size v n xs := by
  refine ⟨ho.1, ho.2.imp id ?_⟩
  rintro ⟨g, cap, cur, rfl, hb, hg, r⟩
  exact ⟨g, cap, cur, rfl, hb, (h.block g (Array.getElem?_eq_some_iff.1 hg).1 (hs g rfl)).trans hg, r⟩

theorem xor_u8 (a b : Int) (w : World) : ∃ z, bits .xor .u8 a b = z := ⟨_, rfl⟩

/-- Bytes of the call's own, written over. -/
theorem over (g n c base : Nat) (zs : List Int) (w : World) (hn : n ≤ 1000000000) (ho : w.ownsRow base 5 1 (.slice (some ⟨g, 0, none⟩) n c) n (zs.map (Value.int .u8))) :
    Calls Try.prog 31 #[.slice (some ⟨g, 0, none⟩) n c] w fun e w' => e = .returned (.tuple #[]) ∧ Kep (fun k => k = g) w w' := by
  have HO := Lib.hid ho
  clear ho
  go_enter Try.func31, Try.ntmps31
  go_wp2_with fail
  go_loopw [2] (fun i wr => ∃ (k : Nat) (ys : List Int), i = .int .i64 k ∧ k ≤ n ∧ wr.ownsRow base 5 1 (.slice (some ⟨g, 0, none⟩) n c) n (ys.map (Value.int .u8)) ∧ Kep (fun k => k = g) w wr) (fun i _ => n - (intOf i).toNat)
  case atStart => exact ⟨0, zs, rfl, Nat.zero_le _, HO.out, Kep.refl _ _⟩
  case round =>
    obtain ⟨k, ys, rfl, hk, hown, hb⟩ := hrel
    have HW := Lib.hid hown
    clear hown
    by_cases hlt : k < n
    · have hyl : ys.length = n := by simpa using HW.out.1
      have hcell : wr.cell? ⟨g, k, none⟩ = some (.int .u8 (ys.getD k 0)) := by
        rw [HW.out.cellAt k (by omega), List.getElem?_map, List.getElem?_eq_getElem (by omega), getD_eq _ _ (by omega)]
        rfl
      have hfz := HW.out.frozenAt k
      have HST : Hid (∀ z, (wr.setCell ⟨g, k, none⟩ (.int .u8 z)).ownsRow base 5 1 (.slice (some ⟨g, 0, none⟩) n c) n ((ys.set k z).map (Value.int .u8))) := by
        intro z
        have h := (HW.out.stored k (.int .u8 z)).1
        rw [← List.map_set] at h
        exact h
      clear hyl
      generalize ys.getD k 0 = y at *
      go_wp2
      go_roundw
      case rel => exact ⟨k + 1, ys.set k (bits .xor .u8 y 165), by go_num, by omega, HST.out _, hb.set rfl _⟩
      case measure => simp [intOf]; omega
    · obtain rfl : k = n := by omega
      go_wp2
      go_end0
      exact ⟨rfl, hb⟩
theorem over_none (A : Option Addr) (c : Nat) (w : World) :
    Calls Try.prog 31 #[.slice A 0 c] w fun e w' => e = .returned (.tuple #[]) ∧ w = w' := by
  go_enter Try.func31, Try.ntmps31
  go_wp2_with fail
  go_loop [2] (fun i => i = .int .i64 0) (fun _ => 0)
  case atStart => rfl
  case round =>
    subst hrel
    go_wp2
    go_end0
    exact ⟨rfl, rfl⟩
theorem over_any (base n : Nat) (v : Value) (zs : List Int) (w : World) (hn : n ≤ 1000000000) (ho : w.ownsRow base 5 1 v n (zs.map (Value.int .u8))) :
    Calls Try.prog 31 #[v] w fun e w' => e = .returned (.tuple #[]) ∧ Kep (fun k => v.ownBlock = some k) w w' := by
  rcases ho.2 with ⟨rfl, rfl⟩ | ⟨g, c, cur, rfl, r⟩
  · exact (over_none none 0 w).mono fun e w' h => ⟨h.1, by rw [h.2]; exact Kep.refl _ _⟩
  · exact (over g n c base zs w hn ho).mono fun e w' h => ⟨h.1, h.2.mono fun k _ e => by rw [e]; rfl⟩

theorem own_form {w : World} {base n : Nat} {v : Value} {zs : List Value} (h : w.ownsRow base 5 1 v (0 + n + 4) zs) : ∃ g c, v = .slice (some ⟨g, 0, none⟩) (n + 4) c ∧ n + 4 ≤ c ∧ c ≤ maxLen := by
  rw [Nat.zero_add] at h
  rcases h.2 with ⟨_, h0⟩ | ⟨g, cap, cur, e, _, _, h1, h2, _⟩
  · omega
  · exact ⟨g, cap, e, h1, h2⟩

/-! ### Bytes with room behind them -/
/-- A slice with the four bytes behind it that tell whether its room was touched. -/
structure Lent (base : Nat) (w : World) (v : Value) (n : Nat) (zs : List Int) : Prop where
  row : ∃ g c, v = .slice (some ⟨g, 0, none⟩) n c ∧ n + 4 ≤ c ∧ c ≤ maxLen ∧ w.ownsRow base 5 1 (.slice (some ⟨g, 0, none⟩) (n + 4) c) (n + 4) ((zs ++ [201, 202, 203, 204]).map (Value.int .u8))
  len : zs.length = n

theorem sl_lit (w : World) (zs : List Int) : Sl (w.alloc (.cells (zs.map (Value.int .u8)).toArray 5)) (some ⟨w.heap.size, 0, none⟩) zs.length zs.length zs := by
  refine ⟨⟨rfl, fun hn => ⟨w.heap.size, 0, rfl, by simp, fun i hi => ?_⟩⟩, Nat.le_refl _, fun h => by cases h⟩
  rw [Nat.zero_add, World.cell?_alloc_new, List.getElem?_toArray, List.getElem?_map, List.getElem?_eq_getElem hi, getD_eq _ _ hi]
  rfl


theorem owns_front {w : World} {base g c n m : Nat} {e : TypeId} {xs ys : List Value} (h : w.ownsRow base e 1 (.slice (some ⟨g, 0, none⟩) m c) m (xs ++ ys)) (hn : xs.length = n) : w.ownsRow base e 1 (.slice (some ⟨g, 0, none⟩) n c) n xs := by
  have hl := h.1
  rw [List.length_append] at hl
  refine ⟨by omega, ?_⟩
  rcases h.2 with ⟨h1, _⟩ | ⟨g', cap, cur, h1, hb, hg, hnc, hcm, hcs, ht⟩
  · cases h1
  · injection h1 with h1 _ h3
    injection h1 with h1
    injection h1 with h1
    subst h1 h3
    refine .inr ⟨g, c, cur, rfl, hb, hg, by omega, hcm, hcs, ?_⟩
    have h2 := congrArg (List.take n) ht
    rw [List.take_take, Nat.min_eq_left (by omega), List.take_left' (by omega)] at h2
    rw [Nat.mul_one]
    exact h2
theorem Lent.own {base : Nat} {w : World} {v : Value} {n : Nat} {zs : List Int} (h : Lent base w v n zs) : w.ownsRow base 5 1 v n (zs.map (Value.int .u8)) := by
  obtain ⟨g, c, rfl, h1, h2, h3⟩ := h.row
  rw [List.map_append] at h3
  exact owns_front h3 (by simpa using h.len)
theorem Lent.bel {base : Nat} {w w' : World} {v : Value} {n : Nat} {zs : List Int} (h : Lent base w v n zs) (hb : Bel w w') : Lent base w' v n zs := by
  obtain ⟨g, c, e, h1, h2, h3⟩ := h.row
  exact ⟨⟨g, c, e, h1, h2, owns_bel h3 hb⟩, h.len⟩
theorem Lent.kep {S : Nat → Prop} {base : Nat} {w w' : World} {v : Value} {n : Nat} {zs : List Int} (h : Lent base w v n zs) (hb : Kep S w w') (hs : ∀ k, v.ownBlock = some k → ¬ S k) : Lent base w' v n zs := by
  obtain ⟨g, c, rfl, h1, h2, h3⟩ := h.row
  exact ⟨⟨g, c, rfl, h1, h2, hb.owns (fun k e => hs k e) h3⟩, h.len⟩
end Cd
end Go.Proofs.Ythdcgkikhindiaa
end
