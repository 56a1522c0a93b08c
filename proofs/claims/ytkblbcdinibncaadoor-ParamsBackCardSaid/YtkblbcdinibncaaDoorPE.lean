/-
  Texts of this claim, put together: Enc, Iter, Put, Base. What each one says, and under which conditions, stands ahead of it.
-/
import Derived.Laws.Bits64
import Derived.RangeFuncNested
import Derived.RangeFuncBound
import Derived.RangeFuncCalls
import Derived.RangeFuncLeaves
import Derived.RangeFuncBox
import Derived.Shelf.Abstract
import Derived.Shelf.RegionOpen
import Derived.WalkKit
import Derived.OwnWalkIn
import Derived.TacticsInMore
import Derived.LoopNIn
import Derived.LoopIn
import Derived.Maps.AppendAt
import Derived.Lib.Hide
import Derived.StillTailTactics
import Derived.BigQuiet
import Derived.Deep.QuietTactic
import Derived.IntWalk
import Derived.Test.YtkblbcdinibncaaDoorChecked

section
/-
  Plain facts on the bytes of numbers: seven bits a byte, the lowest first. No program, no condition but the bounds that each fact names.
-/
namespace Go.Proofs.YtkblbcdinibncaaDoor
set_option linter.unusedVariables false
namespace Cd

/-- The bytes of n, at most f + 1 of them. -/
def encN : Nat → Int → List Int
  | 0, n => [n]
  | f + 1, n => if n < 128 then [n] else (n % 128 + 128) :: encN f (n / 128)
/-- The bytes of a word. -/
def enc (n : Int) : List Int := encN 9 n
/-- The most that f + 1 bytes hold. -/
def top : Nat → Int
  | 0 => 2
  | f + 1 => 128 * top f
theorem top0 (f : Nat) : 2 ≤ top f := by
  induction f with
  | zero => exact Int.le_refl _
  | succ f ih => show _ ≤ 128 * top f; omega
theorem top_mono {f g : Nat} (h : f ≤ g) : top f ≤ top g := by
  induction g with
  | zero => obtain rfl : f = 0 := by omega
            exact Int.le_refl _
  | succ g ih =>
    rcases Nat.lt_or_ge g f with hlt | hge
    · obtain rfl : f = g + 1 := by omega
      exact Int.le_refl _
    · have h1 := ih hge; have h2 := top0 g; show _ ≤ 128 * top g; omega
theorem top9 : top 9 = 18446744073709551616 := by decide
theorem encN_small {n : Int} (f : Nat) (h : n < 128) : encN f n = [n] := by
  cases f with
  | zero => rfl
  | succ f => exact if_pos h
theorem encN_great {n : Int} (f : Nat) (h : 128 ≤ n) : encN (f + 1) n = (n % 128 + 128) :: encN f (n / 128) := if_neg (by omega)
theorem encN_len (f : Nat) : ∀ n, 1 ≤ (encN f n).length ∧ (encN f n).length ≤ f + 1 := by
  induction f with
  | zero => intro n; exact ⟨Nat.le_refl _, Nat.le_refl _⟩
  | succ f ih =>
    intro n
    rcases Int.lt_or_le n 128 with h | h
    · rw [encN_small _ h]; exact ⟨Nat.le_refl _, by simp⟩
    · rw [encN_great _ h]
      have := ih (n / 128)
      simp
      omega
theorem enc_len (n : Int) : 1 ≤ (enc n).length ∧ (enc n).length ≤ 10 := encN_len 9 n
theorem encN_byte (f : Nat) : ∀ n, 0 ≤ n → n < top f → ∀ z ∈ encN f n, 0 ≤ z ∧ z ≤ 255 := by
  induction f with
  | zero => intro n h0 h1 z hz; simp [encN] at hz; subst hz; have : top 0 = 2 := rfl; omega
  | succ f ih =>
    intro n h0 h1 z hz
    have ht : top (f + 1) = 128 * top f := rfl
    rcases Int.lt_or_le n 128 with h | h
    · rw [encN_small _ h] at hz; simp at hz; omega
    · rw [encN_great _ h] at hz
      rcases List.mem_cons.1 hz with rfl | hz
      · omega
      · exact ih (n / 128) (by omega) (by omega) z hz
theorem enc_byte {n : Int} (h0 : 0 ≤ n) (h1 : n ≤ 18446744073709551615) : ∀ z ∈ enc n, 0 ≤ z ∧ z ≤ 255 := encN_byte 9 n h0 (by rw [top9]; omega)
/-- With more room the bytes are the same. -/
theorem encN_room (f : Nat) : ∀ n, 0 ≤ n → n < top f → encN (f + 1) n = encN f n := by
  induction f with
  | zero => intro n h0 h1; have : top 0 = 2 := rfl; rw [encN_small _ (by omega), encN_small _ (by omega)]
  | succ f ih =>
    intro n h0 h1
    have ht : top (f + 1) = 128 * top f := rfl
    rcases Int.lt_or_le n 128 with h | h
    · rw [encN_small _ h, encN_small _ h]
    · rw [encN_great _ h, encN_great _ h, ih _ (by omega) (by omega)]

/-- A byte's lower seven bits, with the highest bit. -/
theorem or128 {r : Int} (h0 : 0 ≤ r) (h1 : r ≤ 255) : bits .or .u8 r 128 = r % 128 + 128 := by
  obtain ⟨n, rfl⟩ := Int.eq_ofNat_of_zero_le h0
  have hn : n < 256 := by omega
  have : ∀ m : Fin 256, bits .or .u8 ((m.1 : Nat) : Int) 128 = ((m.1 : Nat) : Int) % 128 + 128 := by decide +kernel
  exact this ⟨n, hn⟩
theorem andNot128 {r : Int} (h0 : 0 ≤ r) (h1 : r ≤ 255) : bits .andNot .u8 r 128 = r % 128 := by
  obtain ⟨n, rfl⟩ := Int.eq_ofNat_of_zero_le h0
  have hn : n < 256 := by omega
  have : ∀ m : Fin 256, bits .andNot .u8 ((m.1 : Nat) : Int) 128 = ((m.1 : Nat) : Int) % 128 := by decide +kernel
  exact this ⟨n, hn⟩

/-- Words that share no bit. -/
theorem or_add {n t : Int} (k : Nat) (n0 : 0 ≤ n) (hn : n < 128 ^ k) (t0 : 0 ≤ t) (h1 : t * 128 ^ k + n < 18446744073709551616) : bits .or .u64 n (t * 128 ^ k) = n + t * 128 ^ k := by
  obtain ⟨n, rfl⟩ := Int.eq_ofNat_of_zero_le n0
  obtain ⟨t, rfl⟩ := Int.eq_ofNat_of_zero_le t0
  have e : (128 : Int) ^ k = ((2 ^ (7 * k) : Nat) : Int) := by
    rw [Nat.pow_mul]; simp
  rw [e] at hn h1 ⊢
  rw [← Int.natCast_mul] at h1 ⊢
  have hn' : n < 2 ^ (7 * k) := by omega
  have h1' : t * 2 ^ (7 * k) + n < 18446744073709551616 := by omega
  have ha : (BitVec.ofInt 64 (n : Int)).toNat = n := by
    rw [BitVec.ofInt_natCast, BitVec.toNat_ofNat]; exact Nat.mod_eq_of_lt (by omega)
  have hb : (BitVec.ofInt 64 ((t * 2 ^ (7 * k) : Nat) : Int)).toNat = t * 2 ^ (7 * k) := by
    rw [BitVec.ofInt_natCast, BitVec.toNat_ofNat]; exact Nat.mod_eq_of_lt (by omega)
  show IntKind.u64.wrap ((BitVec.ofInt 64 (n : Int) ||| BitVec.ofInt 64 ((t * 2 ^ (7 * k) : Nat) : Int)).toNat : Int) = _
  rw [BitVec.toNat_or, ha, hb, IntKind.wrap_u64]
  have h2 : n ||| t * 2 ^ (7 * k) = n + t * 2 ^ (7 * k) := by
    rw [Nat.or_comm, Nat.mul_comm, ← Nat.two_pow_add_eq_or_of_lt hn']; omega
  rw [h2]
  omega

/-- What m bytes from k on come to, seven bits a byte. -/
def val (zs : List Int) (k : Nat) : Nat → Int
  | 0 => 0
  | m + 1 => val zs k m + zs.getD (k + m) 0 % 128 * 128 ^ m
theorem pow1 (m : Nat) : (128 : Int) ^ (m + 1) = 128 ^ m * 128 := by rw [Int.pow_succ]
theorem pow0 (m : Nat) : (1 : Int) ≤ 128 ^ m := by
  induction m with
  | zero => exact Int.le_refl _
  | succ m ih => rw [pow1]; omega
theorem val_lt (zs : List Int) (k m : Nat) : 0 ≤ val zs k m ∧ val zs k m < 128 ^ m := by
  induction m with
  | zero => exact ⟨Int.le_refl _, by simp [val]⟩
  | succ m ih =>
    show 0 ≤ val zs k m + zs.getD (k + m) 0 % 128 * 128 ^ m ∧ val zs k m + zs.getD (k + m) 0 % 128 * 128 ^ m < _
    rw [pow1]
    have h0 : 0 ≤ zs.getD (k + m) 0 % 128 := by omega
    have h1 : zs.getD (k + m) 0 % 128 ≤ 127 := by omega
    have hp := pow0 m
    generalize zs.getD (k + m) 0 % 128 = t at *
    generalize (128 : Int) ^ m = p at *
    have h2 : 0 ≤ t * p := Int.mul_nonneg h0 (by omega)
    have h3 : t * p ≤ 127 * p := Int.mul_le_mul_of_nonneg_right h1 (by omega)
    omega

theorem or_step {v z : Int} (t : Nat) (v0 : 0 ≤ v) (v1 : v < 128 ^ t) (z0 : 0 ≤ z) (h : t ≤ 8 ∨ (t = 9 ∧ z ≤ 1)) : bits .or .u64 v (IntKind.u64.wrap (z % 128 * 2 ^ (t * 7))) = v + z % 128 * 128 ^ t := by
  have e : (2 : Int) ^ (t * 7) = 128 ^ t := by rw [Nat.mul_comm, Int.pow_mul]; rfl
  have hx0 : 0 ≤ z % 128 := by omega
  have hx1 : z % 128 ≤ 127 := by omega
  have hp0 := pow0 t
  have hb : z % 128 * 128 ^ t + v < 18446744073709551616 := by
    rcases h with h | ⟨rfl, h⟩
    · have hp1 : (128 : Int) ^ t ≤ 72057594037927936 := by
        have : ∀ m : Fin 9, (128 : Int) ^ m.1 ≤ 72057594037927936 := by decide
        exact this ⟨t, by omega⟩
      have h3 : z % 128 * 128 ^ t ≤ 127 * 128 ^ t := Int.mul_le_mul_of_nonneg_right hx1 (by omega)
      generalize z % 128 * 128 ^ t = y at *
      generalize (128 : Int) ^ t = p at *
      omega
    · have e9 : (128 : Int) ^ 9 = 9223372036854775808 := by decide
      rw [e9] at *
      omega
  have hy0 : 0 ≤ z % 128 * 128 ^ t := Int.mul_nonneg hx0 (by omega)
  rw [e, IntKind.wrap_u64, Int.emod_eq_of_lt hy0 (by omega)]
  exact or_add t v0 v1 hx0 hb

theorem or_step' {v z : Int} (t : Nat) (v0 : 0 ≤ v) (v1 : v < 128 ^ t) (z0 : 0 ≤ z) (h : t ≤ 8 ∨ (t = 9 ∧ z ≤ 1)) : bits .or .u64 v (IntKind.u64.wrap (z % 128 * 2 ^ (7 * t))) = v + z % 128 * 128 ^ t := by
  rw [Nat.mul_comm]; exact or_step t v0 v1 z0 h

/-- What stands at a place of bytes: a number and the place behind it, or why none (which error, where). -/
def Way (zs : List Int) (at_ n to e bad : Int) : Prop :=
  ((at_ < 0 ∨ (zs.length : Int) < at_) ∧ n = 0 ∧ to = 0 ∧ e = 3 ∧ bad = 0) ∨
  (∃ k : Nat, at_ = k ∧ k ≤ zs.length ∧ n = 0 ∧ to = 0 ∧ bad = k ∧
    ((e = 6 ∧ zs.length < k + 10 ∧ ∀ i, k + i < zs.length → 128 ≤ zs.getD (k + i) 0) ∨
     (e = 5 ∧ k + 10 ≤ zs.length ∧ ∀ i, i < 10 → 128 ≤ zs.getD (k + i) 0) ∨
     (e = 5 ∧ ∃ j : Nat, j < 10 ∧ 0 < j ∧ k + j < zs.length ∧ (∀ i, i < j → 128 ≤ zs.getD (k + i) 0) ∧ zs.getD (k + j) 0 < 128 ∧ (zs.getD (k + j) 0 = 0 ∨ (j = 9 ∧ 1 < zs.getD (k + j) 0))))) ∨
  (∃ k j : Nat, at_ = k ∧ j < 10 ∧ k + j < zs.length ∧ (∀ i, i < j → 128 ≤ zs.getD (k + i) 0) ∧ zs.getD (k + j) 0 < 128 ∧ (0 < j → 0 < zs.getD (k + j) 0) ∧ (j = 9 → zs.getD (k + j) 0 = 1) ∧
    n = val zs k (j + 1) ∧ to = (k : Int) + j + 1 ∧ e = 0 ∧ bad = 0)

/-- Bytes. -/
def Bytes (zs : List Int) : Prop := ∀ i, 0 ≤ zs.getD i 0 ∧ zs.getD i 0 ≤ 255
theorem bytes_of {zs : List Int} (h : ∀ z ∈ zs, 0 ≤ z ∧ z ≤ 255) : Bytes zs := by
  intro i
  rw [List.getD_eq_getElem?_getD]
  rcases Nat.lt_or_ge i zs.length with hi | hi
  · rw [List.getElem?_eq_getElem hi]; exact h _ (List.getElem_mem hi)
  · rw [List.getElem?_eq_none hi]; exact ⟨by decide, by decide⟩
theorem Bytes.mem {zs : List Int} (h : Bytes zs) : ∀ z ∈ zs, 0 ≤ z ∧ z ≤ 255 := by
  intro z hz
  obtain ⟨i, hi, rfl⟩ := List.getElem_of_mem hz
  have := h i
  rwa [List.getD_eq_getElem?_getD, List.getElem?_eq_getElem hi] at this

/-- The first byte below 128 among the first m from k on. -/
theorem first_low (zs : List Int) (k m : Nat) : (∀ i, i < m → 128 ≤ zs.getD (k + i) 0) ∨ ∃ j, j < m ∧ (∀ i, i < j → 128 ≤ zs.getD (k + i) 0) ∧ zs.getD (k + j) 0 < 128 := by
  induction m with
  | zero => exact .inl fun i h => absurd h (by omega)
  | succ m ih =>
    rcases ih with h | ⟨j, h1, h2, h3⟩
    · rcases Int.lt_or_le (zs.getD (k + m) 0) 128 with hm | hm
      · exact .inr ⟨m, by omega, h, hm⟩
      · refine .inl fun i hi => ?_
        rcases Nat.lt_or_ge i m with hl | hl
        · exact h i hl
        · obtain rfl : i = m := by omega
          exact hm
    · exact .inr ⟨j, by omega, h2, h3⟩

theorem way_of (zs : List Int) (hb : Bytes zs) (at_ : Int) : ∃ n to e bad, Way zs at_ n to e bad := by
  by_cases h : at_ < 0 ∨ (zs.length : Int) < at_
  · exact ⟨_, _, _, _, .inl ⟨h, rfl, rfl, rfl, rfl⟩⟩
  obtain ⟨k, rfl⟩ := Int.eq_ofNat_of_zero_le (a := at_) (by omega)
  have hk : k ≤ zs.length := by omega
  rcases first_low zs k (min 10 (zs.length - k)) with hl | ⟨j, hj, hl, hlt⟩
  · rcases Nat.lt_or_ge (zs.length - k) 10 with hs | hs
    · exact ⟨_, _, _, _, .inr (.inl ⟨k, rfl, hk, rfl, rfl, rfl, .inl ⟨rfl, by omega, fun i hi => hl i (by omega)⟩⟩)⟩
    · exact ⟨_, _, _, _, .inr (.inl ⟨k, rfl, hk, rfl, rfl, rfl, .inr (.inl ⟨rfl, by omega, fun i hi => hl i (by omega)⟩)⟩)⟩
  · by_cases hbad : 0 < j ∧ (zs.getD (k + j) 0 = 0 ∨ (j = 9 ∧ 1 < zs.getD (k + j) 0))
    · exact ⟨_, _, _, _, .inr (.inl ⟨k, rfl, hk, rfl, rfl, rfl, .inr (.inr ⟨rfl, j, by omega, hbad.1, by omega, hl, hlt, hbad.2⟩)⟩)⟩
    · have h0 := hb (k + j)
      exact ⟨_, _, _, _, .inr (.inr ⟨k, j, rfl, by omega, by omega, hl, hlt, by omega, by omega, rfl, rfl, rfl, rfl⟩)⟩
end Cd
end Go.Proofs.YtkblbcdinibncaaDoor
end

section
/-
  What codec.encoding answers in this program: an iterator over the bytes of a word, for every loop body that keeps what lay below.
  Conditions: the word is from 0 to 2^64 - 1.
-/
namespace Go.Proofs.YtkblbcdinibncaaDoor
open Go.RowKit Go.Shelf
set_option linter.unusedVariables false
attribute [local go_sem] Oper.semAt_some
namespace Cd

set_option maxRecDepth 100000 in
set_option maxHeartbeats 1000000 in
theorem yields (F : Fence) (n : Nat) (h6 : F.fn 63) (hro : F.round = none) (hn : 1 ≤ n) (l Bn n₀ : Nat) (x : Int) (x0 : 0 ≤ x) (x1 : x ≤ 18446744073709551615) (J Jx : List Int → World → Prop)
    (hY : ∀ pre z W, J pre W → pre.length < (enc x).length → YieldAt F (n - 1) Tryd.prog l #[.int .u8 z] W fun e W' =>
      (e = .returned (.bool true) ∧ J (pre ++ [z]) W' ∧ Below n₀ W W') ∨ (e = .returned (.bool false) ∧ Jx (pre ++ [z]) W'))
    (W : World) (hBn : W.cell? ⟨Bn, 0, none⟩ = some (.int .u64 x)) (h0 : J [] W) :
    CallsIn F n Tryd.prog 63 #[.func (.yield l) #[] #[], .pointer (some ⟨Bn, 0, none⟩)] W fun e W' => (∃ v, e = .returned v) ∧
      ((∃ ys, ys = enc x ∧ J ys W') ∨ (∃ pre, pre <+: enc x ∧ Jx pre W')) := by
  refine callsIn_of_wp Tryd.func63 rfl h6 ?_ hro
  simp only [Tryd.ntmps63, List.size_toArray, List.length_cons, List.length_nil, Nat.reduceAdd, Nat.reduceSub, Array.replicate_succ, Array.replicate_zero, List.push_toArray, List.append_toArray, List.nil_append, List.cons_append]
  gi_wp2
  gi_loopw [3] (fun r wr => ∃ (pre : List Int) (f : Nat) (M : Int), r = .int .u64 M ∧ 0 ≤ M ∧ M < top f ∧ f ≤ 9 ∧ enc x = pre ++ encN f M ∧ J pre wr)
    (fun r wr => (intOf r).toNat)
  case atStart =>
    exact ⟨[], 9, x, rfl, x0, by rw [top9]; omega, Nat.le_refl _, rfl, h0⟩
  case round =>
    obtain ⟨pre, f, M, rfl, m0, m1, hf, hx, hJs⟩ := hrel
    have hm : M ≤ 18446744073709551615 := by
      have h := top_mono hf
      rw [top9] at h
      omega
    rcases Int.lt_or_le M 128 with hlt | hge
    · rw [encN_small _ hlt] at hx
      obtain ⟨fn, tmps, assign, body, hy, hR⟩ := hY pre M wr hJs (by rw [hx]; simp)
      have E : M % 256 = M := by omega
      have HX := Lib.hid hx
      clear hx
      gi_wp2_with fail
      refine hR.mono ?_
      rintro e W3 (⟨rfl, hJ3, hk3⟩ | ⟨rfl, hJx3⟩)
      · gi_wp2
        go_end0
        exact ⟨⟨_, rfl⟩, .inl ⟨_, HX.out.symm, hJ3⟩⟩
      · gi_wp2
        go_end0
        exact ⟨⟨_, rfl⟩, .inr ⟨pre ++ [M], by rw [HX.out]; exact List.prefix_refl _, hJx3⟩⟩
    · obtain ⟨f, rfl⟩ : ∃ g, f = g + 1 := by
        cases f with
        | zero => have : top 0 = 2 := rfl; omega
        | succ g => exact ⟨g, rfl⟩
      have ht : top (f + 1) = 128 * top f := rfl
      rw [encN_great _ hge] at hx
      obtain ⟨fn, tmps, assign, body, hy, hR⟩ := hY pre (M % 128 + 128) wr hJs (by rw [hx]; simp)
      have E : bits .or .u8 (M % 256) 128 = M % 128 + 128 := by rw [or128 (by omega) (by omega)]; omega
      have h1 : M / 128 < top f := by omega
      have HX := Lib.hid hx
      have HT := Lib.hid h1
      clear hx ht m1 h1
      gi_wp2_with fail
      refine hR.mono ?_
      rintro e W3 (⟨rfl, hJ3, hk3⟩ | ⟨rfl, hJx3⟩)
      · gi_wp2
        go_roundw
        case rel => exact ⟨pre ++ [M % 128 + 128], f, M / 128, rfl, by omega, HT.out, by omega, by rw [HX.out]; simp, hJ3⟩
        case measure => simp [intOf]; omega
      · gi_wp2
        refine bodyPost_ret (results_none rfl _ _ _) rfl ?_
        exact ⟨⟨_, rfl⟩, .inr ⟨pre ++ [M % 128 + 128], by rw [HX.out]; exact ⟨encN f (M / 128), by simp⟩, hJx3⟩⟩

set_option maxHeartbeats 1000000 in
theorem maker (F : Fence) (n : Nat) (h5 : F.fn 43) (hro : F.round = none) (x : Int) (w : World) :
    CallsIn F n Tryd.prog 43 #[.int .u64 x] w fun e w' => e = .returned (.func (.func 63) #[] #[.pointer (some ⟨w.heap.size, 0, none⟩)]) ∧ w' = w.alloc (.cells #[.int .u64 x] 23) := by
  refine callsIn_of_wp Tryd.func43 rfl h5 ?_ hro
  simp only [Tryd.ntmps43, List.size_toArray, List.length_cons, List.length_nil, Nat.reduceAdd, Nat.reduceSub, Array.replicate_succ, Array.replicate_zero, List.push_toArray, List.append_toArray, List.nil_append, List.cons_append]
  gi_wp2
  go_ret
  exact ⟨rfl, rfl⟩

theorem stops (F : Fence) (n : Nat) (h6 : F.fn 63) (hro : F.round = none) (hn : 1 ≤ n) (Bn n₀ : Nat) (x : Int) (x0 : 0 ≤ x) (x1 : x ≤ 18446744073709551615) (w : World) (hBn : Bn < w.heap.size)
    (hc : w.cell? ⟨Bn, 0, none⟩ = some (.int .u64 x)) :
    SeqStopsK F n Tryd.prog 63 #[.pointer (some ⟨Bn, 0, none⟩)] (fun z : Int => #[Value.int .u8 z]) (Below n₀) (fun ys => ys = enc x) (fun pre => pre <+: enc x) (enc x).length w := fun l J Jx W hW _ _ hY h0 =>
  yields F n h6 hro hn l Bn n₀ x x0 x1 J Jx hY W ((hW.cell (p := ⟨Bn, 0, none⟩) hBn).trans hc) h0
end Cd
end Go.Proofs.YtkblbcdinibncaaDoor
end

section
/-
  What codec.Put and codec.Size answer in this program: the bytes of a word, and how many they are.
  Conditions: the word is from 0 to 2^64 - 1.
-/
namespace Go.Proofs.YtkblbcdinibncaaDoor
open Go.RowKit Go.Shelf
set_option linter.unusedVariables false
attribute [local go_sem] Oper.semAt_some
theorem Tryd.info_u8 : (Tryd.prog.info? 5).map (fun i => (i.zero, i.size, i.bytes)) = some (some (.int .u8 0), 1, 1) := by kernel_rfl
namespace Cd

set_option maxRecDepth 100000 in
set_option maxHeartbeats 2000000 in
theorem put_in (F : Fence) (n : Nat) (h3 : F.fn 31) (h4 : F.fn 43) (h5 : F.fn 63) (hro : F.round = none) (hn : 3 ≤ n) (x : Int) (x0 : 0 ≤ x) (x1 : x ≤ 18446744073709551615) (w : World) :
    CallsIn F n Tryd.prog 31 #[.int .u64 x] w fun e W' => ∃ v, e = .returned v ∧ W'.ownsRow w.heap.size 5 1 v (enc x).length ((enc x).map (Value.int .u8)) ∧ Below w.heap.size w W' := by
  have h1 : 1 ≤ n := by omega
  have hl := (enc_len x).2
  obtain ⟨i0, hi, hz0, hz1, hz2⟩ := info_parts Tryd.info_u8
  refine callsIn_of_wp_marks Tryd.func31 rfl h3 ?_ hro
  simp only [Tryd.ntmps31, List.size_toArray, List.length_cons, List.length_nil, Nat.reduceAdd, Nat.reduceSub, Array.replicate_succ, Array.replicate_zero, List.push_toArray, List.append_toArray, List.nil_append, List.cons_append]
  gi_wp2_with (first | (gi_at_call 43; refine (maker F (n - 1) h4 hro _ _).mono ?_; rintro e w' ⟨rfl, rfl⟩) | (gi_at_make; refine wpListIn_make_own _ rfl _ _ 41 rfl w.heap.size 5 i0 (.int .u8 0) 1 Tryd.underlying41 hi hz0 hz1 .i64 .i64 10 10 rfl rfl rfl (by rw [hz2]; omega) (by unfold maxLen; omega) (Nat.le_refl _) ?_; intro w1 hown1 hgrow1))
  have hlt1 : w.heap.size < w1.heap.size := (hown1.lt _ rfl).2
  have bO := Boxed.new w1 41 (.slice (some ⟨w.heap.size, 0, none⟩) 0 10)
  have bN := Boxed.new (w1.alloc (.cells #[.slice (some ⟨w.heap.size, 0, none⟩) 0 10] 41)) 23 (.int .u64 x)
  rw [World.size_alloc] at bN
  have hB1 : Below w.heap.size w w1 := (Below.refl _ w).grown hgrow1 (Nat.le_refl _) (by intro k hk; cases hk)
  have hB0 : Below w.heap.size w ((w1.alloc (.cells #[.slice (some ⟨w.heap.size, 0, none⟩) 0 10] 41)).alloc (.cells #[.int .u64 x] 23)) := (hB1.alloc (by omega) _).alloc (by simp; omega) _
  refine wpIn_rangeFunc_ownG hro h1 (gf := 63) (lb := #[.pointer (some ⟨w1.heap.size + 1, 0, none⟩)]) rfl h5 (enters_of Tryd.func63 (by kernel_rfl) rfl)
    (stops F (n - 1) h5 hro (by omega) (w1.heap.size + 1) w.heap.size x x0 x1 _ (by simp) bN.cell) belowK_t (belowK_b (by simp; omega)) (Below.refl _ _) (fun _ => rfl)
    (fun pre W => (∃ v, Boxed W w1.heap.size 41 v ∧ W.ownsRow w.heap.size 5 1 v pre.length (pre.map (Value.int .u8)) ∧ True) ∧ Below w.heap.size w W)
    (fun _ _ _ => False)
    (OwnFrom.and (Own.from (holdsRow_own w.heap.size w1.heap.size 41 5 1 (fun pre : List Int => pre.length) (fun pre : List Int => pre.map (Value.int .u8)) (fun _ _ => True)) _) (ownFrom_below (Nat.le_refl _) (by simp; omega)))
    (fun _ _ _ _ _ hs _ _ => hs)
    ⟨⟨_, bO.alloc _, (hown1.alloc _).alloc _, trivial⟩, hB0⟩
    (fun z => { tmps := #[.int .u64 x, undef, .slice none 0 0, .pointer (some ⟨w1.heap.size, 0, none⟩), .int .u8 z, .slice (some ⟨w.heap.size, 0, none⟩) 0 10, .int .u64 x, .func (.func 63) #[] #[.pointer (some ⟨w1.heap.size + 1, 0, none⟩)], .int .u8 z, undef, undef, undef, undef, undef], defers := [] }) ?assign ?body ?done ?stop
  case assign =>
    intro l x W K hK
    gi_wp2
    exact hK
  case body =>
    rintro l pre z W ⟨⟨v, hv, hrow, _⟩, hB⟩ hlt
    have hc := hv.cell
    gi_wp2_with (gi_at_builtin; refine wpListIn_append_own _ rfl _ _ 41 rfl w.heap.size 5 i0 (.int .u8 0) 1 1 Tryd.underlying41 hi hz0 hz1 hz2 rfl (by decide) _ _ _ rfl (hrow.alloc _) ⟨W.heap.size, 0, none⟩ 1 1 [.int .u8 z] rfl rfl (cell_one_new _ _ _) (by simp [Value.oneCell']) (by unfold maxLen; omega) (by omega) (by have := hB.size; simp; omega) ?_; intro v' w2 hown' hgrow _; obtain ⟨g', cap', rfl⟩ := ownsRow_succ hown'; obtain ⟨hv1, hv2, hr2, hk2, hb2⟩ := hv.appended (by decide) hrow hB.size (by omega) hown' hgrow; have hc1 := hv1.cell; have hf1 := hv1.frozen)
    exact ⟨hk2.from _, hb2, ⟨_, hv2, by simpa using hr2, trivial⟩, hB.trans hb2⟩
  case done =>
    rintro D ys W hD rfl ⟨⟨v, hv, hrow, _⟩, hB⟩ hK
    have hc := hv.cell
    gi_wp2
    refine ⟨by simp, .inl ⟨_, _, rfl, run_takeDeferred hK, ?_⟩⟩
    exact ⟨_, results_tmp rfl _ _ _, v, rfl, ownsRow_putObj hrow _ hK rfl, hB.trans (belowK_b (w := w) (Nat.le_refl _) W D _ _ (by simp at hD; omega) hK rfl rfl)⟩
  case stop =>
    rintro D c pre W _ _ h _
    exact h.elim

theorem put (x : Int) (w : World) (x0 : 0 ≤ x) (x1 : x ≤ 18446744073709551615) :
    Calls Tryd.prog 31 #[.int .u64 x] w fun e W' => ∃ v, e = .returned v ∧ W'.ownsRow w.heap.size 5 1 v (enc x).length ((enc x).map (Value.int .u8)) ∧ Below w.heap.size w W' :=
  callsIn_wide.1 (put_in Fence.wide 3 trivial trivial trivial rfl (Nat.le_refl _) x x0 x1 w)

end Cd
end Go.Proofs.YtkblbcdinibncaaDoor
end

section
/-
  What a walk says of memory: what was there is as it was; a slice reads as numbers; a part of a slice. No condition.
-/
namespace Go.Proofs.YtkblbcdinibncaaDoor
open Go.RowKit Go.Shelf
set_option linter.unusedVariables false

/-- What was there is as it was. -/
def Bel (a w : World) : Prop := Below a.heap.size a w
theorem Bel.refl (a : World) : Bel a a := Below.refl _ _
theorem Bel.alloc {a w : World} (h : Bel a w) (o : Obj) : Bel a (w.alloc o) := Below.alloc h (Below.size h) o
theorem Bel.drew {a w : World} (h : Bel a w) : Bel a w.drew := Below.drew h
theorem Bel.drewN {a w : World} (h : Bel a w) (n : Nat) : Bel a (w.drewN n) := ⟨h.os, h.tape, h.output, h.size, h.block⟩
theorem Bel.trans {a b c : World} (h : Bel a b) (k : Bel b c) : Bel a c := Below.trans h (Below.mono k (Below.size h))
theorem Bel.set {a w : World} (h : Bel a w) {p : Addr} (hp : a.heap.size ≤ p.block) (u : Value) : Bel a (w.setCell p u) := Below.setCell h hp u
theorem Bel.facts {W w1 : World} (hb : Bel W w1) : (∀ b o, b < W.heap.size → w1.cell? ⟨b, o, none⟩ = W.cell? ⟨b, o, none⟩) ∧ (∀ b o, b < W.heap.size → w1.frozen? ⟨b, o, none⟩ = W.frozen? ⟨b, o, none⟩) :=
  ⟨fun b o h => Below.cell (p := ⟨b, o, none⟩) hb h, fun b o h => Below.frozen (p := ⟨b, o, none⟩) hb h⟩
theorem Bel.grown {a w w' : World} {row : Option Nat} (h : Bel a w) (hg : w.grownBy w' row) (hr : ∀ k, row = some k → a.heap.size ≤ k) : Bel a w' := Below.grown h hg (Below.size h) hr

/-- A slice that reads as the numbers zs (its elements). -/
def Ints (k : IntKind) (w : World) (A : Option Addr) (n : Nat) (zs : List Int) : Prop :=
  zs.length = n ∧ (0 < n → ∃ b o, A = some ⟨b, o, none⟩ ∧ b < w.heap.size ∧ ∀ i, i < n → w.cell? ⟨b, o + i, none⟩ = some (.int k (zs.getD i 0)))
theorem Ints.bel {k : IntKind} {w w' : World} {A : Option Addr} {n : Nat} {zs : List Int} (h : Ints k w A n zs) (hb : Bel w w') : Ints k w' A n zs :=
  ⟨h.1, fun hn => by
    obtain ⟨b, o, e, hlt, hc⟩ := h.2 hn
    exact ⟨b, o, e, Nat.lt_of_lt_of_le hlt (Below.size hb), fun i hi => (Below.cell (p := ⟨b, o + i, none⟩) hb hlt).trans (hc i hi)⟩⟩
theorem Ints.nil_ {k : IntKind} {w : World} {A : Option Addr} : Ints k w A 0 [] := ⟨rfl, fun h => absurd h (by omega)⟩
theorem Ints.cell {k : IntKind} {w : World} {A : Option Addr} {n : Nat} {zs : List Int} (h : Ints k w A n zs) {i : Nat} (hi : i < n) : ∃ b o, A = some ⟨b, o, none⟩ ∧ b < w.heap.size ∧ w.cell? ⟨b, o + i, none⟩ = some (.int k (zs.getD i 0)) := by
  obtain ⟨b, o, e, hlt, hc⟩ := h.2 (by omega)
  exact ⟨b, o, e, hlt, hc i hi⟩

theorem getD_eq (zs : List Int) (i : Nat) (h : i < zs.length) : zs.getD i 0 = zs[i] := by
  rw [List.getD_eq_getElem?_getD, List.getElem?_eq_getElem h]; rfl
theorem getD_part (zs : List Int) (k m i : Nat) (h : i < m) : ((zs.drop k).take m).getD i 0 = zs.getD (k + i) 0 := by
  simp [List.getD_eq_getElem?_getD, h]

/-- A part of a slice. -/
theorem Ints.part {kd : IntKind} {w : World} {A : Option Addr} {n c : Nat} {zs : List Int} (h : Ints kd w A n zs) {k m : Nat} (hk : k + m ≤ n) (hc : n ≤ c) : Ints kd w (if c = k then A else A.map (·.add (k * 1))) m ((zs.drop k).take m) := by
  refine ⟨by have := h.1; simp; omega, fun hm => ?_⟩
  obtain ⟨b, o, rfl, hlt, hcell⟩ := h.2 (by omega)
  rw [if_neg (by omega)]
  refine ⟨b, o + k, ?_, hlt, fun i hi => ?_⟩
  · rw [Nat.mul_one]
    simp only [Option.map_some, Addr.add]
    by_cases h0 : k = 0
    · simp [h0]
    · simp [h0]
  · rw [getD_part _ _ _ _ hi, Nat.add_assoc]
    exact hcell (k + i) (by omega)

/-- A row of the call's own reads as numbers. -/
theorem ints_of_own {kd : IntKind} {w : World} {base : Nat} {e : TypeId} {v : Value} {n : Nat} {zs : List Int} (h : w.ownsRow base e 1 v n (zs.map (Value.int kd))) :
    ∃ A c, v = .slice A n c ∧ Ints kd w A n zs ∧ n ≤ c ∧ c ≤ maxLen := by
  have hl : zs.length = n := by simpa using h.1
  rcases h.2 with ⟨rfl, rfl⟩ | ⟨g, cap, cur, rfl, hb, hg, hnc, hm, r⟩
  · have : zs = [] := List.length_eq_zero_iff.1 hl
    subst this
    exact ⟨none, 0, rfl, Ints.nil_, Nat.le_refl _, Nat.zero_le _⟩
  · refine ⟨_, _, rfl, ⟨hl, fun hn => ⟨g, 0, rfl, ?_, fun i hi => ?_⟩⟩, hnc, hm⟩
    · exact (Array.getElem?_eq_some_iff.1 hg).1
    · have := h.cellAt i (by omega)
      rw [Nat.zero_add, this, List.getElem?_map, List.getElem?_eq_getElem (by omega), List.getD_eq_getElem?_getD, List.getElem?_eq_getElem (by omega)]
      rfl

theorem elem_u8 : Tryd.prog.elem 41 = 5 := by kernel_rfl
theorem slice_lh (A : Option Addr) (n c : Nat) (l h : Int) (w : World) (h0 : 0 ≤ l) (h1 : l ≤ h) (h2 : h ≤ c) :
    (Instr.slice 41 (.slice A n c) (some (.int .i64 l)) (some (.int .i64 h)) none).run Tryd.prog w = .ok (.slice (if c = l.toNat then A else A.map (·.add (l.toNat * 1))) (h.toNat - l.toNat) (c - l.toNat)) w := by
  rw [run_slice_lh (P := Tryd.prog) (w := w) (t := 41) (a := A) (len := n) (cap := c) (by rw [elem_u8]; exact Tryd.underlying41) .i64 .i64 l h h0 h1 h2]
  rw [elem_u8]
  simp [Tryd.sizeOf5, Result.andThen, sliced]
theorem slice_h (A : Option Addr) (n c : Nat) (h : Int) (w : World) (h0 : 0 ≤ h) (h2 : h ≤ c) :
    (Instr.slice 41 (.slice A n c) none (some (.int .i64 h)) none).run Tryd.prog w = .ok (.slice (if c = 0 then A else A.map (·.add (0 * 1))) (h.toNat - 0) (c - 0)) w := by
  rw [run_slice_h (P := Tryd.prog) (w := w) (t := 41) (a := A) (len := n) (cap := c) (by rw [elem_u8]; exact Tryd.underlying41) .i64 h h0 h2]
  rw [elem_u8]
  simp [Tryd.sizeOf5, Result.andThen, sliced]
end Go.Proofs.YtkblbcdinibncaaDoor
end
