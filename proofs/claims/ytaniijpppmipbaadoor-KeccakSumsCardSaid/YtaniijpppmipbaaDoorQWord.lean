/-
  What the reference's word and bytes answer. Condition: eight bytes that may be read.
-/
import Derived.Test.YtaniijpppmipbaaDoorQBase
namespace Go.Proofs.YtaniijpppmipbaaDoor
open Go.RowKit Go.Shelf
set_option linter.unusedVariables false
namespace Kk

/-- The word of the last n of eight bytes. -/
def wTop (bs : List Int) : Nat → Int
  | 0 => 0
  | n + 1 => 256 * wTop bs n + bs.getD (7 - n) 0
theorem wTop_bd (bs : List Int) (hb : ∀ i, i < 8 → 0 ≤ bs.getD i 0 ∧ bs.getD i 0 ≤ 255) : ∀ n, n ≤ 8 → 0 ≤ wTop bs n ∧ wTop bs n < 256 ^ n
  | 0, _ => by show (0 : Int) ≤ 0 ∧ (0 : Int) < 256 ^ 0; decide
  | n + 1, h => by
    have ih := wTop_bd bs hb n (by omega)
    have hz := hb (7 - n) (by omega)
    have e : (256 : Int) ^ (n + 1) = 256 * 256 ^ n := by rw [Int.pow_succ, Int.mul_comm]
    rw [e]
    show 0 ≤ 256 * wTop bs n + bs.getD (7 - n) 0 ∧ 256 * wTop bs n + bs.getD (7 - n) 0 < _
    omega
theorem pow256_le {n : Nat} (h : n ≤ 8) : (256 : Int) ^ n ≤ 18446744073709551616 := by
  match n, h with
  | 0, _ => decide
  | 1, _ => decide
  | 2, _ => decide
  | 3, _ => decide
  | 4, _ => decide
  | 5, _ => decide
  | 6, _ => decide
  | 7, _ => decide
  | 8, _ => decide
theorem or_add8 {a z : Int} {k : Nat} (ha0 : 0 ≤ a) (ha : a < 2 ^ k) (hz0 : 0 ≤ z) (hz : z ≤ 255) (hk : k ≤ 56) : BitVec.ofInt 64 a ||| BitVec.ofInt 64 z <<< k = BitVec.ofInt 64 (a + z * 2 ^ k) := by
  obtain ⟨m, rfl⟩ := Int.eq_ofNat_of_zero_le ha0
  obtain ⟨n, rfl⟩ := Int.eq_ofNat_of_zero_le hz0
  have hm : m < 2 ^ k := by exact_mod_cast ha
  have hn : n ≤ 255 := by omega
  have hp : (2 : Nat) ^ k ≤ 2 ^ 56 := Nat.pow_le_pow_right (by omega) hk
  have hnp : n * 2 ^ k ≤ 255 * 2 ^ 56 := Nat.mul_le_mul hn hp
  have e : ((m : Int) + (n : Int) * 2 ^ k) = ((m + n * 2 ^ k : Nat) : Int) := by push_cast; rfl
  rw [e]
  apply BitVec.eq_of_toNat_eq
  rw [BitVec.toNat_or, BitVec.toNat_shiftLeft, BitVec.ofInt_natCast, BitVec.ofInt_natCast, BitVec.ofInt_natCast, BitVec.toNat_ofNat, BitVec.toNat_ofNat, BitVec.toNat_ofNat, Nat.shiftLeft_eq,
    Nat.mod_eq_of_lt (a := n) (by omega), Nat.mod_eq_of_lt (a := n * 2 ^ k) (by omega), Nat.mod_eq_of_lt (a := m) (by omega), Nat.mod_eq_of_lt (a := m + n * 2 ^ k) (by omega), Nat.or_comm, Nat.mul_comm n, ← Nat.two_pow_add_eq_or_of_lt hm, Nat.add_comm]

/-- The words of the first n bytes, by numbers. -/
def wLow (bs : List Int) : Nat → Int
  | 0 => 0
  | n + 1 => wLow bs n + bs.getD n 0 * 2 ^ (n * 8)
theorem wLow_bd (bs : List Int) (hb : ∀ i, i < 8 → 0 ≤ bs.getD i 0 ∧ bs.getD i 0 ≤ 255) : ∀ n, n ≤ 8 → 0 ≤ wLow bs n ∧ wLow bs n < 2 ^ (n * 8)
  | 0, _ => by show (0 : Int) ≤ 0 ∧ (0 : Int) < 2 ^ (0 * 8); decide
  | n + 1, h => by
    have ih := wLow_bd bs hb n (by omega)
    have hz := hb n (by omega)
    have e : (2 : Int) ^ ((n + 1) * 8) = 256 * 2 ^ (n * 8) := by
      rw [show (n + 1) * 8 = n * 8 + 8 by omega, Int.pow_add, Int.mul_comm]; rfl
    rw [e]
    show 0 ≤ wLow bs n + bs.getD n 0 * 2 ^ (n * 8) ∧ wLow bs n + bs.getD n 0 * 2 ^ (n * 8) < _
    generalize bs.getD n 0 = z at *
    obtain ⟨p, hp⟩ : ∃ p : Int, 2 ^ (n * 8) = p := ⟨_, rfl⟩
    rw [hp] at ih ⊢
    have h1 : 0 ≤ z * p := Int.mul_nonneg hz.1 (by omega)
    have h2 : z * p ≤ 255 * p := Int.mul_le_mul_of_nonneg_right hz.2 (by omega)
    omega
theorem wN_low (bs : List Int) (hb : ∀ i, i < 8 → 0 ≤ bs.getD i 0 ∧ bs.getD i 0 ≤ 255) : ∀ n, n ≤ 8 → wN bs n = BitVec.ofInt 64 (wLow bs n)
  | 0, _ => rfl
  | n + 1, h => by
    have ih := wLow_bd bs hb n (by omega)
    have hz := hb n (by omega)
    rw [wN_succ, wN_low bs hb n (by omega), or_add8 ih.1 ih.2 hz.1 hz.2 (by omega)]
    rfl
theorem top_low (bs : List Int) : wTop bs 8 = wLow bs 8 := by
  simp [wTop, wLow]
  omega
theorem top_word (bs : List Int) (hb : ∀ i, i < 8 → 0 ≤ bs.getD i 0 ∧ bs.getD i 0 ≤ 255) : wTop bs 8 = U (wordOf bs) := by
  have h := wLow_bd bs hb 8 (by omega)
  unfold wordOf
  rw [wN_low bs hb 8 (by omega), top_low, U_ofInt h.1 (by have := h.2; have e : (2 : Int) ^ (8 * 8) = 18446744073709551616 := by decide
                                                          rw [e] at this; omega)]

set_option maxRecDepth 100000 in
set_option maxHeartbeats 1000000 in
theorem refWord (b o n c : Nat) (bs : List Int) (w : World) (hn : 8 ≤ n) (hc : n ≤ c) (hz : ∀ i, i < 8 → w.cell? ⟨b, o + i, none⟩ = some (.int .u8 (bs.getD i 0))) (hb : ∀ i, i < 8 → 0 ≤ bs.getD i 0 ∧ bs.getD i 0 ≤ 255) :
    Calls Tryd.prog 36 #[.slice (some ⟨b, o, none⟩) n c] w fun e w' => e = .returned (.int .u64 (U (wordOf bs))) ∧ w' = w := by
  have HZ := Lib.hid hz
  have HB := Lib.hid hb
  clear hz hb
  go_enter Tryd.func36, Tryd.ntmps36
  go_wp2
  go_loop [3, 4] (fun r i => ∃ k : Nat, r = .int .u64 (wTop bs k) ∧ i = .int .i64 (7 - (k : Int)) ∧ k ≤ 8) (fun _ i => (intOf i + 1).toNat)
  case atStart => exact ⟨0, rfl, rfl, by omega⟩
  case round =>
    obtain ⟨k, rfl, rfl, hk⟩ := hrel
    by_cases hlt : k < 8
    · have c0 := HZ.out (7 - k) (by omega)
      obtain ⟨b0, b1⟩ := HB.out (7 - k) (by omega)
      obtain ⟨t0, t1⟩ := wTop_bd bs HB.out k hk
      have t2 := pow256_le (n := k + 1) (by omega)
      have WS := Lib.hid (show wTop bs (k + 1) = 256 * wTop bs k + bs.getD (7 - k) 0 from rfl)
      have e : (256 : Int) ^ (k + 1) = 256 * 256 ^ k := by rw [Int.pow_succ, Int.mul_comm]
      rw [e] at t2
      generalize bs.getD (7 - k) 0 = z at *
      generalize wTop bs k = t at *
      have w1 : IntKind.u64.wrap (256 * t) = 256 * t := IntWalk.u64_in _ ⟨by omega, by omega⟩
      have w2 : IntKind.u64.wrap (256 * t + z) = 256 * t + z := IntWalk.u64_in _ ⟨by omega, by omega⟩
      have w3 : IntKind.u64.wrap z = z := IntWalk.u64_in _ ⟨by omega, by omega⟩
      have w4 : IntKind.i64.wrap (7 - (k : Int) - 1) = 7 - (k : Int) - 1 := IntWalk.i64_in _ (by omega)
      have i0 : (0 : Int) ≤ 7 - (k : Int) := by omega
      have i8 : (7 : Int) - (k : Int) < n := by omega
      have it : ((7 : Int) - (k : Int)).toNat = 7 - k := by omega
      clear e t1 t2
      go_wp2
      go_round
      case rel => exact ⟨k + 1, by rw [WS.out], by congr 1; omega, by omega⟩
      case measure => simp [intOf] <;> omega
    · obtain rfl : k = 8 := by omega
      have TW := Lib.hid (top_word bs HB.out)
      go_wp2
      go_ret
      exact ⟨by rw [← TW.out]; rfl, rfl⟩

theorem pre_succ (x : Wd) (k : Nat) : (List.range (k + 1)).map (splitB x) = (List.range k).map (splitB x) ++ [splitB x k] := by rw [List.range_succ, List.map_append]; rfl

set_option maxRecDepth 100000 in
set_option maxHeartbeats 1000000 in
theorem refBytes (x : Wd) (w : World) :
    Calls Tryd.prog 37 #[.int .u64 (U x)] w fun e w' => ∃ v, e = .returned v ∧ Fresh w w' v (bytesOf x) := by
  go_enter Tryd.func37, Tryd.ntmps37
  go_wp2_with fail
  go_loopw [0, 3, 4] (fun n v i wr => ∃ k : Nat, i = .int .i64 k ∧ k ≤ 8 ∧ n = .int .u64 (U x / 2 ^ (k * 8)) ∧ wr.ownsRow w.heap.size 5 1 v k (((List.range k).map (splitB x)).map (Value.int .u8)) ∧ Bel w wr) (fun _ _ i _ => 8 - (intOf i).toNat)
  case atStart => exact ⟨0, rfl, by omega, by simp, World.ownsRow_nil _ _ _ _, Bel.refl _⟩
  case round =>
    obtain ⟨k, rfl, hk, rfl, hown, hb⟩ := hrel
    have HV := Lib.hid hown
    have HB := Lib.hid hb
    clear hown hb
    by_cases hlt : k < 8
    · have hlt' : (k : Int) < 8 := by omega
      have M0 : 0 ≤ U x / 2 ^ (k * 8) := Int.ediv_nonneg (U0 x) (Int.pow_nonneg (by decide))
      have M1 : U x / 2 ^ (k * 8) ≤ 18446744073709551615 := Int.le_trans (Int.ediv_le_self _ (U0 x)) (U1 x)
      have MN := Lib.hid (show U x / 2 ^ (k * 8) / 256 = U x / 2 ^ ((k + 1) * 8) by
        rw [Int.ediv_ediv_of_nonneg (Int.pow_nonneg (by decide)), show (k + 1) * 8 = k * 8 + 8 by omega, Int.pow_add]; rfl)
      have MS := Lib.hid (show splitB x k = U x / 2 ^ (k * 8) % 256 from rfl)
      obtain ⟨M, hM⟩ : ∃ M, U x / 2 ^ (k * 8) = M := ⟨_, rfl⟩
      rw [hM] at M0 M1 MN MS ⊢
      clear hM
      have wM : IntKind.u8.wrap (M % 256) = M % 256 := by rw [IntKind.wrap_u8]; omega
      have SL := Lib.hid (sl_lit wr [M % 256])
      have HS := Lib.hid (Below.size HB.out)
      go_wp2_with (at_builtin; refine wpList_append_sl rfl _ _ rfl w.heap.size _ k _ rfl (owns_bel HV.out ((Bel.refl wr).alloc _)) (some ⟨wr.heap.size, 0, none⟩) 1 1 [M % 256] rfl SL.out (by omega) (by have := HS.out; simp; omega) ?_; intro v' w1 hown' hgrow)
      have HO := Lib.hid hown'
      have HB1 := Lib.hid (show Bel w w1 from Bel.grown (HB.out.alloc _) hgrow (fun j hj => (HV.out.lt j hj).1))
      clear hown' hgrow
      go_wp2
      go_roundw
      case rel =>
        refine ⟨k + 1, by go_num, by omega, by rw [MN.out], ?_, HB1.out⟩
        have h := HO.out
        rw [pre_succ, MS.out, List.map_append]
        exact h
      case measure => simp [intOf] <;> omega
    · obtain rfl : k = 8 := by omega
      go_wp2
      go_ret
      refine ⟨_, rfl, ?_, HB.out⟩
      have h := HV.out
      exact h
end Kk
end Go.Proofs.YtaniijpppmipbaaDoor
