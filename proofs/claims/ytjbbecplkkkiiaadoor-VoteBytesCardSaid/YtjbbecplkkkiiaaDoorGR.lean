/-
  Texts of this claim, put together: QWord, QSum0, QSum. What each one says, and under which conditions, stands ahead of it.
-/
import Derived.Test.YtjbbecplkkkiiaaDoorGQ
import Derived.Test.YtjbbecplkkkiiaaDoorGC

section
/-
  What the reference's word and bytes answer. Condition: eight bytes that may be read.
-/
namespace Go.Proofs.YtjbbecplkkkiiaaDoor
open Go.RowKit Go.Shelf
set_option linter.unusedVariables false
namespace Kk

/-- The word of the last n of eight bytes. -/
def wTop (bs : List Int) : Nat → Int
  | 0 => 0
  | n + 1 => 256 * wTop bs n + bs.getD (7 - n) 0
theorem wTop_bd (bs : List Int) (hb : ∀ i, i < 8 → 0 ≤ bs.getD i 0 ∧ bs.getD i 0 ≤ 255) : ∀ n, n ≤ 8 → 0 ≤ wTop bs n ∧ wTop bs n < 256 ^ n
  | 0, _ => by show (0 : Int) ≤ 0 ∧ (0 : Int) < 256 ^ 0; decide
  | n + 1, h => by
    have ih := wTop_bd bs hb n (by omega)
    have hz := hb (7 - n) (by omega)
    have e : (256 : Int) ^ (n + 1) = 256 * 256 ^ n := by rw [Int.pow_succ, Int.mul_comm]
    rw [e]
    show 0 ≤ 256 * wTop bs n + bs.getD (7 - n) 0 ∧ 256 * wTop bs n + bs.getD (7 - n) 0 < _
    omega
theorem pow256_le {n : Nat} (h : n ≤ 8) : (256 : Int) ^ n ≤ 18446744073709551616 := by
  match n, h with
  | 0, _ => decide
  | 1, _ => decide
  | 2, _ => decide
  | 3, _ => decide
  | 4, _ => decide
  | 5, _ => decide
  | 6, _ => decide
  | 7, _ => decide
  | 8, _ => decide
theorem or_add8 {a z : Int} {k : Nat} (ha0 : 0 ≤ a) (ha : a < 2 ^ k) (hz0 : 0 ≤ z) (hz : z ≤ 255) (hk : k ≤ 56) : BitVec.ofInt 64 a ||| BitVec.ofInt 64 z <<< k = BitVec.ofInt 64 (a + z * 2 ^ k) := by
  obtain ⟨m, rfl⟩ := Int.eq_ofNat_of_zero_le ha0
  obtain ⟨n, rfl⟩ := Int.eq_ofNat_of_zero_le hz0
  have hm : m < 2 ^ k := by exact_mod_cast ha
  have hn : n ≤ 255 := by omega
  have hp : (2 : Nat) ^ k ≤ 2 ^ 56 := Nat.pow_le_pow_right (by omega) hk
  have hnp : n * 2 ^ k ≤ 255 * 2 ^ 56 := Nat.mul_le_mul hn hp
  have e : ((m : Int) + (n : Int) * 2 ^ k) = ((m + n * 2 ^ k : Nat) : Int) := by push_cast; rfl
  rw [e]
  apply BitVec.eq_of_toNat_eq
  rw [BitVec.toNat_or, BitVec.toNat_shiftLeft, BitVec.ofInt_natCast, BitVec.ofInt_natCast, BitVec.ofInt_natCast, BitVec.toNat_ofNat, BitVec.toNat_ofNat, BitVec.toNat_ofNat, Nat.shiftLeft_eq,
    Nat.mod_eq_of_lt (a := n) (by omega), Nat.mod_eq_of_lt (a := n * 2 ^ k) (by omega), Nat.mod_eq_of_lt (a := m) (by omega), Nat.mod_eq_of_lt (a := m + n * 2 ^ k) (by omega), Nat.or_comm, Nat.mul_comm n, ← Nat.two_pow_add_eq_or_of_lt hm, Nat.add_comm]

/-- The words of the first n bytes, by numbers. -/
def wLow (bs : List Int) : Nat → Int
  | 0 => 0
  | n + 1 => wLow bs n + bs.getD n 0 * 2 ^ (n * 8)
theorem wLow_bd (bs : List Int) (hb : ∀ i, i < 8 → 0 ≤ bs.getD i 0 ∧ bs.getD i 0 ≤ 255) : ∀ n, n ≤ 8 → 0 ≤ wLow bs n ∧ wLow bs n < 2 ^ (n * 8)
  | 0, _ => by show (0 : Int) ≤ 0 ∧ (0 : Int) < 2 ^ (0 * 8); decide
  | n + 1, h => by
    have ih := wLow_bd bs hb n (by omega)
    have hz := hb n (by omega)
    have e : (2 : Int) ^ ((n + 1) * 8) = 256 * 2 ^ (n * 8) := by
      rw [show (n + 1) * 8 = n * 8 + 8 by omega, Int.pow_add, Int.mul_comm]; rfl
    rw [e]
    show 0 ≤ wLow bs n + bs.getD n 0 * 2 ^ (n * 8) ∧ wLow bs n + bs.getD n 0 * 2 ^ (n * 8) < _
    generalize bs.getD n 0 = z at *
    obtain ⟨p, hp⟩ : ∃ p : Int, 2 ^ (n * 8) = p := ⟨_, rfl⟩
    rw [hp] at ih ⊢
    have h1 : 0 ≤ z * p := Int.mul_nonneg hz.1 (by omega)
    have h2 : z * p ≤ 255 * p := Int.mul_le_mul_of_nonneg_right hz.2 (by omega)
    omega
theorem wN_low (bs : List Int) (hb : ∀ i, i < 8 → 0 ≤ bs.getD i 0 ∧ bs.getD i 0 ≤ 255) : ∀ n, n ≤ 8 → wN bs n = BitVec.ofInt 64 (wLow bs n)
  | 0, _ => rfl
  | n + 1, h => by
    have ih := wLow_bd bs hb n (by omega)
    have hz := hb n (by omega)
    rw [wN_succ, wN_low bs hb n (by omega), or_add8 ih.1 ih.2 hz.1 hz.2 (by omega)]
    rfl
theorem top_low (bs : List Int) : wTop bs 8 = wLow bs 8 := by
  simp [wTop, wLow]
  omega
theorem top_word (bs : List Int) (hb : ∀ i, i < 8 → 0 ≤ bs.getD i 0 ∧ bs.getD i 0 ≤ 255) : wTop bs 8 = U (wordOf bs) := by
  have h := wLow_bd bs hb 8 (by omega)
  unfold wordOf
  rw [wN_low bs hb 8 (by omega), top_low, U_ofInt h.1 (by have := h.2; have e : (2 : Int) ^ (8 * 8) = 18446744073709551616 := by decide
                                                          rw [e] at this; omega)]

set_option maxRecDepth 100000 in
set_option maxHeartbeats 1000000 in
theorem refWord (b o n c : Nat) (bs : List Int) (w : World) (hn : 8 ≤ n) (hc : n ≤ c) (hz : ∀ i, i < 8 → w.cell? ⟨b, o + i, none⟩ = some (.int .u8 (bs.getD i 0))) (hb : ∀ i, i < 8 → 0 ≤ bs.getD i 0 ∧ bs.getD i 0 ≤ 255) :
    Calls Tryd.prog 82 #[.slice (some ⟨b, o, none⟩) n c] w fun e w' => e = .returned (.int .u64 (U (wordOf bs))) ∧ w' = w := by
  have HZ := Lib.hid hz
  have HB := Lib.hid hb
  clear hz hb
  go_enter Tryd.func82, Tryd.ntmps82
  go_wp2
  go_loop [3, 4] (fun r i => ∃ k : Nat, r = .int .u64 (wTop bs k) ∧ i = .int .i64 (7 - (k : Int)) ∧ k ≤ 8) (fun _ i => (intOf i + 1).toNat)
  case atStart => exact ⟨0, rfl, rfl, by omega⟩
  case round =>
    obtain ⟨k, rfl, rfl, hk⟩ := hrel
    by_cases hlt : k < 8
    · have c0 := HZ.out (7 - k) (by omega)
      obtain ⟨b0, b1⟩ := HB.out (7 - k) (by omega)
      obtain ⟨t0, t1⟩ := wTop_bd bs HB.out k hk
      have t2 := pow256_le (n := k + 1) (by omega)
      have WS := Lib.hid (show wTop bs (k + 1) = 256 * wTop bs k + bs.getD (7 - k) 0 from rfl)
      have e : (256 : Int) ^ (k + 1) = 256 * 256 ^ k := by rw [Int.pow_succ, Int.mul_comm]
      rw [e] at t2
      generalize bs.getD (7 - k) 0 = z at *
      generalize wTop bs k = t at *
      have w1 : IntKind.u64.wrap (256 * t) = 256 * t := IntWalk.u64_in _ ⟨by omega, by omega⟩
      have w2 : IntKind.u64.wrap (256 * t + z) = 256 * t + z := IntWalk.u64_in _ ⟨by omega, by omega⟩
      have w3 : IntKind.u64.wrap z = z := IntWalk.u64_in _ ⟨by omega, by omega⟩
      have w4 : IntKind.i64.wrap (7 - (k : Int) - 1) = 7 - (k : Int) - 1 := IntWalk.i64_in _ (by omega)
      have i0 : (0 : Int) ≤ 7 - (k : Int) := by omega
      have i8 : (7 : Int) - (k : Int) < n := by omega
      have it : ((7 : Int) - (k : Int)).toNat = 7 - k := by omega
      clear e t1 t2
      go_wp2
      go_round
      case rel => exact ⟨k + 1, by rw [WS.out], by congr 1; omega, by omega⟩
      case measure => simp [intOf] <;> omega
    · obtain rfl : k = 8 := by omega
      have TW := Lib.hid (top_word bs HB.out)
      go_wp2
      go_ret
      exact ⟨by rw [← TW.out]; rfl, rfl⟩

theorem pre_succ (x : Wd) (k : Nat) : (List.range (k + 1)).map (splitB x) = (List.range k).map (splitB x) ++ [splitB x k] := by rw [List.range_succ, List.map_append]; rfl

set_option maxRecDepth 100000 in
set_option maxHeartbeats 1000000 in
theorem refBytes (x : Wd) (w : World) :
    Calls Tryd.prog 84 #[.int .u64 (U x)] w fun e w' => ∃ v, e = .returned v ∧ Fresh w w' v (bytesOf x) := by
  go_enter Tryd.func84, Tryd.ntmps84
  go_wp2_with fail
  go_loopw [0, 3, 4] (fun n v i wr => ∃ k : Nat, i = .int .i64 k ∧ k ≤ 8 ∧ n = .int .u64 (U x / 2 ^ (k * 8)) ∧ wr.ownsRow w.heap.size 5 1 v k (((List.range k).map (splitB x)).map (Value.int .u8)) ∧ Bel w wr) (fun _ _ i _ => 8 - (intOf i).toNat)
  case atStart => exact ⟨0, rfl, by omega, by simp, World.ownsRow_nil _ _ _ _, Bel.refl _⟩
  case round =>
    obtain ⟨k, rfl, hk, rfl, hown, hb⟩ := hrel
    have HV := Lib.hid hown
    have HB := Lib.hid hb
    clear hown hb
    by_cases hlt : k < 8
    · have hlt' : (k : Int) < 8 := by omega
      have M0 : 0 ≤ U x / 2 ^ (k * 8) := Int.ediv_nonneg (U0 x) (Int.pow_nonneg (by decide))
      have M1 : U x / 2 ^ (k * 8) ≤ 18446744073709551615 := Int.le_trans (Int.ediv_le_self _ (U0 x)) (U1 x)
      have MN := Lib.hid (show U x / 2 ^ (k * 8) / 256 = U x / 2 ^ ((k + 1) * 8) by
        rw [Int.ediv_ediv_of_nonneg (Int.pow_nonneg (by decide)), show (k + 1) * 8 = k * 8 + 8 by omega, Int.pow_add]; rfl)
      have MS := Lib.hid (show splitB x k = U x / 2 ^ (k * 8) % 256 from rfl)
      obtain ⟨M, hM⟩ : ∃ M, U x / 2 ^ (k * 8) = M := ⟨_, rfl⟩
      rw [hM] at M0 M1 MN MS ⊢
      clear hM
      have wM : IntKind.u8.wrap (M % 256) = M % 256 := by rw [IntKind.wrap_u8]; omega
      have SL := Lib.hid (sl_lit wr [M % 256])
      have HS := Lib.hid (Below.size HB.out)
      go_wp2_with (at_builtin; refine wpList_append_sl rfl _ _ rfl w.heap.size _ k _ rfl (owns_bel HV.out ((Bel.refl wr).alloc _)) (some ⟨wr.heap.size, 0, none⟩) 1 1 [M % 256] rfl SL.out (by omega) (by have := HS.out; simp; omega) ?_; intro v' w1 hown' hgrow)
      have HO := Lib.hid hown'
      have HB1 := Lib.hid (show Bel w w1 from Bel.grown (HB.out.alloc _) hgrow (fun j hj => (HV.out.lt j hj).1))
      clear hown' hgrow
      go_wp2
      go_roundw
      case rel =>
        refine ⟨k + 1, by go_num, by omega, by rw [MN.out], ?_, HB1.out⟩
        have h := HO.out
        rw [pre_succ, MS.out, List.map_append]
        exact h
      case measure => simp [intOf] <;> omega
    · obtain rfl : k = 8 := by omega
      go_wp2
      go_ret
      refine ⟨_, rfl, ?_, HB.out⟩
      have h := HV.out
      exact h
end Kk
end Go.Proofs.YtjbbecplkkkiiaaDoor
end

section
/-
  How the reference ends bytes, and what its sum is: the hash that was defined. No condition.
-/
namespace Go.Proofs.YtjbbecplkkkiiaaDoor
open Go.RowKit Go.Shelf
set_option linter.unusedVariables false
namespace Kk

def full (zs : List Int) (z : Nat) : List Int := zs ++ 6 :: List.replicate z 0
theorem len_full (zs : List Int) (z : Nat) : (full zs z).length = zs.length + 1 + z := by simp [full]; omega
theorem full_snoc (zs : List Int) (z : Nat) : full zs z ++ [0] = full zs (z + 1) := by
  unfold full
  rw [List.append_assoc, List.cons_append, List.replicate_succ']
theorem by_full {zs : List Int} (h : By zs) (z : Nat) : By (full zs z) := h.append (fun x hx => by
  rcases List.mem_cons.1 hx with rfl | hx
  · exact ⟨by decide, by decide⟩
  · rw [List.eq_of_mem_replicate hx]; exact ⟨by decide, by decide⟩)
/-- The whole of bytes as they are gone through. -/
def padAll (zs : List Int) : List Int :=
  (full zs (135 - zs.length % 136)).set (136 * (zs.length / 136) + 135) (bits .xor .u8 ((full zs (135 - zs.length % 136)).getD (136 * (zs.length / 136) + 135) 0) 128)
theorem len_padAll (zs : List Int) : (padAll zs).length = 136 * (zs.length / 136 + 1) := by
  unfold padAll
  rw [List.length_set, len_full]
  omega
theorem by_padAll {zs : List Int} (h : By zs) : By (padAll zs) := by_set (by_full h _) _ (bits_u8 _ _ _)
theorem padAll_eq (zs : List Int) : padAll zs = zs.take (136 * (zs.length / 136)) ++ pad (zs.drop (136 * (zs.length / 136))) := by
  obtain ⟨m, hm⟩ : ∃ m, zs.length / 136 = m := ⟨_, rfl⟩
  have hl : (zs.take (136 * m)).length = 136 * m := by rw [List.length_take]; omega
  have hr : (zs.drop (136 * m)).length = zs.length % 136 := by rw [List.length_drop]; omega
  have e : full zs (135 - zs.length % 136) = zs.take (136 * m) ++ ended (zs.drop (136 * m)) := by
    unfold full ended
    rw [hr, ← List.append_assoc, List.take_append_drop]
  have hg : ∀ E : List Int, (zs.take (136 * m) ++ E).getD (136 * m + 135) 0 = E.getD 135 0 := fun E => by
    rw [List.getD_eq_getElem?_getD, List.getElem?_append_right (by omega), hl, Nat.add_sub_cancel_left, ← List.getD_eq_getElem?_getD]
  unfold padAll pad
  rw [hm, e, hg, List.set_append_right _ _ (by omega), hl, Nat.add_sub_cancel_left]
theorem stN_pad (zs : List Int) : stN (padAll zs) (zs.length / 136 + 1) = lastSt zs := by
  obtain ⟨m, hm⟩ : ∃ m, zs.length / 136 = m := ⟨_, rfl⟩
  have hl : (zs.take (136 * m)).length = 136 * m := by rw [List.length_take]; omega
  have hr : (zs.drop (136 * m)).length < 136 := by rw [List.length_drop]; omega
  have hp : (pad (zs.drop (136 * m))).length = 136 := by unfold pad; rw [List.length_set, len_ended hr]
  have hz : stN zs m = stN (zs.take (136 * m)) m := by
    conv => lhs; rw [← List.take_append_drop (136 * m) zs]
    exact stN_append _ _ _ (by omega)
  unfold lastSt
  rw [padAll_eq, hm]
  show absorbed (stN (zs.take (136 * m) ++ pad (zs.drop (136 * m))) m) (((zs.take (136 * m) ++ pad (zs.drop (136 * m))).drop (136 * m)).take 136) = _
  rw [stN_append _ _ _ (by omega), ← hz, List.drop_append_of_le_length (by omega), List.drop_of_length_le (by omega), List.nil_append, List.take_of_length_le (by omega)]

/-- The cells of a hash behind n bytes. -/
def outN (H : List Int) (n : Nat) : List Value := (List.range 32).map fun i => if i < n then B8 (H.getD i 0) else B8 0
theorem outN_len (H : List Int) (n : Nat) : (outN H n).length = 32 := by simp [outN]
theorem outN_0 (H : List Int) : outN H 0 = Z32l := by
  unfold outN
  simp only [Nat.not_lt_zero, if_false]
  rfl
theorem outN_32 {H : List Int} (h : H.length = 32) : outN H 32 = H.map B8 := by
  unfold outN
  apply List.ext_getElem (by simp [h])
  intro i h1 h2
  have hi : i < 32 := by simpa using h1
  simp [hi, List.getElem?_eq_getElem (show i < H.length by omega)]
theorem outN_set (H : List Int) {n : Nat} (h : n < 32) : (outN H n).toArray.setIfInBounds n (.int .u8 (H.getD n 0)) = (outN H (n + 1)).toArray := by
  rw [List.setIfInBounds_toArray]
  congr 1
  unfold outN
  apply List.ext_getElem (by simp)
  intro i h1 h2
  simp only [List.getElem_set, List.getElem_map, List.getElem_range]
  by_cases h : n = i
  · subst h; simp
  · rw [if_neg h]
    by_cases h3 : i < n
    · rw [if_pos h3, if_pos (by omega)]
    · rw [if_neg h3, if_neg (by omega)]
theorem outN_at (H : List Int) (n : Nat) {i : Nat} (h : i < 32) : ∃ v, (outN H n).toArray[i]? = some (.int .u8 v) := by
  unfold outN
  rw [List.getElem?_toArray, List.getElem?_map, List.getElem?_range h]
  by_cases h2 : i < n
  · exact ⟨_, by simp [h2]; rfl⟩
  · exact ⟨0, by simp [h2]⟩
theorem hash_at (S : List Wd) {k i : Nat} (hk : k < 4) (hi : i < 8) : (hashOf S).getD (8 * k + i) 0 = (bytesOf (g S k)).getD i 0 := by
  have l := fun x => len_bytesOf x
  unfold hashOf
  simp only [List.getD_eq_getElem?_getD]
  match k, hk with
  | 0, _ => rw [List.getElem?_append_left (by rw [l]; omega)]; simp
  | 1, _ => rw [List.getElem?_append_right (by rw [l]; omega), List.getElem?_append_left (by rw [l, l]; omega), l, show 8 * 1 + i - 8 = i by omega]
  | 2, _ => rw [List.getElem?_append_right (by rw [l]; omega), List.getElem?_append_right (by rw [l, l]; omega), List.getElem?_append_left (by rw [l, l, l]; omega), l, l, show 8 * 2 + i - 8 - 8 = i by omega]
  | 3, _ => rw [List.getElem?_append_right (by rw [l]; omega), List.getElem?_append_right (by rw [l, l]; omega), List.getElem?_append_right (by rw [l, l, l]; omega), l, l, l, show 8 * 3 + i - 8 - 8 - 8 = i by omega]
end Kk
end Go.Proofs.YtjbbecplkkkiiaaDoor
end

section
/-
  What the reference's Sum answers: the hash of bytes. Condition: a slice of at most 10^9 bytes.
-/
namespace Go.Proofs.YtjbbecplkkkiiaaDoor
open Go.RowKit Go.Shelf
set_option linter.unusedVariables false
namespace Kk

theorem own_form {w : World} {base : Nat} {e : TypeId} {v : Value} {n : Nat} {xs : List Value} (h : w.ownsRow base e 1 v n xs) (hn : 0 < n) : ∃ g cap, v = .slice (some ⟨g, 0, none⟩) n cap ∧ n ≤ cap ∧ base ≤ g ∧ g < w.heap.size := by
  rcases h.2 with ⟨rfl, rfl⟩ | ⟨g, cap, cur, rfl, hb, hg, hnc, hm, r⟩
  · omega
  · exact ⟨g, cap, rfl, hnc, hb, (Array.getElem?_eq_some_iff.1 hg).1⟩
theorem own_cap {w : World} {base : Nat} {e : TypeId} {g n cap : Nat} {xs : List Value} (h : w.ownsRow base e 1 (.slice (some ⟨g, 0, none⟩) n cap) n xs) : n ≤ cap ∧ cap ≤ maxLen := by
  rcases h.2 with ⟨h1, _⟩ | ⟨g', cap', cur, h1, hb, hg, hnc, hm, r⟩
  · cases h1
  · injection h1 with _ _ h1
    subst h1
    exact ⟨hnc, hm⟩
theorem own_cell {w : World} {base g n cap : Nat} {zs : List Int} (h : w.ownsRow base 5 1 (.slice (some ⟨g, 0, none⟩) n cap) n (zs.map (Value.int .u8))) {i : Nat} (hi : i < n) : w.cell? ⟨g, i, none⟩ = some (.int .u8 (zs.getD i 0)) := by
  have hl : zs.length = n := by simpa using h.1
  rw [h.cellAt i (by omega), List.getElem?_map, List.getElem?_eq_getElem (by omega), getD_eq _ _ (by omega)]
  rfl
theorem part_get (P : List Int) (j k i : Nat) (hk : k < 17) (hi : i < 8) : (((P.drop (136 * j)).take 136).drop (k * 8)).getD i 0 = P.getD (136 * j + 8 * k + i) 0 := by
  simp only [List.getD_eq_getElem?_getD, List.getElem?_drop, List.getElem?_take]
  rw [if_pos (by omega), show 136 * j + (k * 8 + i) = 136 * j + 8 * k + i by omega]

set_option maxRecDepth 100000 in
set_option maxHeartbeats 4000000 in
theorem refSum (A : Option Addr) (n c : Nat) (zs : List Int) (w : World) (hz : Sl w A n c zs) (hby : By zs) (hn : n ≤ 1000000000) :
    Calls Tryd.prog 46 #[.slice A n c] w fun e w' => e = .returned (hsV (sumOf zs)) ∧ Bel w w' := by
  obtain ⟨h, hh⟩ : ∃ h, h = w.heap.size := ⟨_, rfl⟩
  have HZL := Lib.hid hz.len
  obtain ⟨w1, hw1⟩ : ∃ w1, w.alloc (.cells #[.int .u8 0, .int .u8 0, .int .u8 0, .int .u8 0, .int .u8 0, .int .u8 0, .int .u8 0, .int .u8 0, .int .u8 0, .int .u8 0, .int .u8 0, .int .u8 0, .int .u8 0, .int .u8 0, .int .u8 0, .int .u8 0, .int .u8 0, .int .u8 0, .int .u8 0, .int .u8 0, .int .u8 0, .int .u8 0, .int .u8 0, .int .u8 0, .int .u8 0, .int .u8 0, .int .u8 0, .int .u8 0, .int .u8 0, .int .u8 0, .int .u8 0, .int .u8 0] 23) = w1 := ⟨_, rfl⟩
  have TH := Lib.hid (show w1.there h 0 32 by rw [← hw1, hh]; exact there_newK (by decide))
  have HB := Lib.hid (show Bel w w1 by rw [← hw1]; exact (Bel.refl w).alloc _)
  have HS1 := Lib.hid (show w1.heap.size = h + 1 by rw [← hw1, hh]; simp)
  have SL := Lib.hid ((hz.bel HB.out).bel ((Bel.refl w1).alloc (.cells #[] 5)))
  have OE := Lib.hid (own_empty w1)
  have HW1 := Lib.hid hw1
  have HH := Lib.hid hh
  have HBY := Lib.hid hby
  clear hw1 hh hz hby
  go_enter Tryd.func46, Tryd.ntmps46
  go_upto_region 1 with fail
  rw [HW1.out, ← HH.out]
  go_wp2_with (at_builtin; first
    | (refine wpList_append_sl rfl _ _ rfl w1.heap.size _ (0 + n) _ rfl (owns_bel OV.out ((Bel.refl w2).alloc _)) (some ⟨w2.heap.size, 0, none⟩) 1 1 [6] rfl S6.out (by omega) (by have := Below.size HB2.out; rw [World.size_alloc]; omega) ?_
       intro v' w3 hown' hgrow)
    | (refine wpList_append_sl rfl _ _ rfl w1.heap.size _ 0 [] rfl OE.out A n c zs rfl SL.out (by omega) (by rw [World.size_alloc]; omega) ?_
       intro v1 w2 hown1 hgrow1
       have OV := Lib.hid hown1
       have HB2 := Lib.hid (show Bel w1 w2 from Bel.grown ((Bel.refl w1).alloc _) hgrow1 (fun k hk => (OE.out.lt k hk).1))
       have S6 := Lib.hid (sl_lit w2 [6])
       clear hown1 hgrow1))
  have HB3 := Lib.hid (show Bel w1 w3 from Bel.grown (HB2.out.alloc _) hgrow (fun k hk => (OV.out.lt k hk).1))
  have O3 := Lib.hid (show w3.ownsRow w1.heap.size 5 1 v' (n + 1 + 0) ((full zs 0).map (Value.int .u8)) by
    rw [List.nil_append] at hown'
    rw [show n + 1 + 0 = 0 + n + 1 by omega, full, List.map_append]
    exact hown')
  clear hown' hgrow OV HB2 S6 OE SL
  have T3 := Lib.hid (there_bel TH.out HB3.out)
  have HB13 := Lib.hid (HB.out.trans HB3.out)
  obtain ⟨m, hm⟩ : ∃ m, n / 136 = m := ⟨_, rfl⟩
  have HM := Lib.hid hm
  have hm1 : 136 * m ≤ n := by omega
  have hm2 : n < 136 * m + 136 := by omega
  have hm9 : m ≤ 10000000 := by omega
  have h1w : h + 1 ≤ w3.heap.size := by rw [← HS1.out]; exact Below.size HB3.out
  clear hm HW1
  go_loopw [3] (fun v wr => ∃ z : Nat, n + 1 + z ≤ 136 * m + 136 ∧ wr.ownsRow w1.heap.size 5 1 v (n + 1 + z) ((full zs z).map (Value.int .u8)) ∧ Bel w1 wr) (fun v _ => 136 * m + 136 - sizeOfV v)
  case atStart => exact ⟨0, by omega, O3.out, HB3.out⟩
  case round =>
    obtain ⟨z, hz, hown, hb⟩ := hrel
    obtain ⟨g, cap, rfl, hcap, hgb, hgl⟩ := own_form hown (by omega)
    have OV := Lib.hid hown
    have HBV := Lib.hid hb
    obtain ⟨L, hL⟩ : ∃ L, n + 1 + z = L := ⟨_, rfl⟩
    have HL := Lib.hid hL
    clear hown hb
    rw [hL] at hz OV hcap ⊢
    have hL1 : n < L := by omega
    have hz2 : z = L - n - 1 := by omega
    clear hL
    have t1 : ((L : Int)).tmod 136 = ((L % 136 : Nat) : Int) := by rw [Int.tmod_eq_emod_of_nonneg (by omega)]; omega
    by_cases hr : L % 136 = 0
    · obtain rfl : L = 136 * m + 136 := by omega
      have t3 : (((136 * m + 136 : Nat) : Int)).tmod 136 = 0 := by rw [Int.tmod_eq_emod_of_nonneg (by omega)]; omega
      have hcm := own_cap OV.out
      have c0 := own_cell OV.out (i := 136 * m + 135) (by omega)
      have f0 := OV.out.frozenAt (136 * m + 135)
      have ez : z = 135 - zs.length % 136 := by rw [HZL.out]; have := HM.out; omega
      have PA := Lib.hid (show ((full zs z).map (Value.int .u8)).set (136 * m + 135) (.int .u8 (bits .xor .u8 ((full zs z).getD (136 * m + 135) 0) 128)) = (padAll zs).map (Value.int .u8) by
        rw [← List.map_set, ez, ← HM.out, ← HZL.out]; rfl)
      obtain ⟨x, hx⟩ : ∃ x, (full zs z).getD (136 * m + 135) 0 = x := ⟨_, rfl⟩
      rw [hx] at c0 PA
      have ST := Lib.hid (by
        have h := (OV.out.stored (136 * m + 135) (.int .u8 (bits .xor .u8 x 128))).1
        rw [PA.out] at h
        exact h)
      have hgh : g < wr.heap.size := hgl
      clear hx hz2 t1
      have e1 : ((136 * m + 136 : Nat) : Int) - 1 = 136 * (m : Int) + 135 := by omega
      have w1' : IntKind.i64.wrap (136 * (m : Int) + 135) = 136 * (m : Int) + 135 := IntWalk.i64_in _ (by omega)
      have i1 : ((136 * (m : Int) + 135)).toNat = 136 * m + 135 := by omega
      go_upto_region 5 with fail
      obtain ⟨w4, hw4⟩ : ∃ w4, wr.setCell ⟨g, 136 * m + 135, none⟩ (.int .u8 (bits .xor .u8 x 128)) = w4 := ⟨_, rfl⟩
      have B4 : Bel w1 w4 := by rw [← hw4]; exact HBV.out.set hgb _
      have O4 := ST.out
      have g4 : g < w4.heap.size := by rw [← hw4, World.size_setCell]; exact hgh
      rw [hw4] at O4 ⊢
      obtain ⟨P, hP⟩ : ∃ P, P = padAll zs := ⟨_, rfl⟩
      have lP : P.length = 136 * m + 136 := by rw [hP, len_padAll, HZL.out]; have := HM.out; omega
      have HPB := Lib.hid (show By P by rw [hP]; exact by_padAll HBY.out)
      have HPS := Lib.hid (show hashOf (stN P (m + 1)) = sumOf zs by rw [hP, ← HM.out, ← HZL.out, stN_pad]; rfl)
      rw [← hP] at O4
      clear hw4 hP ST PA c0 f0 OV HBV
      obtain ⟨hs, hhs⟩ : ∃ hs, hs = w4.heap.size := ⟨_, rfl⟩
      obtain ⟨w5, hw5⟩ : ∃ w5, w4.alloc Z25w = w5 := ⟨_, rfl⟩
      have B5 : Bel w4 w5 := by rw [← hw5]; exact (Bel.refl w4).alloc _
      have S5 := Lib.hid (show Blk w5 hs ((stN P 0).map V).toArray 109 by rw [← hw5, hhs]; exact Blk.new w4 _ _)
      have s5 : hs < w5.heap.size := by rw [← hw5, hhs]; simp
      have CP := Lib.hid (show ∀ i, i < 136 * m + 136 → w5.cell? ⟨g, i, none⟩ = some (.int .u8 (P.getD i 0)) from fun i hi =>
        (Below.cell (p := ⟨g, i, none⟩) B5 g4).trans (own_cell O4 hi))
      have g5 : g < w5.heap.size := Nat.lt_of_lt_of_le g4 (Below.size B5)
      have gs : g ≠ hs := by rw [hhs]; exact Nat.ne_of_lt g4
      have hhs2 : h + 1 ≤ hs := by rw [hhs, ← HS1.out]; exact Below.size B4
      have T5 := Lib.hid (there_bel (there_bel TH.out B4) B5)
      have BB5 := Lib.hid ((HB.out.trans B4).trans B5)
      go_wp2_with fail
      rw [← hhs]
      have HHS := Lib.hid hhs
      clear hhs hw5 B5 B4 O4 hr t3 e1 w1' i1 hcm hz
      generalize ((136 * (m : Int) + 136) % 136) = q0
      rw [show 136 * m + 136 - 1 = 136 * m + 135 by omega]
      go_loopw [5] (fun i wr => ∃ j : Nat, i = .int .i64 (136 * (j : Int)) ∧ j ≤ m + 1 ∧ Blk wr hs ((stN P j).map V).toArray 109 ∧ Kep (fun i => i = hs) w5 wr) (fun i _ => 136 * m + 136 - (intOf i).toNat)
      case atStart => exact ⟨0, rfl, by omega, S5.out, Kep.refl _ _⟩
      case round =>
        obtain ⟨j, rfl, hj, hst, hk⟩ := hrel
        have HST := Lib.hid hst
        have HK := Lib.hid hk
        by_cases hlj : j < m + 1
        · clear hst hk
          have hlj2 : 136 * (j : Int) < 136 * (m : Int) + 136 := by omega
          go_wp2
          obtain ⟨B, hB⟩ : ∃ B, B = (P.drop (136 * j)).take 136 := ⟨_, rfl⟩
          obtain ⟨S0, hS0⟩ : ∃ S0, S0 = stN P j := ⟨_, rfl⟩
          have lS : S0.length = 25 := by rw [hS0]; exact len_stN _ _
          have HNX := Lib.hid (show perm (xored S0 B 17) = stN P (j + 1) by rw [hB, hS0]; rfl)
          have HBK := Lib.hid (show ∀ k i, k < 17 → i < 8 → (B.drop (k * 8)).getD i 0 = P.getD (136 * j + 8 * k + i) 0 from fun k i hk hi => by rw [hB]; exact part_get P j k i hk hi)
          have HST0 := Lib.hid (show Blk wr hs ((xored S0 B 0).map V).toArray 109 by rw [xored0 lS, hS0]; exact HST.out)
          clear hB hS0 HST
          go_loopw [6] (fun i wr => ∃ k : Nat, i = .int .i64 k ∧ k ≤ 17 ∧ Blk wr hs ((xored S0 B k).map V).toArray 109 ∧ Kep (fun i => i = hs) w5 wr) (fun i _ => 17 - (intOf i).toNat)
          case atStart => exact ⟨0, rfl, by omega, HST0.out, HK.out⟩
          case round =>
            obtain ⟨k, rfl, hk17, hst, hk⟩ := hrel
            have HST := Lib.hid hst
            have HK := Lib.hid hk
            by_cases hlk : k < 17
            · have k0 := hst.cell k (word_at (len_xored _ _ _) (by omega))
              rw [xored_at S0 B (by omega)] at k0
              have f0 := hst.frozen k
              have sl := fun w => slice_l (some ⟨g, 0, none⟩) (136 * m + 136) cap (136 * (j : Int) + 8 * (k : Int)) w (by omega) (by omega)
              rw [show (136 * (j : Int) + 8 * (k : Int)).toNat = 136 * j + 8 * k by omega, if_neg (by omega), show (some (⟨g, 0, none⟩ : Addr)).map (·.add ((136 * j + 8 * k) * 1)) = some ⟨g, 136 * j + 8 * k, none⟩ by rw [Nat.mul_one, Option.map_some, Addr.add_mid, Nat.zero_add]] at sl
              have WD := Lib.hid (fun W (hW : Bel wr W) => refWord g (136 * j + 8 * k) (136 * m + 136 - (136 * j + 8 * k)) (cap - (136 * j + 8 * k)) (B.drop (k * 8)) W (by omega) (by omega)
                (fun i hi => by
                  rw [HBK.out k i hlk hi]
                  exact (Below.cell (p := ⟨g, 136 * j + 8 * k + i, none⟩) hW (Nat.lt_of_lt_of_le g5 hk.size)).trans (hk.cell gs (CP.out _ (by omega))))
                (fun i hi => by rw [HBK.out k i hlk hi]; exact HPB.out.at _))
              have WD1 := Lib.hid (WD.out wr.drew (Bel.refl wr).drew)
              have qx := xor_u (Kk.g S0 k) (wordOf (B.drop (k * 8)))
              have w8 : IntKind.i64.wrap (8 * (k : Int)) = 8 * (k : Int) := IntWalk.i64_in _ (by omega)
              have w9 : IntKind.i64.wrap (136 * (j : Int) + 8 * (k : Int)) = 136 * (j : Int) + 8 * (k : Int) := IntWalk.i64_in _ (by omega)
              clear hst hk
              have hk25 : (k : Int) < 25 := by omega
              go_wp2
              go_still_tail 13, (by kernel_rfl)
              still_call (WD1.out)
              repeat still_step
              refine wpStill_nil ?_
              change wpList _ _ _ _ _ wr.drew
              go_wp2
              go_roundw
              case rel =>
                refine ⟨k + 1, by go_num, by omega, ?_, (HK.out.drew).set_self _ _⟩
                have h2 := (HST.out.bel (Bel.refl wr).drew).set k (.int .u64 (U (Kk.g S0 k ^^^ wd B k)))
                rw [key_set, xored_succ] at h2
                exact h2
              case measure => simp [intOf] <;> omega
            · obtain rfl : k = 17 := by omega
              obtain ⟨X, hX⟩ : ∃ X, X = xored S0 B 17 := ⟨_, rfl⟩
              have lX : X.length = 25 := by rw [hX]; exact len_xored _ _ _
              rw [← hX] at hst
              have CP2 := Lib.hid (fun W => refPermute X W lX)
              have NX := Lib.hid (show perm X = stN P (j + 1) by rw [hX]; exact HNX.out)
              obtain ⟨D, hD⟩ : ∃ D, D = X.map V := ⟨_, rfl⟩
              rw [← hD] at hst CP2
              have HDl := Lib.hid (show D.length = 25 by rw [hD, List.length_map]; exact lX)
              have HDi := Lib.hid (show (Tryd.prog.info? 109).map (·.size) = some D.length by rw [HDl.out]; kernel_rfl)
              have RD := Lib.hid (blk_range hst)
              have HSD := Lib.hid hst
              obtain ⟨Y, hY⟩ : ∃ Y, Y = (perm X).map V := ⟨_, rfl⟩
              rw [← hY] at CP2
              have HYl := Lib.hid (show Y.length = 25 by rw [hY, List.length_map]; exact len_perm lX)
              have YS := Lib.hid (show Y.toArray.size = Y.length from List.size_toArray)
              have YI2 := Lib.hid (show (Tryd.prog.info? 109).map (·.size) = some Y.toArray.size by rw [YS.out, HYl.out]; kernel_rfl)
              have YO := Lib.hid (all_oneCell_toArray (cs := Y) (by rw [hY]; exact ints1 _))
              have HY := Lib.hid hY
              clear hst hk hX hD hY HST
              go_wp2_with (refine wpList_load_mid rfl 109 (.tmp 4) rfl hs 0 rfl D _ RD.out Tryd.underlying109 rfl HDi.out ?_)
              refine (CP2.out _).mono ?_
              rintro e w6 ⟨rfl, h6⟩
              have H6 : Bel wr w6 := h6
              clear h6
              have S6 := HSD.out.bel H6
              have TY := Lib.hid (show w6.there hs 0 Y.toArray.size by
                rw [YS.out, HYl.out]
                exact S6.there 0 25 (by rw [List.size_toArray, HDl.out]; omega))
              have W6 := Lib.hid (show Blk (w6.setCells hs 0 Y) hs Y.toArray 109 from Blk.whole S6 (by rw [HYl.out, List.size_toArray, HDl.out]))
              have K6 := Lib.hid ((HK.out.trans (Kep.of_bel H6)).trans (kep_setCellsK hs Y 0 w6))
              clear S6 H6
              go_wp2_with (refine wpList_store_mid rfl 109 (.tmp 4) (.tmp 59) rfl hs 0 Y.toArray rfl rfl TY.out YI2.out YO.out ?_)
              go_roundw
              case rel => exact ⟨j + 1, by go_num, by omega, by rw [← NX.out, ← HY.out]; exact W6.out, K6.out⟩
              case measure => simp [intOf] <;> omega
        · obtain rfl : j = m + 1 := by omega
          obtain ⟨S, hS⟩ : ∃ S, S = stN P (m + 1) := ⟨_, rfl⟩
          rw [← hS] at hst
          have lS : S.length = 25 := by rw [hS]; exact len_stN _ _
          obtain ⟨H, hH⟩ : ∃ H, H = hashOf S := ⟨_, rfl⟩
          have HHS2 := Lib.hid (show H = sumOf zs by rw [hH, hS]; exact HPS.out)
          have lH : H.length = 32 := by rw [hH]; exact len_hashOf _
          have HAT := Lib.hid (show ∀ k i, k < 4 → i < 8 → H.getD (8 * k + i) 0 = (bytesOf (Kk.g S k)).getD i 0 from fun k i hk hi => by rw [hH]; exact hash_at S hk hi)
          obtain ⟨ho, hho⟩ : ∃ ho, ho = wr.heap.size := ⟨_, rfl⟩
          have HST := Lib.hid hst
          obtain ⟨w6, hw6⟩ : ∃ w6, wr.alloc (.cells Z32l.toArray 23) = w6 := ⟨_, rfl⟩
          have B6 : Bel wr w6 := by rw [← hw6]; exact (Bel.refl wr).alloc _
          have S6 := Lib.hid (hst.bel B6)
          have N6 := Lib.hid (show Blk w6 ho (outN H (8 * 0)).toArray 23 by rw [outN_0, ← hw6, hho]; exact Blk.new wr _ _)
          have hso : hs < ho := by rw [hho]; exact hst.lt
          have T6 := Lib.hid (there_bel (there_kep T5.out hk (by omega)) B6)
          have BB6 := Lib.hid ((Kep.bel BB5.out hk (fun i hi => by rw [hi]; have := HH.out; omega)).trans B6)
          have HW6 := Lib.hid (show wr.alloc (.cells #[.int .u8 0, .int .u8 0, .int .u8 0, .int .u8 0, .int .u8 0, .int .u8 0, .int .u8 0, .int .u8 0, .int .u8 0, .int .u8 0, .int .u8 0, .int .u8 0, .int .u8 0, .int .u8 0, .int .u8 0, .int .u8 0, .int .u8 0, .int .u8 0, .int .u8 0, .int .u8 0, .int .u8 0, .int .u8 0, .int .u8 0, .int .u8 0, .int .u8 0, .int .u8 0, .int .u8 0, .int .u8 0, .int .u8 0, .int .u8 0, .int .u8 0, .int .u8 0] 23) = w6 from hw6)
          have HHO := Lib.hid hho
          have hw6s : w6.heap.size = ho + 1 := by rw [← hw6, hho]; simp
          clear hst hk hS hH hho hw6 B6 HST HK S5
          have hj9 : ¬ 136 * ((m : Int) + 1) < 136 * (m : Int) + 136 := by omega
          go_upto_region 15 with fail
          rw [HW6.out, ← HHO.out]
          go_wp2_with fail
          go_loopw [8] (fun i wr => ∃ k : Nat, i = .int .i64 k ∧ k ≤ 4 ∧ Blk wr ho (outN H (8 * k)).toArray 23 ∧ Kep (fun i => i = ho) w6 wr) (fun i _ => 4 - (intOf i).toNat)
          case atStart => exact ⟨0, rfl, by omega, N6.out, Kep.refl _ _⟩
          case round =>
            obtain ⟨k, rfl, hk4, hst, hk⟩ := hrel
            have HST := Lib.hid hst
            have HK := Lib.hid hk
            by_cases hlk : k < 4
            · have k0 := (S6.out.kep hk (by omega)).cell k (word_at lS (by omega))
              have hk25 : (k : Int) < 25 := by omega
              have hsz := hk.size
              clear hst hk
              go_wp2_with fail
              refine (refBytes _ _).mono ?_
              rintro e w7 ⟨v, rfl, hf⟩
              have H7 : Bel wr w7 := hf.2
              obtain ⟨gb, cb, rfl, hcb, hgb1, hgb2⟩ := own_form hf.1 (by rw [len_bytesOf]; omega)
              have CB := Lib.hid (show ∀ i, i < 8 → w7.cell? ⟨gb, i, none⟩ = some (.int .u8 ((bytesOf (Kk.g S k)).getD i 0)) from fun i hi => own_cell hf.1 (by rw [len_bytesOf]; exact hi))
              have hgo : gb ≠ ho := by omega
              rw [len_bytesOf]
              rw [len_bytesOf] at hcb
              have ST7 := Lib.hid (show Blk w7 ho (outN H (8 * k + 0)).toArray 23 from HST.out.bel H7)
              have K7 := Lib.hid (HK.out.trans (Kep.of_bel H7))
              clear hf H7 HST HK k0
              go_wp2_with fail
              go_loopw [10] (fun i wr => ∃ t : Nat, i = .int .i64 t ∧ t ≤ 8 ∧ Blk wr ho (outN H (8 * k + t)).toArray 23 ∧ Kep (fun i => i = ho) w6 wr ∧ Kep (fun i => i = ho) w7 wr) (fun i _ => 8 - (intOf i).toNat)
              case atStart => exact ⟨0, rfl, by omega, ST7.out, K7.out, Kep.refl _ _⟩
              case round =>
                obtain ⟨t, rfl, ht8, hst, hk, hk7⟩ := hrel
                have HST := Lib.hid hst
                have HK := Lib.hid hk
                have HK7 := Lib.hid hk7
                by_cases hlt : t < 8
                · have b0 : wr.cell? ⟨gb, t, none⟩ = some (.int .u8 ((bytesOf (Kk.g S k)).getD t 0)) := hk7.cell hgo (CB.out t hlt)
                  rw [← HAT.out k t hlk hlt] at b0
                  obtain ⟨x0, hx0⟩ := outN_at H (8 * k + t) (i := 8 * k + t) (by omega)
                  have o0 := hst.cell (8 * k + t) hx0
                  have f0 := hst.frozen (8 * k + t)
                  have w8 : IntKind.i64.wrap (8 * (k : Int)) = 8 * (k : Int) := IntWalk.i64_in _ (by omega)
                  have w9 : IntKind.i64.wrap (8 * (k : Int) + (t : Int)) = 8 * (k : Int) + (t : Int) := IntWalk.i64_in _ (by omega)
                  have i32 : 8 * (k : Int) + (t : Int) < 32 := by omega
                  have i00 : 0 ≤ 8 * (k : Int) + (t : Int) := by omega
                  have it : (8 * (k : Int) + (t : Int)).toNat = 8 * k + t := by omega
                  have ht8' : (t : Int) < 8 := by omega
                  clear hst hk hk7 hx0
                  go_wp2
                  go_roundw
                  case rel =>
                    have h2 := HST.out.set (8 * k + t) (.int .u8 (H.getD (8 * k + t) 0))
                    rw [outN_set H (by omega)] at h2
                    exact ⟨t + 1, by go_num, by omega, h2, HK.out.set_self _ _, HK7.out.set_self _ _⟩
                  case measure => simp [intOf] <;> omega
                · obtain rfl : t = 8 := by omega
                  clear hst hk hk7
                  go_wp2
                  go_roundw
                  case rel => exact ⟨k + 1, by go_num, by omega, by rw [show 8 * (k + 1) = 8 * k + 8 by omega]; exact HST.out, HK.out⟩
                  case measure => simp [intOf] <;> omega
            · obtain rfl : k = 4 := by omega
              rw [show 8 * 4 = 32 from rfl, outN_32 lH] at hst
              obtain ⟨Y, hY⟩ : ∃ Y, Y = H.map B8 := ⟨_, rfl⟩
              rw [← hY] at hst
              have HYl := Lib.hid (show Y.length = 32 by rw [hY, List.length_map]; exact lH)
              have YI := Lib.hid (show (Tryd.prog.info? 23).map (·.size) = some Y.length by rw [HYl.out]; exact info_hash)
              have YS := Lib.hid (show Y.toArray.size = Y.length from List.size_toArray)
              have YI2 := Lib.hid (show (Tryd.prog.info? 23).map (·.size) = some Y.toArray.size by rw [YS.out]; exact YI.out)
              have YO := Lib.hid (all_oneCell_toArray (cs := Y) (by rw [hY]; exact ints_b8 _))
              have RY := Lib.hid (blk_range hst)
              have T9 := Lib.hid (show wr.there h 0 Y.toArray.size by
                rw [YS.out, HYl.out]
                exact there_kep T6.out hk (by omega))
              have K9 := Lib.hid (Kep.bel BB6.out hk (fun i hi => by rw [hi]; have := HH.out; omega))
              have HY := Lib.hid (show hsV (sumOf zs) = .agg Y.toArray by rw [hY, HHS2.out])
              clear hst hk hY HST HK
              go_wp2_with (first | (refine wpList_load_mid rfl 23 (.tmp 7) rfl ho 0 rfl Y _ RY.out Tryd.underlying23 rfl YI.out ?_) | (refine wpList_store_mid rfl 23 (.tmp 2) (.tmp 81) rfl h 0 Y.toArray rfl rfl T9.out YI2.out YO.out ?_))
              have RE : (wr.setCells h 0 Y).rangeAt h 0 Y := World.rangeAt_setCells_same _ _ _ _ (by have e := YS.out; have e2 := T9.out; rw [e] at e2; exact e2)
              refine bodyPost_ret (results_c1 Tryd.results46 _ _ ⟨h, 0, none⟩ _ rfl (run_loadVar_mid (P := Tryd.prog) _ h 0 23 Y _ RE Tryd.underlying23 rfl YI.out)) rfl ⟨by rw [HY.out], ?_⟩
              exact Kep.bel K9.out (kep_setCellsK h Y 0 _) (fun i hi => by rw [hi, HH.out]; exact Nat.le_refl _)
    · have t2 : ¬ ((L : Int)) % 136 = 0 := by omega
      have t3 : ¬ ((L : Int)).tmod 136 = 0 := by rw [Int.tmod_eq_emod_of_nonneg (by omega)]; omega
      have S0 := Lib.hid (sl_lit wr [0])
      go_wp2_with (at_builtin; refine wpList_append_sl rfl _ _ rfl w1.heap.size _ L _ rfl (owns_bel OV.out ((Bel.refl wr).alloc _)) (some ⟨wr.heap.size, 0, none⟩) 1 1 [0] rfl S0.out (by omega) (by have := Below.size HBV.out; rw [World.size_alloc]; omega) ?_; intro v' w4 hown' hgrow)
      have HB4 := Lib.hid (show Bel w1 w4 from Bel.grown (HBV.out.alloc _) hgrow (fun k hk => (OV.out.lt k hk).1))
      have O4 := Lib.hid hown'
      clear hown' hgrow OV HBV S0
      go_wp2
      go_roundw
      case rel =>
        refine ⟨z + 1, by omega, ?_, HB4.out⟩
        have h := O4.out
        rw [← List.map_append, full_snoc] at h
        rw [show n + 1 + (z + 1) = L + 1 by omega]
        exact h
      case measure =>
        obtain ⟨g', cap', rfl, _⟩ := own_form O4.out (by omega)
        show 136 * m + 136 - (L + 1) < 136 * m + 136 - L
        omega
end Kk
end Go.Proofs.YtjbbecplkkkiiaaDoor
end
