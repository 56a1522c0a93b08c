/-
  How the reference ends bytes, and what its sum is: the hash that was defined. No condition.
-/
import Derived.Test.YtaniijpppmipbaaDoorKObj
import Derived.Test.YtaniijpppmipbaaDoorQPerm
import Derived.Test.YtaniijpppmipbaaDoorQWord
namespace Go.Proofs.YtaniijpppmipbaaDoor
open Go.RowKit Go.Shelf
set_option linter.unusedVariables false
namespace Kk

def full (zs : List Int) (z : Nat) : List Int := zs ++ 6 :: List.replicate z 0
theorem len_full (zs : List Int) (z : Nat) : (full zs z).length = zs.length + 1 + z := by simp [full]; omega
theorem full_snoc (zs : List Int) (z : Nat) : full zs z ++ [0] = full zs (z + 1) := by
  unfold full
  rw [List.append_assoc, List.cons_append, List.replicate_succ']
theorem by_full {zs : List Int} (h : By zs) (z : Nat) : By (full zs z) := h.append (fun x hx => by
  rcases List.mem_cons.1 hx with rfl | hx
  · exact ⟨by decide, by decide⟩
  · rw [List.eq_of_mem_replicate hx]; exact ⟨by decide, by decide⟩)
/-- The whole of bytes as they are gone through. -/
def padAll (zs : List Int) : List Int :=
  (full zs (135 - zs.length % 136)).set (136 * (zs.length / 136) + 135) (bits .xor .u8 ((full zs (135 - zs.length % 136)).getD (136 * (zs.length / 136) + 135) 0) 128)
theorem len_padAll (zs : List Int) : (padAll zs).length = 136 * (zs.length / 136 + 1) := by
  unfold padAll
  rw [List.length_set, len_full]
  omega
theorem by_padAll {zs : List Int} (h : By zs) : By (padAll zs) := by_set (by_full h _) _ (bits_u8 _ _ _)
theorem padAll_eq (zs : List Int) : padAll zs = zs.take (136 * (zs.length / 136)) ++ pad (zs.drop (136 * (zs.length / 136))) := by
  obtain ⟨m, hm⟩ : ∃ m, zs.length / 136 = m := ⟨_, rfl⟩
  have hl : (zs.take (136 * m)).length = 136 * m := by rw [List.length_take]; omega
  have hr : (zs.drop (136 * m)).length = zs.length % 136 := by rw [List.length_drop]; omega
  have e : full zs (135 - zs.length % 136) = zs.take (136 * m) ++ ended (zs.drop (136 * m)) := by
    unfold full ended
    rw [hr, ← List.append_assoc, List.take_append_drop]
  have hg : ∀ E : List Int, (zs.take (136 * m) ++ E).getD (136 * m + 135) 0 = E.getD 135 0 := fun E => by
    rw [List.getD_eq_getElem?_getD, List.getElem?_append_right (by omega), hl, Nat.add_sub_cancel_left, ← List.getD_eq_getElem?_getD]
  unfold padAll pad
  rw [hm, e, hg, List.set_append_right _ _ (by omega), hl, Nat.add_sub_cancel_left]
theorem stN_pad (zs : List Int) : stN (padAll zs) (zs.length / 136 + 1) = lastSt zs := by
  obtain ⟨m, hm⟩ : ∃ m, zs.length / 136 = m := ⟨_, rfl⟩
  have hl : (zs.take (136 * m)).length = 136 * m := by rw [List.length_take]; omega
  have hr : (zs.drop (136 * m)).length < 136 := by rw [List.length_drop]; omega
  have hp : (pad (zs.drop (136 * m))).length = 136 := by unfold pad; rw [List.length_set, len_ended hr]
  have hz : stN zs m = stN (zs.take (136 * m)) m := by
    conv => lhs; rw [← List.take_append_drop (136 * m) zs]
    exact stN_append _ _ _ (by omega)
  unfold lastSt
  rw [padAll_eq, hm]
  show absorbed (stN (zs.take (136 * m) ++ pad (zs.drop (136 * m))) m) (((zs.take (136 * m) ++ pad (zs.drop (136 * m))).drop (136 * m)).take 136) = _
  rw [stN_append _ _ _ (by omega), ← hz, List.drop_append_of_le_length (by omega), List.drop_of_length_le (by omega), List.nil_append, List.take_of_length_le (by omega)]

/-- The cells of a hash behind n bytes. -/
def outN (H : List Int) (n : Nat) : List Value := (List.range 32).map fun i => if i < n then B8 (H.getD i 0) else B8 0
theorem outN_len (H : List Int) (n : Nat) : (outN H n).length = 32 := by simp [outN]
theorem outN_0 (H : List Int) : outN H 0 = Z32l := by
  unfold outN
  simp only [Nat.not_lt_zero, if_false]
  rfl
theorem outN_32 {H : List Int} (h : H.length = 32) : outN H 32 = H.map B8 := by
  unfold outN
  apply List.ext_getElem (by simp [h])
  intro i h1 h2
  have hi : i < 32 := by simpa using h1
  simp [hi, List.getElem?_eq_getElem (show i < H.length by omega)]
theorem outN_set (H : List Int) {n : Nat} (h : n < 32) : (outN H n).toArray.setIfInBounds n (.int .u8 (H.getD n 0)) = (outN H (n + 1)).toArray := by
  rw [List.setIfInBounds_toArray]
  congr 1
  unfold outN
  apply List.ext_getElem (by simp)
  intro i h1 h2
  simp only [List.getElem_set, List.getElem_map, List.getElem_range]
  by_cases h : n = i
  · subst h; simp
  · rw [if_neg h]
    by_cases h3 : i < n
    · rw [if_pos h3, if_pos (by omega)]
    · rw [if_neg h3, if_neg (by omega)]
theorem outN_at (H : List Int) (n : Nat) {i : Nat} (h : i < 32) : ∃ v, (outN H n).toArray[i]? = some (.int .u8 v) := by
  unfold outN
  rw [List.getElem?_toArray, List.getElem?_map, List.getElem?_range h]
  by_cases h2 : i < n
  · exact ⟨_, by simp [h2]; rfl⟩
  · exact ⟨0, by simp [h2]⟩
theorem hash_at (S : List Wd) {k i : Nat} (hk : k < 4) (hi : i < 8) : (hashOf S).getD (8 * k + i) 0 = (bytesOf (g S k)).getD i 0 := by
  have l := fun x => len_bytesOf x
  unfold hashOf
  simp only [List.getD_eq_getElem?_getD]
  match k, hk with
  | 0, _ => rw [List.getElem?_append_left (by rw [l]; omega)]; simp
  | 1, _ => rw [List.getElem?_append_right (by rw [l]; omega), List.getElem?_append_left (by rw [l, l]; omega), l, show 8 * 1 + i - 8 = i by omega]
  | 2, _ => rw [List.getElem?_append_right (by rw [l]; omega), List.getElem?_append_right (by rw [l, l]; omega), List.getElem?_append_left (by rw [l, l, l]; omega), l, l, show 8 * 2 + i - 8 - 8 = i by omega]
  | 3, _ => rw [List.getElem?_append_right (by rw [l]; omega), List.getElem?_append_right (by rw [l, l]; omega), List.getElem?_append_right (by rw [l, l, l]; omega), l, l, l, show 8 * 3 + i - 8 - 8 - 8 = i by omega]
end Kk
end Go.Proofs.YtaniijpppmipbaaDoor
