/-
  Texts of hashes: what is read of a hash's text is the hash, and the text of what is read is the text.
-/
import Derived.Test.YtaniijpppmipbaaDoorKZeros
namespace Go.Proofs.YtaniijpppmipbaaDoor
open Go.RowKit Go.Shelf
set_option linter.unusedVariables false
namespace Kk

theorem hex_at : ∀ (hs : List Int) (i : Nat), i < hs.length → (hex hs).getD (2 * i) 0 = dg (hs.getD i 0 / 16) ∧ (hex hs).getD (2 * i + 1) 0 = dg (hs.getD i 0 % 16)
  | [], i, h => absurd h (Nat.not_lt_zero _)
  | z :: hs, 0, _ => ⟨rfl, rfl⟩
  | z :: hs, i + 1, h => by
    have ih := hex_at hs i (by simpa using h)
    have e : hex (z :: hs) = dg (z / 16) :: dg (z % 16) :: hex hs := rfl
    rw [e, show 2 * (i + 1) = 2 * i + 1 + 1 by omega]
    exact ih
theorem asU8_at (xs : List Int) (i : Nat) : (asU8 xs).getD i 0 = UInt8.ofNat (xs.getD i 0).toNat := by
  unfold asU8
  rw [List.getD_eq_getElem?_getD, List.getD_eq_getElem?_getD, List.getElem?_map]
  cases xs[i]? <;> rfl
theorem dv_dg {d : Int} (h0 : 0 ≤ d) (h1 : d < 16) : dv (UInt8.ofNat (dg d).toNat) = d := by
  obtain ⟨n, rfl⟩ := Int.eq_ofNat_of_zero_le h0
  have : ∀ m : Fin 16, dv (UInt8.ofNat (dg ((m.1 : Nat) : Int)).toNat) = ((m.1 : Nat) : Int) := by decide +kernel
  exact this ⟨n, by omega⟩
theorem dg_dv (c : UInt8) (h : 0 ≤ dv c) : UInt8.ofNat (dg (dv c)).toNat = c := by
  have : ∀ m : Fin 256, 0 ≤ dv (UInt8.ofNat m.1) → UInt8.ofNat (dg (dv (UInt8.ofNat m.1))).toNat = UInt8.ofNat m.1 := by decide +kernel
  have e := this ⟨c.toNat, c.toNat_lt⟩
  rw [show UInt8.ofNat c.toNat = c from UInt8.ofNat_toNat] at e
  exact e h
theorem dvs_hex {hs : List Int} (hb : By hs) (hl : hs.length = 32) {i : Nat} (hi : i < 32) :
    dvs ⟨(asU8 (hex hs)).toArray⟩ (2 * i) = hs.getD i 0 / 16 ∧ dvs ⟨(asU8 (hex hs)).toArray⟩ (2 * i + 1) = hs.getD i 0 % 16 := by
  obtain ⟨b0, b1⟩ := hb.at i
  obtain ⟨e1, e2⟩ := hex_at hs i (by omega)
  constructor
  · show dv ((asU8 (hex hs)).getD (2 * i) 0) = _
    rw [asU8_at, e1, dv_dg (by omega) (by omega)]
  · show dv ((asU8 (hex hs)).getD (2 * i + 1) 0) = _
    rw [asU8_at, e2, dv_dg (by omega) (by omega)]
theorem hex_ok {hs : List Int} (hb : By hs) (hl : hs.length = 32) (i : Nat) (hi : i < 64) : 0 ≤ dvs ⟨(asU8 (hex hs)).toArray⟩ i := by
  obtain ⟨e1, e2⟩ := dvs_hex hb hl (i := i / 2) (by omega)
  obtain ⟨b0, b1⟩ := hb.at (i / 2)
  obtain h | h : i % 2 = 0 ∨ i % 2 = 1 := by omega
  · rw [show 2 * (i / 2) = i by omega] at e1; omega
  · rw [show 2 * (i / 2) + 1 = i by omega] at e2; omega
theorem hex_read {hs : List Int} (hb : By hs) (hl : hs.length = 32) : rdB (dvs ⟨(asU8 (hex hs)).toArray⟩) 64 = hs := by
  apply List.ext_getElem (by rw [rdB_len, hl])
  intro i h1 h2
  obtain ⟨e1, e2⟩ := dvs_hex hb hl (i := i) (by omega)
  obtain ⟨b0, b1⟩ := hb.at i
  simp only [rdB, List.getElem_map, List.getElem_range]
  unfold rdE
  rw [if_pos (by omega), e1, e2, getD_eq _ _ h2]
  omega
theorem hex_size (hs : List Int) (hl : hs.length = 32) : (⟨(asU8 (hex hs)).toArray⟩ : ByteArray).size = 64 := by
  show (asU8 (hex hs)).toArray.size = 64
  rw [List.size_toArray, asU8, List.length_map, hex_len, hl]
theorem by_rdB {ds : Nat → Int} (h : ∀ i, i < 64 → 0 ≤ ds i ∧ ds i < 16) : By (rdB ds 64) := fun z hz => by
  obtain ⟨i, hi, rfl⟩ := List.mem_map.1 hz
  have hi := List.mem_range.1 hi
  unfold rdE
  rw [if_pos (by omega)]
  obtain ⟨a, b⟩ := h (2 * i) (by omega)
  obtain ⟨c, d⟩ := h (2 * i + 1) (by omega)
  exact ⟨by omega, by omega⟩
/-- The text of what is read. -/
theorem read_hex (s : ByteArray) (hl : s.size = 64) (h : ∀ i, i < 64 → 0 ≤ dvs s i) : (⟨(asU8 (hex (rdB (dvs s) 64))).toArray⟩ : ByteArray) = s := by
  have hb : ∀ i, i < 64 → 0 ≤ dvs s i ∧ dvs s i < 16 := fun i hi => ⟨h i hi, (dv_bd _).2⟩
  have hl2 : s.data.toList.length = 64 := by rw [Array.length_toList]; exact hl
  apply ByteArray.ext
  apply Array.ext'
  rw [List.toList_toArray]
  apply List.ext_getElem (by rw [asU8, List.length_map, hex_len, rdB_len, hl2])
  intro i h1 h2
  have hi : i < 64 := by omega
  have e0 : (asU8 (hex (rdB (dvs s) 64)))[i] = (asU8 (hex (rdB (dvs s) 64))).getD i 0 := by rw [List.getD_eq_getElem?_getD, List.getElem?_eq_getElem h1]; rfl
  have e9 : s.data.toList.getD i 0 = s.data.toList[i] := by rw [List.getD_eq_getElem?_getD, List.getElem?_eq_getElem h2]; rfl
  obtain ⟨e1, e2⟩ := hex_at (rdB (dvs s) 64) (i / 2) (by rw [rdB_len]; omega)
  have hg : (rdB (dvs s) 64).getD (i / 2) 0 = 16 * dvs s (2 * (i / 2)) + dvs s (2 * (i / 2) + 1) := by
    rw [getD_eq _ _ (by rw [rdB_len]; omega)]
    simp only [rdB, List.getElem_map, List.getElem_range]
    unfold rdE
    rw [if_pos (by omega)]
  obtain ⟨a, b⟩ := hb (2 * (i / 2)) (by omega)
  obtain ⟨c, d⟩ := hb (2 * (i / 2) + 1) (by omega)
  rw [hg] at e1 e2
  refine e0.trans (Eq.trans ?_ e9)
  rw [asU8_at]
  obtain h | h : i % 2 = 0 ∨ i % 2 = 1 := by omega
  · have q : 2 * (i / 2) = i := by omega
    rw [q] at e1 a b
    rw [e1, show (16 * dvs s i + dvs s (i + 1)) / 16 = dvs s i by rw [q] at c d; omega]
    exact dg_dv _ a
  · have q : 2 * (i / 2) + 1 = i := by omega
    rw [q] at e2 c d
    rw [e2, show (16 * dvs s (2 * (i / 2)) + dvs s i) % 16 = dvs s i by omega]
    exact dg_dv _ c
theorem hex_inj {xs ys : List Int} (hx : By xs) (hy : By ys) (lx : xs.length = 32) (ly : ys.length = 32) (h : (⟨(asU8 (hex xs)).toArray⟩ : ByteArray) = ⟨(asU8 (hex ys)).toArray⟩) : xs = ys := by
  rw [← hex_read hx lx, h, hex_read hy ly]
theorem read_back (hs : List Int) (w : World) (hl : hs.length = 32) (hb : By hs) : Calls Tryd.prog 14 #[.string ⟨(asU8 (hex hs)).toArray⟩] w fun e w' => e = .returned (.tuple #[hsV hs, .int .i64 0]) ∧ Bel w w' :=
  (read_text _ w (hex_size hs hl)).mono fun e w' h => ⟨by
    rcases h.1 with ⟨_, h⟩ | ⟨⟨i, hi, hn⟩, _⟩
    · rw [h, hex_read hb hl]
    · have := hex_ok hb hl i hi; omega, h.2⟩
end Kk
end Go.Proofs.YtaniijpppmipbaaDoor
