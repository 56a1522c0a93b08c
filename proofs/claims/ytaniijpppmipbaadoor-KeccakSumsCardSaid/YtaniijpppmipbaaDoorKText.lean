/-
  What Text answers in this program: a hash in hexadecimal digits. Condition: bytes.
-/
import Derived.Test.YtaniijpppmipbaaDoorKBld
namespace Go.Proofs.YtaniijpppmipbaaDoor
open Go.RowKit Go.Shelf
set_option linter.unusedVariables false
namespace Kk

/-- The sign of a digit, and the signs of bytes. -/
def dg (d : Int) : Int := if d < 10 then 48 + d else 87 + d
def hexB (z : Int) : List Int := [dg (z / 16), dg (z % 16)]
def hex (zs : List Int) : List Int := zs.flatMap hexB
theorem hex_snoc (zs : List Int) (z : Int) : hex (zs ++ [z]) = (hex zs ++ [dg (z / 16)]) ++ [dg (z % 16)] := by simp [hex, hexB]
theorem hex_len (zs : List Int) : (hex zs).length = 2 * zs.length := by
  induction zs with
  | nil => rfl
  | cons z zs ih => simp [hex, hexB] at ih ⊢; omega
def asU8 (zs : List Int) : List UInt8 := zs.map fun z => UInt8.ofNat z.toNat
theorem and15 {k : Int} (h0 : 0 ≤ k) (h1 : k ≤ 255) : bits .and .u8 k 15 = k % 16 := by
  obtain ⟨n, rfl⟩ := Int.eq_ofNat_of_zero_le h0
  have hn : n < 256 := by omega
  have : ∀ m : Fin 256, bits .and .u8 ((m.1 : Nat) : Int) 15 = ((m.1 : Nat) : Int) % 16 := by decide +kernel
  exact this ⟨n, hn⟩
abbrev digits : ByteArray := ⟨#[48, 49, 50, 51, 52, 53, 54, 55, 56, 57, 97, 98, 99, 100, 101, 102]⟩
theorem dg_at (d : Int) (h0 : 0 ≤ d) (h1 : d < 16) (w : World) : (Instr.index 9 (.string digits) (.int .u8 d)).run Tryd.prog w = .ok (.int .u8 (dg d)) w := by
  obtain ⟨n, rfl⟩ := Int.eq_ofNat_of_zero_le h0
  have hn : n < 16 := by omega
  have e : ∀ m : Fin 16, (digits[m.1]?).map (fun b => (b.toNat : Int)) = some (dg ((m.1 : Nat) : Int)) := by decide
  have e2 := e ⟨n, hn⟩
  obtain ⟨b, hb, hb2⟩ := Option.map_eq_some_iff.1 e2
  simp at hb hb2
  simp [Instr.index, run_underlying Tryd.underlying9, asIntOf, hb, hb2]

theorem idx_hash (cs : Array Value) (i : Nat) (v : Value) (hi : i < 32) (hv : cs[i]? = some v) (w : World) :
    (Instr.index 31 (.agg cs) (.int .i64 (i : Int))).run Tryd.prog w = .ok v w := by
  have hn : 0 ≤ (i : Int) ∧ (i : Int) < ((32 : Nat) : Int) := by omega
  have ha : ∀ w, (isAgg 5).run Tryd.prog w = .ok false w := Tryd.isAgg5
  have hs : ∀ w, (sizeOf 5).run Tryd.prog w = .ok 1 w := Tryd.sizeOf5
  simp [Instr.index, run_underlying Tryd.underlying31, asIntOf, hn, part, ha, hs, hv]
  intro h; omega
theorem dg_bd {d : Int} (h0 : 0 ≤ d) (h1 : d < 16) : 0 ≤ dg d ∧ dg d ≤ 255 := by
  unfold dg
  by_cases h : d < 10
  · rw [if_pos h]; omega
  · rw [if_neg h]; omega
theorem by_hex {zs : List Int} (h : By zs) : By (hex zs) := fun x hx => by
  obtain ⟨z, hz, hx2⟩ := List.mem_flatMap.1 hx
  obtain ⟨z0, z1⟩ := h z hz
  simp only [hexB, List.mem_cons, List.not_mem_nil, or_false] at hx2
  rcases hx2 with rfl | rfl
  · exact dg_bd (by omega) (by omega)
  · exact dg_bd (by omega) (by omega)
theorem u8_back {x : Int} (h0 : 0 ≤ x) (h1 : x ≤ 255) : ((UInt8.ofNat x.toNat).toNat : Int) = x := by
  have e : (UInt8.ofNat x.toNat).toNat = x.toNat := UInt8.toNat_ofNat_of_lt' (by show x.toNat < 256; omega)
  rw [e]
  omega
theorem cells_by {zs : List Int} (h : By zs) : Lib.byteCells (asU8 zs) = zs.map B8 := by
  unfold Lib.byteCells asU8
  rw [List.map_map]
  apply List.map_congr_left
  intro x hx
  obtain ⟨h0, h1⟩ := h x hx
  simp only [Function.comp]
  rw [u8_back h0 h1]
theorem cells_hex (zs : List Int) (h : By zs) : Lib.byteCells (asU8 (hex zs)) = (hex zs).map B8 := cells_by (by_hex h)

set_option maxRecDepth 100000 in
set_option maxHeartbeats 2000000 in
theorem text (hs : List Int) (w : World) (hl : hs.length = 32) (hb : By hs) :
    Calls Tryd.prog 20 #[hsV hs] w fun e w' => e = .returned (.string ⟨(asU8 (hex hs)).toArray⟩) ∧ Bel w w' := by
  obtain ⟨D, hD⟩ : ∃ D, D = hs.map B8 := ⟨_, rfl⟩
  rw [show hsV hs = .agg D.toArray by rw [hD]]
  have HDl := Lib.hid (show D.length = 32 by rw [hD, List.length_map]; exact hl)
  have HDi := Lib.hid (show (Tryd.prog.info? 31).map (·.size) = some D.length by rw [HDl.out]; exact info_hash)
  have HDg := Lib.hid (show ∀ i, i < 32 → D.toArray[i]? = some (.int .u8 (hs.getD i 0)) from fun i hi => by
    rw [hD, List.getElem?_toArray, List.getElem?_map, List.getD_eq_getElem?_getD, List.getElem?_eq_getElem (by omega)]; rfl)
  have HBY := Lib.hid hb
  have HL := Lib.hid hl
  obtain ⟨W, hW⟩ : ∃ W, (w.alloc (.cells D.toArray 31)).alloc (.cells #[.pointer none, .slice none 0 0] 80) = W := ⟨_, rfl⟩
  obtain ⟨h, hh⟩ : ∃ h, h = w.heap.size := ⟨_, rfl⟩
  have RD := Lib.hid (show W.rangeAt h 0 D by rw [← hW, hh]; exact blk_range ((Blk.new w _ _).alloc _))
  have B0 := Lib.hid (show Bld (h + 1) (h + 1) [] W by
    have := Lib.fresh_isBuilder 80 5 (w.alloc (.cells D.toArray 31))
    rw [World.size_alloc, ← hh, hW] at this
    exact this)
  have BW := Lib.hid (show Bel w W by rw [← hW]; exact ((Bel.refl w).alloc _).alloc _)
  have SW := Lib.hid (show h + 1 ≤ W.heap.size by rw [← hW, hh]; simp)
  have HW := Lib.hid hW
  have HH := Lib.hid hh
  clear hD hW hh hb
  go_enter Tryd.func20, Tryd.ntmps20
  go_upto_region 2 with fail
  rw [HW.out, ← HH.out]
  go_wp2_with (refine wpList_load_mid rfl 31 (.tmp 1) rfl h 0 rfl D _ RD.out Tryd.underlying31 rfl HDi.out ?_)
  go_loopw [7] (fun i wr => ∃ k : Nat, i = .int .i64 k ∧ k ≤ 32 ∧ Bld (h + 1) (h + 1) (hex (hs.take k)) wr ∧ Below (h + 1) W wr) (fun i _ => 32 - (intOf i).toNat)
  case atStart => exact ⟨0, rfl, by omega, B0.out, Below.refl _ _⟩
  case round =>
    obtain ⟨k, rfl, hk, hs1, hbl⟩ := hrel
    have HS := Lib.hid hs1
    have HB := Lib.hid hbl
    have hsz : h + 1 ≤ wr.heap.size := by have := SW.out; have := hbl.size; omega
    have hlen : (hex (hs.take k)).length ≤ 64 := by rw [hex_len]; simp; omega
    by_cases hlt : k < 32
    · have hz := HDg.out k hlt
      obtain ⟨z0, z1⟩ := HBY.out.at k
      have HX := Lib.hid (show hex (hs.take (k + 1)) = (hex (hs.take k) ++ [dg (hs.getD k 0 / 16)]) ++ [dg (hs.getD k 0 % 16)] by
        rw [← hex_snoc, List.take_succ_eq_append_getElem (by rw [HL.out]; exact hlt), getD_eq _ _ (by rw [HL.out]; exact hlt)])
      generalize hs.getD k 0 = z at *
      have ix := fun w => idx_hash D.toArray k (.int .u8 z) hlt hz w
      have d1 := dg_at (z / 16) (by omega) (by omega)
      have d2 := dg_at (z % 16) (by omega) (by omega)
      have a15 := and15 z0 z1
      clear hs1 hbl hz
      go_wp2_with fail
      refine (writeByte (h + 1) (h + 1) _ (dg (z / 16)) _ HS.out (by omega) hsz).mono ?_
      rintro e w2 ⟨rfl, h2, k2⟩
      have HS2 := Lib.hid (show Bld (h + 1) (h + 1) (hex (hs.take k) ++ [dg (z / 16)]) w2 from .inr h2)
      have HB2 := Lib.hid (HB.out.trans k2)
      have hsz2 : h + 1 ≤ w2.heap.size := by have := k2.size; omega
      have hlen2 : (hex (hs.take k) ++ [dg (z / 16)]).length ≤ 65 := by simp; omega
      have HLN := Lib.hid hlen2
      clear h2 k2 HS HB hlen hlen2
      go_wp2_with fail
      refine (writeByte (h + 1) (h + 1) _ (dg (z % 16)) _ HS2.out (by have := HLN.out; omega) hsz2).mono ?_
      rintro e w3 ⟨rfl, h3, k3⟩
      have HS3 := Lib.hid (show Bld (h + 1) (h + 1) (hex (hs.take (k + 1))) w3 by rw [HX.out]; exact .inr h3)
      have HB3 := Lib.hid (HB2.out.trans k3)
      clear h3 k3 HS2 HB2
      go_wp2
      go_roundw
      case rel => exact ⟨k + 1, by go_num, by omega, HS3.out, HB3.out⟩
      case measure => simp [intOf] <;> omega
    · obtain rfl : k = 32 := by omega
      have HF := Lib.hid (show Lib.IsBuilder 80 5 (h + 1) (h + 1) (Lib.byteCells (asU8 (hex hs))) wr by
        rw [cells_hex hs HBY.out]
        have := HS.out
        rw [List.take_of_length_le (by rw [HL.out]; exact Nat.le_refl _)] at this
        exact this)
      clear hs1 hbl HS
      go_wp2_with fail
      refine (Tryd.Builder_String_any (h + 1) (h + 1) (asU8 (hex hs)) wr HF.out hsz).mono ?_
      rintro e w4 ⟨rfl, k4⟩
      have HB4 := Lib.hid (show Bel w w4 from Below.trans BW.out (Below.mono (HB.out.trans k4) (by rw [← HH.out]; omega)))
      clear k4
      go_wp2
      go_ret
      exact ⟨rfl, HB4.out⟩
end Kk
end Go.Proofs.YtaniijpppmipbaaDoor
