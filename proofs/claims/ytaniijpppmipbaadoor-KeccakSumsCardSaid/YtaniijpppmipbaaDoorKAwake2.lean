/-
  The walk of awake: it returns true. Condition: the table of turns lies in its variable.
-/
import Derived.Test.YtaniijpppmipbaaDoorKAwake
import Derived.Lib.SlBytesConst
namespace Go.Proofs.YtaniijpppmipbaaDoor
open Go.RowKit Go.Shelf
set_option linter.unusedVariables false
namespace Kk

abbrev noneS : ByteArray := ⟨#[97, 55, 102, 102, 99, 54, 102, 56, 98, 102, 49, 101, 100, 55, 54, 54, 53, 49, 99, 49, 52, 55, 53, 54, 97, 48, 54, 49, 100, 54, 54, 50, 102, 53, 56, 48, 102, 102, 52, 100, 101, 52, 51, 98, 52, 57, 102, 97, 56, 50, 100, 56, 48, 97, 52, 98, 56, 48, 102, 56, 52, 51, 52, 97]⟩
abbrev abcS : ByteArray := ⟨#[51, 97, 57, 56, 53, 100, 97, 55, 52, 102, 101, 50, 50, 53, 98, 50, 48, 52, 53, 99, 49, 55, 50, 100, 54, 98, 100, 51, 57, 48, 98, 100, 56, 53, 53, 102, 48, 56, 54, 101, 51, 101, 57, 100, 53, 50, 53, 98, 52, 54, 98, 102, 101, 50, 52, 53, 49, 49, 52, 51, 49, 53, 51, 50]⟩
theorem none_text : (⟨(asU8 (hex (sumOf []))).toArray⟩ : ByteArray) = noneS := by rw [sum_none]; rfl
theorem abc_text : (⟨(asU8 (hex (sumOf [97, 98, 99]))).toArray⟩ : ByteArray) = abcS := by rw [sum_abc]; rfl
theorem src_nil (w : World) : Src w none 0 0 [] := ⟨Ints.nil_, Nat.le_refl _, Nat.zero_le _, fun z hz => by cases hz⟩
theorem abc_by : By [97, 98, 99] := fun z hz => by
  simp at hz
  rcases hz with rfl | rfl | rfl <;> exact ⟨by decide, by decide⟩
theorem src_lit (w : World) (zs : List Int) (h : By zs) (hl : zs.length ≤ 1000) : Src (w.alloc (.cells (zs.map (Value.int .u8)).toArray 5)) (some ⟨w.heap.size, 0, none⟩) zs.length zs.length zs :=
  ⟨(sl_lit w zs).ints, Nat.le_refl _, by unfold maxLen; omega, h⟩

theorem ints_mark (w : World) (zs : List Int) (fr : Nat × Nat) : Ints .u8 (w.alloc (.cells (zs.map (Value.int .u8)).toArray 5 fr)) (some ⟨w.heap.size, 0, none⟩) zs.length zs := by
  refine ⟨rfl, fun hn => ⟨w.heap.size, 0, rfl, by simp, fun i hi => ?_⟩⟩
  rw [Nat.zero_add, World.cell?_alloc_mark, List.getElem?_toArray, List.getElem?_map, List.getElem?_eq_getElem hi, getD_eq _ _ hi]
  rfl
theorem src_mark (w : World) (zs : List Int) (fr : Nat × Nat) (h : By zs) (hl : zs.length ≤ 1000) : Src (w.alloc (.cells (zs.map (Value.int .u8)).toArray 5 fr)) (some ⟨w.heap.size, 0, none⟩) zs.length zs.length zs :=
  ⟨ints_mark w zs fr, Nat.le_refl _, by unfold maxLen; omega, h⟩

theorem build25 (w : World) : (Instr.build 25 #[]).run Tryd.prog w = .ok (.agg (zero.map V).toArray) w := by kernel_rfl

set_option maxRecDepth 100000 in
set_option maxHeartbeats 2000000 in
theorem awake (w : World) (hT : Tn w) : Calls Tryd.prog 11 #[] w fun e w' => e = .returned (.bool true) ∧ Bel w w' := by
  have h0 := hT.1
  have HT := Lib.hid hT
  have PZ := Lib.hid (show ∀ w', Bel w w' → Calls Tryd.prog 22 #[.agg (zero.map V).toArray] w' fun e w2 => e = .returned (.agg ((perm zero).map V).toArray) ∧ Bel w' w2 from fun w' hb => permute zero w' len_zero (hT.bel hb))
  have kc := fun (w : World) (C : Array Value) (n c : Nat) => Lib.run_convert_bytes_const (P := Tryd.prog) w 22 5 C n c Tryd.underlying22 Tryd.underlying5
  clear hT
  go_enter Tryd.func11, Tryd.ntmps11
  go_wp2_with fail
  refine (PZ.out _ (Bel.refl _)).mono ?_
  rintro e w1 ⟨rfl, h1⟩
  obtain ⟨D, hD⟩ : ∃ D, D = (perm zero).map V := ⟨_, rfl⟩
  rw [← hD]
  have HDl := Lib.hid (show D.length = 25 by rw [hD, List.length_map, len_perm len_zero])
  have HDs := Lib.hid (show D.toArray.size = 25 by rw [List.size_toArray]; exact HDl.out)
  have HDo := Lib.hid (all_oneCell_toArray (cs := D) (by rw [hD]; exact ints1 _))
  have HDi := Lib.hid (show (Tryd.prog.info? 25).map (·.size) = some D.toArray.size by rw [HDs.out]; kernel_rfl)
  have TD := Lib.hid (show (w1.alloc Z25w).there w1.heap.size 0 D.toArray.size by rw [HDs.out]; exact there_newK (by decide))
  have H1 : Bel w w1 := h1
  have H2 := Lib.hid (show Bel w ((w1.alloc Z25w).setCells w1.heap.size 0 D) from Kep.bel (H1.alloc _) (kep_setCellsK _ _ _ _) (fun i hi => by rw [hi]; exact Below.size H1))
  have R2 := Lib.hid (show ((w1.alloc Z25w).setCells w1.heap.size 0 D).rangeAt w1.heap.size 0 D from World.rangeAt_setCells_same _ _ _ _ (by have := TD.out; rw [HDs.out] at this; rw [HDl.out]; exact this))
  have LB := Lib.hid (show w1.heap.size < ((w1.alloc Z25w).setCells w1.heap.size 0 D).heap.size by rw [size_setCells]; simp)
  have D0 := Lib.hid (show D[0]? = some (.int .u64 (U 0xf1258f7940e1dde7#64)) by rw [hD, perm_zero]; rfl)
  have D24 := Lib.hid (show D[24]? = some (.int .u64 (U 0xeaf1ff7b5ceca249#64)) by rw [hD, perm_zero]; rfl)
  clear h1 hD H1
  go_wp2_with (refine wpList_store_mid rfl 25 (.tmp 1) (.tmp 3) rfl w1.heap.size 0 D.toArray rfl rfl TD.out HDi.out HDo.out ?_)
  obtain ⟨w2, hw2⟩ : ∃ w2, (w1.alloc Z25w).setCells w1.heap.size 0 D = w2 := ⟨_, rfl⟩
  rw [hw2] at H2 R2 LB ⊢
  obtain ⟨b, hb⟩ : ∃ b, b = w1.heap.size := ⟨_, rfl⟩
  rw [← hb] at R2 LB ⊢
  clear hw2 hb TD
  refine (hashSum none 0 0 [] w2 (src_nil w2) (fun x hx => by cases hx) (by omega) (HT.out.bel H2.out)).mono ?_
  rintro e w3 ⟨rfl, h3⟩
  have H3 := Lib.hid (H2.out.trans h3)
  have H23 := Lib.hid h3
  clear h3
  go_wp2_with fail
  refine (text (sumOf []) w3 (len_hashOf _) (by_hashOf _)).mono ?_
  rintro e w4 ⟨rfl, h4⟩
  rw [none_text]
  have H4 := Lib.hid (H3.out.trans h4)
  have H24 := Lib.hid (H23.out.trans h4)
  clear h4
  go_wp2_with fail
  refine (hashSum (some ⟨w4.heap.size, 0, none⟩) 3 3 [97, 98, 99] _ (src_mark w4 [97, 98, 99] (3, 4) abc_by (by decide)) (fun x hx => by cases hx; simp) (by omega) (HT.out.bel (H4.out.alloc _))).mono ?_
  rintro e w5 ⟨rfl, h5⟩
  have H5 := Lib.hid ((H4.out.alloc _).trans h5)
  have H25 := Lib.hid ((H24.out.alloc _).trans h5)
  clear h5
  go_wp2_with fail
  refine (text (sumOf [97, 98, 99]) w5 (len_hashOf _) (by_hashOf _)).mono ?_
  rintro e w6 ⟨rfl, h6⟩
  rw [abc_text]
  have H6 := Lib.hid (H5.out.trans h6)
  have H26 := Lib.hid (H25.out.trans h6)
  have c0 : w6.cell? ⟨b, 0, none⟩ = some (.int .u64 17376452488221285863) := (Below.cell (p := ⟨b, 0, none⟩) H26.out LB.out).trans (R2.out 0 _ D0.out)
  have c24 : w6.cell? ⟨b, 24, none⟩ = some (.int .u64 16929593379567477321) := (Below.cell (p := ⟨b, 24, none⟩) H26.out LB.out).trans (R2.out 24 _ D24.out)
  clear h6
  go_wp2
  go_ret
  exact ⟨rfl, H6.out⟩
end Kk
end Go.Proofs.YtaniijpppmipbaaDoor
