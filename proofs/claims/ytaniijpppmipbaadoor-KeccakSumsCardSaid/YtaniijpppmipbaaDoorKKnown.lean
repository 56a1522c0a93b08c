/-
  The walk of the law KeccakKnown: it returns true. Condition: the table of turns lies in its variable.
-/
import Derived.Test.YtaniijpppmipbaaDoorKMade
import Derived.Test.YtaniijpppmipbaaDoorKNone
import Derived.Test.YtaniijpppmipbaaDoorKBack
namespace Go.Proofs.YtaniijpppmipbaaDoor
open Go.RowKit Go.Shelf
set_option linter.unusedVariables false
namespace Kk

theorem range_bel {w w' : World} {b : Nat} {Y : List Value} (h : w.rangeAt b 0 Y) (hb : Bel w w') (hl : b < w.heap.size) : w'.rangeAt b 0 Y :=
  fun i v hv => (Below.cell (p := ⟨b, 0 + i, none⟩) hb hl).trans (h i v hv)
theorem put32 (w : World) (Y : List Value) (hl : Y.length = 32) : ((w.alloc (.cells Z32l.toArray 31)).there w.heap.size 0 Y.toArray.size) ∧
    Bel w ((w.alloc (.cells Z32l.toArray 31)).setCells w.heap.size 0 Y) ∧ ((w.alloc (.cells Z32l.toArray 31)).setCells w.heap.size 0 Y).rangeAt w.heap.size 0 Y ∧ w.heap.size < ((w.alloc (.cells Z32l.toArray 31)).setCells w.heap.size 0 Y).heap.size := by
  have t : (w.alloc (.cells Z32l.toArray 31)).there w.heap.size 0 32 := there_newK (by decide)
  have e : Y.toArray.size = 32 := by rw [List.size_toArray]; exact hl
  refine ⟨by rw [e]; exact t, Kep.bel ((Bel.refl w).alloc _) (kep_setCellsK _ _ _ _) (fun i hi => by rw [hi]; exact Nat.le_refl _), World.rangeAt_setCells_same _ _ _ _ (by rw [hl]; exact t), by rw [size_setCells]; simp⟩

theorem rd_ok {s : ByteArray} {hs : List Int} {e : Ending} (h0 : ∀ i, i < 64 → 0 ≤ dvs s i) (h1 : rdB (dvs s) 64 = hs) (h : RdPost s e) : e = .returned (.tuple #[hsV hs, .int .i64 0]) := by
  rcases h with ⟨_, h⟩ | ⟨⟨i, hi, hn⟩, _⟩
  · rw [h, h1]
  · have := h0 i hi; omega
theorem rd_no {s : ByteArray} {e : Ending} {i : Nat} (hi : i < 64) (hn : dvs s i < 0) (h : RdPost s e) : e = .returned (.tuple #[hsV (List.replicate 32 0), .int .i64 5]) := by
  rcases h with ⟨h, _⟩ | ⟨_, h⟩
  · have := h i hi; omega
  · rw [h]; rfl
abbrev badS : ByteArray := ⟨(List.replicate 63 (48 : UInt8) ++ [65]).toArray⟩
theorem bad_eq : nought 63 ++ ⟨#[65]⟩ = badS := by
  show ByteArray.mk (List.replicate 63 (48 : UInt8)).toArray ++ ByteArray.mk [65].toArray = _
  rw [ByteArray.mk_append_mk]
theorem rd_nought (w : World) : Calls Tryd.prog 14 #[.string (nought 64)] w fun e w' => e = .returned (.tuple #[hsV (List.replicate 32 0), .int .i64 0]) ∧ Bel w w' :=
  (read_text (nought 64) w (nought_size 64)).mono fun e w' h => ⟨rd_ok (by decide +kernel) (by decide +kernel) h.1, h.2⟩
theorem rd_short (w : World) : Calls Tryd.prog 14 #[.string (nought 63)] w fun e w' => e = .returned (.tuple #[hsV (List.replicate 32 0), .int .i64 5]) ∧ Bel w w' :=
  read_len (nought 63) w (by rw [nought_size]; decide) (by rw [nought_size]; decide)
theorem rd_bad (w : World) : Calls Tryd.prog 14 #[.string badS] w fun e w' => e = .returned (.tuple #[hsV (List.replicate 32 0), .int .i64 5]) ∧ Bel w w' :=
  (read_text badS w (by decide +kernel)).mono fun e w' h => ⟨rd_no (i := 63) (by decide) (by decide +kernel) h.1, h.2⟩
theorem rd_abc (w : World) : Calls Tryd.prog 14 #[.string abcS] w fun e w' => e = .returned (.tuple #[hsV (sumOf [97, 98, 99]), .int .i64 0]) ∧ Bel w w' := by
  rw [← abc_text]
  exact read_back _ w (len_hashOf _) (by_hashOf _)

set_option maxRecDepth 100000 in
set_option maxHeartbeats 4000000 in
theorem knownLaw (w : World) (hT : Tn w) :
    Calls Tryd.prog 6 #[] w fun e w' => e = .returned (.bool true) ∧ Bel w w' := by
  have h0 : 0 < w.heap.size := hT.1
  have HT := Lib.hid hT
  have kc := fun (w : World) (C : Array Value) (n c : Nat) => Lib.run_convert_bytes_const (P := Tryd.prog) w 22 5 C n c Tryd.underlying22 Tryd.underlying5
  obtain ⟨Y, hY⟩ : ∃ Y, Y = (List.replicate 32 (0 : Int)).map B8 := ⟨_, rfl⟩
  obtain ⟨S, hS⟩ : ∃ S, S = (sumOf [97, 98, 99]).map B8 := ⟨_, rfl⟩
  have HYl := Lib.hid (show Y.length = 32 by rw [hY]; rfl)
  have HSl := Lib.hid (show S.length = 32 by rw [hS, List.length_map]; exact len_hashOf _)
  have HYo := Lib.hid (all_oneCell_toArray (cs := Y) (by rw [hY]; exact ints_b8 _))
  have HSo := Lib.hid (all_oneCell_toArray (cs := S) (by rw [hS]; exact ints_b8 _))
  have HYi2 := Lib.hid (show (Tryd.prog.info? 31).map (·.size) = some Y.length by rw [HYl.out]; exact info_hash)
  have HSi2 := Lib.hid (show (Tryd.prog.info? 31).map (·.size) = some S.length by rw [HSl.out]; exact info_hash)
  have HYi := Lib.hid (show (Tryd.prog.info? 31).map (·.size) = some Y.toArray.size by rw [List.size_toArray]; exact HYi2.out)
  have HSi := Lib.hid (show (Tryd.prog.info? 31).map (·.size) = some S.toArray.size by rw [List.size_toArray]; exact HSi2.out)
  have HYV := Lib.hid (show hsV (List.replicate 32 0) = .agg Y.toArray by rw [hY])
  have HSV := Lib.hid (show hsV (sumOf [97, 98, 99]) = .agg S.toArray by rw [hS])
  have HTX := Lib.hid (show ∀ w, Calls Tryd.prog 20 #[.agg S.toArray] w fun e w' => e = .returned (.string abcS) ∧ Bel w w' from fun w => by
    rw [← HSV.out, ← abc_text]; exact text (sumOf [97, 98, 99]) w (len_hashOf _) (by_hashOf _))
  have HRA := Lib.hid (show ∀ w, Calls Tryd.prog 14 #[.string abcS] w fun e w' => e = .returned (.tuple #[.agg S.toArray, .int .i64 0]) ∧ Bel w w' by rw [← HSV.out]; exact rd_abc)
  have eqY : ∀ w, (binOp .eql 31 (.agg Y.toArray) (.agg Z32l.toArray)).run Tryd.prog w = .ok (.bool true) w := by
    intro w
    rw [← HYV.out, z32_hs, eql_hs _ _ rfl rfl w]
    rfl
  have eqS : ∀ w, (binOp .eql 31 (.agg S.toArray) (.agg S.toArray)).run Tryd.prog w = .ok (.bool true) w := by
    intro w
    rw [← HSV.out, eql_hs (sumOf [97, 98, 99]) (sumOf [97, 98, 99]) (len_hashOf _) (len_hashOf _) w, beq_self_eq_true]
  have hadd : ∀ w, (Op.stringOp .add (nought 63) ⟨#[65]⟩).run Tryd.prog w = .ok (.string badS) w := fun w => by
    rw [run_string_add_sum w _ _ (by rw [nought_size]; decide), bad_eq]
  obtain ⟨bs, hbs⟩ : ∃ bs, bs = badS := ⟨_, rfl⟩
  rw [← hbs] at hadd
  have RB := Lib.hid (show ∀ w, Calls Tryd.prog 14 #[.string bs] w fun e w' => e = .returned (.tuple #[.agg Y.toArray, .int .i64 5]) ∧ Bel w w' by rw [hbs, ← HYV.out]; exact rd_bad)
  obtain ⟨n63, h63⟩ : ∃ n63, n63 = nought 63 := ⟨_, rfl⟩
  rw [← h63] at hadd
  have Z63 := Lib.hid (show ∀ w, Calls Tryd.prog 33 #[.int .i64 63] w fun e w' => e = .returned (.string n63) ∧ w = w' by rw [h63]; exact zeros 63 (by decide))
  have RS := Lib.hid (show ∀ w, Calls Tryd.prog 14 #[.string n63] w fun e w' => e = .returned (.tuple #[.agg Y.toArray, .int .i64 5]) ∧ Bel w w' by rw [h63, ← HYV.out]; exact rd_short)
  obtain ⟨n64, h64⟩ : ∃ n64, n64 = nought 64 := ⟨_, rfl⟩
  have Z64 := Lib.hid (show ∀ w, Calls Tryd.prog 33 #[.int .i64 64] w fun e w' => e = .returned (.string n64) ∧ w = w' by rw [h64]; exact zeros 64 (by decide))
  have RN := Lib.hid (show ∀ w, Calls Tryd.prog 14 #[.string n64] w fun e w' => e = .returned (.tuple #[.agg Y.toArray, .int .i64 0]) ∧ Bel w w' by rw [h64, ← HYV.out]; exact rd_nought)
  clear hY hS hT hbs h63 h64
  go_enter Tryd.func6, Tryd.ntmps6
  go_wp2_with fail
  refine (hNew _).mono ?_
  rintro e w1 ⟨b, hb, rfl, o1, k1⟩
  have HO := Lib.hid (show Ob w1 b [] from o1)
  have HB := Lib.hid (show Bel w w1 from k1)
  have HBb := Lib.hid (show w.heap.size ≤ b ∧ b ≠ 0 ∧ b < w1.heap.size from ⟨hb, by omega, o1.lt⟩)
  clear o1 k1 hb
  go_wp2_with fail
  have S1 : Src (w1.alloc (.cells [Value.int .u8 97].toArray 5 (1, 2))) (some ⟨w1.heap.size, 0, none⟩) 1 1 [97] := src_mark w1 [97] (1, 2) (fun z hz => abc_by z (by simp at hz ⊢; exact .inl hz)) (by decide)
  refine (hWrite b [] (some ⟨w1.heap.size, 0, none⟩) 1 1 [97] _ (HO.out.bel ((Bel.refl _).alloc _)) S1.ints S1.cap S1.max S1.by_ (fun x hx => by cases hx; have := HBb.out; show w1.heap.size ≠ b; omega) (HT.out.bel (HB.out.alloc _)) HBb.out.2.1 (by decide)).mono ?_
  rintro e w2 ⟨rfl, o2, k2⟩
  have HO2 := Lib.hid (show Ob w2 b [97] from o2)
  have HB2 := Lib.hid (show Bel w w2 from Kep.bel (HB.out.alloc _) k2 (fun i hi => by rw [hi]; exact HBb.out.1))
  have HBb2 := Lib.hid (show b < w2.heap.size from o2.lt)
  clear o2 k2 S1
  go_wp2_with fail
  have S1 : Src (w2.alloc (.cells [Value.int .u8 98, Value.int .u8 99].toArray 5 (2, 3))) (some ⟨w2.heap.size, 0, none⟩) 2 2 [98, 99] := src_mark w2 [98, 99] (2, 3) (fun z hz => abc_by z (by simp at hz ⊢; exact .inr hz)) (by decide)
  refine (hWrite b [97] (some ⟨w2.heap.size, 0, none⟩) 2 2 [98, 99] _ (HO2.out.bel ((Bel.refl _).alloc _)) S1.ints S1.cap S1.max S1.by_ (fun x hx => by cases hx; have := HBb2.out; show w2.heap.size ≠ b; omega) (HT.out.bel (HB2.out.alloc _)) HBb.out.2.1 (by decide)).mono ?_
  rintro e w3 ⟨rfl, o3, k3⟩
  have HO3 := Lib.hid (show Ob w3 b [97, 98, 99] from o3)
  have HB3 := Lib.hid (show Bel w w3 from Kep.bel (HB2.out.alloc _) k3 (fun i hi => by rw [hi]; exact HBb.out.1))
  clear o3 k3 S1
  go_wp2_with fail
  refine (hLen b [97, 98, 99] w3 HO3.out).mono ?_
  rintro e w' ⟨rfl, rfl⟩
  go_wp2_with fail
  refine (hSum b [97, 98, 99] w3 HO3.out (HT.out.bel HB3.out)).mono ?_
  rintro e w4 ⟨rfl, k4⟩
  rw [HSV.out]
  have HB4 := Lib.hid (show Bel w w4 from HB3.out.trans k4)
  obtain ⟨p1, p2, p3, p4⟩ := put32 w4 S HSl.out
  have TH := Lib.hid p1
  have H5 := Lib.hid (HB4.out.trans p2)
  have R5 := Lib.hid p3
  have L5 := Lib.hid p4
  clear p1 p2 p3 p4 k4
  go_wp2_with (refine wpList_store_mid rfl 31 (.tmp 3) (.tmp 34) rfl w4.heap.size 0 S.toArray rfl rfl TH.out HSi.out HSo.out ?_)
  obtain ⟨a3, ha3⟩ : ∃ a3, a3 = w4.heap.size := ⟨_, rfl⟩
  obtain ⟨w5, hw5⟩ : ∃ w5, (w4.alloc (.cells Z32l.toArray 31)).setCells w4.heap.size 0 S = w5 := ⟨_, rfl⟩
  rw [hw5] at H5 R5 L5 ⊢
  rw [← ha3] at R5 L5 ⊢
  clear hw5 ha3 TH
  refine (Z64.out _).mono ?_
  rintro e w' ⟨rfl, rfl⟩
  go_wp2_with fail
  refine (RN.out _).mono ?_
  rintro e w6 ⟨rfl, k6⟩
  have HB6 := Lib.hid (H5.out.trans k6)
  have R5x := Lib.hid (range_bel R5.out k6 L5.out)
  have L5x := Lib.hid (show a3 < w6.heap.size by have := L5.out; have := Below.size k6; omega)
  obtain ⟨p1, p2, p3, p4⟩ := put32 w6 Y HYl.out
  have TH := Lib.hid p1
  have H7 := Lib.hid (HB6.out.trans p2)
  have R7 := Lib.hid p3
  have L7 := Lib.hid p4
  have R5 := Lib.hid (range_bel R5x.out p2 L5x.out)
  have L5 := Lib.hid (show a3 < _ from Nat.lt_of_lt_of_le L5x.out (Below.size p2))
  clear p1 p2 p3 p4 k6
  go_wp2_with (refine wpList_store_mid rfl 31 (.tmp 5) (.tmp 39) rfl w6.heap.size 0 Y.toArray rfl rfl TH.out HYi.out HYo.out ?_)
  obtain ⟨a5, ha5⟩ : ∃ a5, a5 = w6.heap.size := ⟨_, rfl⟩
  obtain ⟨w7, hw7⟩ : ∃ w7, (w6.alloc (.cells Z32l.toArray 31)).setCells w6.heap.size 0 Y = w7 := ⟨_, rfl⟩
  rw [hw7] at H7 R7 L7 R5 L5 ⊢
  rw [← ha5] at R7 L7 ⊢
  clear hw7 ha5 TH
  refine (Z63.out _).mono ?_
  rintro e w' ⟨rfl, rfl⟩
  go_wp2_with fail
  refine (RS.out _).mono ?_
  rintro e w8 ⟨rfl, k8⟩
  have HB8 := Lib.hid (H7.out.trans k8)
  have R5x := Lib.hid (range_bel R5.out k8 L5.out)
  have L5x := Lib.hid (show a3 < w8.heap.size by have := L5.out; have := Below.size k8; omega)
  have R7x := Lib.hid (range_bel R7.out k8 L7.out)
  have L7x := Lib.hid (show a5 < w8.heap.size by have := L7.out; have := Below.size k8; omega)
  obtain ⟨p1, p2, p3, p4⟩ := put32 w8 Y HYl.out
  have TH := Lib.hid p1
  have H9 := Lib.hid (HB8.out.trans p2)
  have R9 := Lib.hid p3
  have L9 := Lib.hid p4
  have R5 := Lib.hid (range_bel R5x.out p2 L5x.out)
  have L5 := Lib.hid (show a3 < _ from Nat.lt_of_lt_of_le L5x.out (Below.size p2))
  have R7 := Lib.hid (range_bel R7x.out p2 L7x.out)
  have L7 := Lib.hid (show a5 < _ from Nat.lt_of_lt_of_le L7x.out (Below.size p2))
  clear p1 p2 p3 p4 k8
  go_wp2_with (refine wpList_store_mid rfl 31 (.tmp 7) (.tmp 44) rfl w8.heap.size 0 Y.toArray rfl rfl TH.out HYi.out HYo.out ?_)
  obtain ⟨a7, ha7⟩ : ∃ a7, a7 = w8.heap.size := ⟨_, rfl⟩
  obtain ⟨w9, hw9⟩ : ∃ w9, (w8.alloc (.cells Z32l.toArray 31)).setCells w8.heap.size 0 Y = w9 := ⟨_, rfl⟩
  rw [hw9] at H9 R9 L9 R5 L5 R7 L7 ⊢
  rw [← ha7] at R9 L9 ⊢
  clear hw9 ha7 TH
  refine (Z63.out _).mono ?_
  rintro e w' ⟨rfl, rfl⟩
  go_wp2_with fail
  refine (RB.out _).mono ?_
  rintro e w10 ⟨rfl, k10⟩
  have HB10 := Lib.hid (H9.out.trans k10)
  have R5x := Lib.hid (range_bel R5.out k10 L5.out)
  have L5x := Lib.hid (show a3 < w10.heap.size by have := L5.out; have := Below.size k10; omega)
  have R7x := Lib.hid (range_bel R7.out k10 L7.out)
  have L7x := Lib.hid (show a5 < w10.heap.size by have := L7.out; have := Below.size k10; omega)
  obtain ⟨p1, p2, p3, p4⟩ := put32 w10 Y HYl.out
  have TH := Lib.hid p1
  have H11 := Lib.hid (HB10.out.trans p2)
  have R11 := Lib.hid p3
  have L11 := Lib.hid p4
  have R5 := Lib.hid (range_bel R5x.out p2 L5x.out)
  have L5 := Lib.hid (show a3 < _ from Nat.lt_of_lt_of_le L5x.out (Below.size p2))
  have R7 := Lib.hid (range_bel R7x.out p2 L7x.out)
  have L7 := Lib.hid (show a5 < _ from Nat.lt_of_lt_of_le L7x.out (Below.size p2))
  clear p1 p2 p3 p4 k10
  go_wp2_with (refine wpList_store_mid rfl 31 (.tmp 9) (.tmp 50) rfl w10.heap.size 0 Y.toArray rfl rfl TH.out HYi.out HYo.out ?_)
  obtain ⟨a9, ha9⟩ : ∃ a9, a9 = w10.heap.size := ⟨_, rfl⟩
  obtain ⟨w11, hw11⟩ : ∃ w11, (w10.alloc (.cells Z32l.toArray 31)).setCells w10.heap.size 0 Y = w11 := ⟨_, rfl⟩
  rw [hw11] at H11 R11 L11 R5 L5 R7 L7 ⊢
  rw [← ha9] at R11 L11 ⊢
  clear hw11 ha9 TH
  refine (HRA.out _).mono ?_
  rintro e w12 ⟨rfl, k12⟩
  have HB12 := Lib.hid (H11.out.trans k12)
  have R5x := Lib.hid (range_bel R5.out k12 L5.out)
  have L5x := Lib.hid (show a3 < w12.heap.size by have := L5.out; have := Below.size k12; omega)
  have R7x := Lib.hid (range_bel R7.out k12 L7.out)
  have L7x := Lib.hid (show a5 < w12.heap.size by have := L7.out; have := Below.size k12; omega)
  obtain ⟨p1, p2, p3, p4⟩ := put32 w12 S HSl.out
  have TH := Lib.hid p1
  have H13 := Lib.hid (HB12.out.trans p2)
  have R13 := Lib.hid p3
  have L13 := Lib.hid p4
  have R5 := Lib.hid (range_bel R5x.out p2 L5x.out)
  have L5 := Lib.hid (show a3 < _ from Nat.lt_of_lt_of_le L5x.out (Below.size p2))
  have R7 := Lib.hid (range_bel R7x.out p2 L7x.out)
  have L7 := Lib.hid (show a5 < _ from Nat.lt_of_lt_of_le L7x.out (Below.size p2))
  clear p1 p2 p3 p4 k12
  go_wp2_with (refine wpList_store_mid rfl 31 (.tmp 11) (.tmp 54) rfl w12.heap.size 0 S.toArray rfl rfl TH.out HSi.out HSo.out ?_)
  obtain ⟨a11, ha11⟩ : ∃ a11, a11 = w12.heap.size := ⟨_, rfl⟩
  obtain ⟨w13, hw13⟩ : ∃ w13, (w12.alloc (.cells Z32l.toArray 31)).setCells w12.heap.size 0 S = w13 := ⟨_, rfl⟩
  rw [hw13] at H13 R13 L13 R5 L5 R7 L7 ⊢
  rw [← ha11] at R13 L13 ⊢
  clear hw13 ha11 TH
  refine (awake _ (HT.out.bel H13.out)).mono ?_
  rintro e w14 ⟨rfl, k14⟩
  have H14 := Lib.hid (H13.out.trans k14)
  have RA := Lib.hid (range_bel R5.out k14 L5.out)
  have RC := Lib.hid (range_bel R7.out k14 L7.out)
  have RD := Lib.hid (range_bel R13.out k14 L13.out)
  have LA := Lib.hid (show a3 < w14.heap.size by have := L5.out; have := Below.size k14; omega)
  have LC := Lib.hid (show a5 < w14.heap.size by have := L7.out; have := Below.size k14; omega)
  have LD := Lib.hid (show a11 < w14.heap.size by have := L13.out; have := Below.size k14; omega)
  clear k14
  go_wp2_with (refine wpList_load_guarded (by rfl) 31 (.tmp 3) rfl a3 0 rfl S _ RA.out Tryd.underlying31 rfl HSi2.out ?_)
  refine (HTX.out _).mono ?_
  rintro e w15 ⟨rfl, k15⟩
  have H15 := Lib.hid (H14.out.trans k15)
  have RA2 := Lib.hid (range_bel RA.out k15 LA.out)
  have RC2 := Lib.hid (range_bel RC.out k15 LC.out)
  have RD2 := Lib.hid (range_bel RD.out k15 LD.out)
  clear k15
  go_wp2_with (first | (refine wpList_load_guarded (by rfl) 31 (.tmp 3) rfl a3 0 rfl S _ RA2.out Tryd.underlying31 rfl HSi2.out ?_) | (refine wpList_load_guarded (by rfl) 31 (.tmp 5) rfl a5 0 rfl Y _ RC2.out Tryd.underlying31 rfl HYi2.out ?_) | (refine wpList_load_guarded (by rfl) 31 (.tmp 11) rfl a11 0 rfl S _ RD2.out Tryd.underlying31 rfl HSi2.out ?_))
  go_ret
  exact ⟨rfl, H15.out⟩
end Kk
end Go.Proofs.YtaniijpppmipbaaDoor
