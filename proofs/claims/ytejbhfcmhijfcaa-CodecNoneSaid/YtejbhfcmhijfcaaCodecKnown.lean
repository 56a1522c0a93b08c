/-
  The walk of the law CodecKnown: the chapter's examples are answered as it says. No condition.
-/
import Derived.Test.YtejbhfcmhijfcaaReader6
import Derived.Test.YtejbhfcmhijfcaaWriter2
import Derived.Lib.SlBytesConst
import Derived.Lib.SmallJoins
namespace Go.Proofs.Ytejbhfcmhijfcaa
open Go.RowKit Go.Shelf
set_option linter.unusedVariables false
namespace Cd

theorem enc_127 : enc 127 = [127] := by decide
theorem enc_128 : enc 128 = [128, 1] := by decide
theorem enc_max : (enc 18446744073709551615).length = 10 := by decide
theorem enc_5 : enc 5 = [5] := by decide
theorem enc_2 : enc 2 = [2] := by decide
theorem enc_1 : enc 1 = [1] := by decide
theorem way_80 : Way [128] 0 0 0 6 0 := .inr (.inl ⟨0, rfl, by decide, rfl, rfl, rfl, .inl ⟨rfl, by decide, by intro i h; match i, h with | 0, _ => decide⟩⟩)
theorem way_out : Way [0] 2 0 0 3 0 := .inl ⟨.inr (by decide), rfl, rfl, rfl, rfl⟩
theorem way_nine : Way [255, 255, 255, 255, 255, 255, 255, 255, 255, 2] 0 0 0 5 0 := .inr (.inl ⟨0, rfl, by decide, rfl, rfl, rfl, .inr (.inr ⟨rfl, 9, by decide, by decide, by decide, by decide, by decide, .inr ⟨rfl, by decide⟩⟩)⟩)
theorem bytes_128 : Bytes [128] := bytes_of (by decide)
theorem bytes_0 : Bytes [0] := bytes_of (by decide)
theorem bytes_nine : Bytes [255, 255, 255, 255, 255, 255, 255, 255, 255, 2] := bytes_of (by decide)
abbrev ex : List Int := [5, 2, 97, 98, 1]
theorem bytes_ex : Bytes ex := bytes_of (by decide)
theorem rn_0 : RN ex 0 none 0 9 5 1 none := .inr ⟨rfl, 1, 0, 0, ⟨5, 1, 0, 0, .inr (.inr ⟨0, 0, rfl, by decide, by decide, by intro i h; omega, by decide, by decide, by decide, by decide, rfl, rfl, rfl⟩), by decide, by decide, .inr (.inr ⟨rfl, by decide, by decide, rfl, rfl, rfl, rfl⟩)⟩, .inl ⟨rfl, rfl, rfl⟩, by decide, by decide⟩
theorem rb_1 : RB ex 1 none 9 [97, 98] 4 none := .inr ⟨rfl, 4, 0, 0, ⟨2, 2, 0, 0, .inr (.inr ⟨1, 0, rfl, by decide, by decide, by intro i h; omega, by decide, by decide, by decide, by decide, rfl, rfl, rfl⟩), by decide, by decide, .inr (.inr (.inr ⟨2, 2, rfl, rfl, by decide, rfl, by decide, by decide, rfl, rfl, rfl, rfl⟩))⟩, .inl ⟨rfl, rfl, rfl⟩, by decide, by decide⟩
theorem rn_4 : RN ex 4 none 2 9 0 4 (some (3, 4)) := .inr ⟨rfl, 0, 3, 4, ⟨1, 5, 0, 0, .inr (.inr ⟨4, 0, rfl, by decide, by decide, by intro i h; omega, by decide, by decide, by decide, by decide, rfl, rfl, rfl⟩), by decide, by decide, .inr (.inl ⟨rfl, .inl (by decide), rfl, rfl, rfl, rfl⟩)⟩, .inr ⟨by decide, rfl, rfl⟩, by decide, fun _ => rfl⟩
theorem ru_4 : RU ex 4 (some (3, 4)) 0 4 (some (3, 4)) := .inl ⟨_, rfl, rfl, rfl, rfl⟩

theorem sl_lit1 (w : World) (o : Obj) (zs : List Int) : Sl ((w.alloc o).alloc (.cells (zs.map (Value.int .u8)).toArray 5)) (some ⟨w.heap.size + 1, 0, none⟩) zs.length zs.length zs := by
  have h := sl_lit (w.alloc o) zs
  rwa [World.size_alloc] at h

theorem sl_mark (w : World) (zs : List Int) (fr : Nat × Nat) : Sl (w.alloc (.cells (zs.map (Value.int .u8)).toArray 5 fr)) (some ⟨w.heap.size, 0, none⟩) zs.length zs.length zs := by
  refine ⟨⟨rfl, fun hn => ⟨w.heap.size, 0, rfl, by simp, fun i hi => ?_⟩⟩, Nat.le_refl _, fun h => by cases h⟩
  rw [Nat.zero_add, World.cell?_alloc_mark, List.getElem?_toArray, List.getElem?_map, List.getElem?_eq_getElem hi, getD_eq _ _ hi]
  rfl

/-- A writer's call keeps what was there ahead of the writer. -/
theorem step_bel {w w1 w2 : World} {b : Nat} {L : Int} {v : Value} {err : Int} {out : List Int} {base : Nat} (hb : Bel w w1) (h : WS w1 b L v err out base) (h1 : w.heap.size ≤ b) (h2 : w.heap.size ≤ base) (hk : Kep (Own2 b v) w1 w2) : Bel w w2 :=
  Kep.bel hb hk (fun k hs => by
    rcases hs with rfl | hs
    · exact h1
    · exact Nat.le_trans h2 (h.row.lt k hs).1)
theorem after_ok {w : World} {b : Nat} {L r : Int} {out more : List Int} {base : Nat} (h : After w b L r out more base) (hf : ((out ++ more).length : Int) ≤ L) : r = 0 ∧ ∃ v, WS w b L v 0 (out ++ more) base := by
  rcases h with ⟨h1, _, h3⟩ | ⟨h1, h2, _⟩
  · exact ⟨h1, h3⟩
  · omega
theorem after_long {w : World} {b : Nat} {L r : Int} {out more : List Int} {base : Nat} (h : After w b L r out more base) (hf : L < ((out ++ more).length : Int)) : r = 4 ∧ WS w b L (.slice none 0 0) 4 [] base := by
  rcases h with ⟨h1, h2, _⟩ | ⟨h1, _, h3⟩
  · omega
  · exact ⟨h1, h3⟩

set_option maxRecDepth 100000 in
set_option maxHeartbeats 4000000 in
theorem known (w : World) : Calls Try.prog 6 #[] w fun e w' => e = .returned (.bool true) ∧ Bel w w' := by
  have SZ := Lib.hid (fun w' => size 18446744073709551615 w' (by decide) (by decide))
  rw [enc_max] at SZ
  have kc := fun (w : World) (C : Array Value) (n c : Nat) => Lib.run_convert_bytes_const (P := Try.prog) w 23 5 C n c Try.underlying23 Try.underlying5
  go_enter Try.func6, Try.ntmps6
  go_wp2_with fail
  have hnine := Lib.hid (sl_lit w [255, 255, 255, 255, 255, 255, 255, 255, 255, 2])
  have B0 := Lib.hid ((Bel.refl w).alloc (.cells #[.int .u8 255, .int .u8 255, .int .u8 255, .int .u8 255, .int .u8 255, .int .u8 255, .int .u8 255, .int .u8 255, .int .u8 255, .int .u8 2] 5))
  refine (puts 127 _ 1 1 _ (by decide) (by decide) (by rw [enc_127]; exact (sl_lit1 _ _ [127]).ints)).mono ?_
  rintro e w1 ⟨rfl, h1⟩
  have N1 := Lib.hid (hnine.out.bel (((Bel.refl _).alloc _).trans h1))
  have b1 : Bel w w1 := (B0.out.alloc _).trans h1
  clear h1
  go_wp2_with fail
  refine (puts 128 _ 2 2 _ (by decide) (by decide) (by rw [enc_128]; exact (sl_lit w1 [128, 1]).ints)).mono ?_
  rintro e w2 ⟨rfl, h2⟩
  have N2 := Lib.hid (N1.out.bel (((Bel.refl _).alloc _).trans h2))
  have b2 : Bel w w2 := (b1.alloc _).trans h2
  clear h2 b1
  go_wp2_with fail
  refine (SZ.out _).mono ?_
  rintro e w3 ⟨rfl, h3⟩
  have h3 : Bel w2 w3 := h3
  have N3 := Lib.hid (N2.out.bel h3)
  have b3 : Bel w w3 := b2.trans h3
  clear h3 b2
  go_wp2_with fail
  refine (gets _ 1 1 [128] 0 0 0 6 0 _ (sl_lit w3 [128]).ints (by decide) bytes_128 (by decide) way_80).mono ?_
  rintro e w4 ⟨rfl, h4⟩
  have N4 := Lib.hid (N3.out.bel (((Bel.refl _).alloc _).trans h4))
  have b4 : Bel w w4 := (b3.alloc _).trans h4
  clear h4 b3
  go_wp2_with fail
  refine (gets _ 1 1 [0] 2 0 0 3 0 _ (sl_lit w4 [0]).ints (by decide) bytes_0 (by decide) way_out).mono ?_
  rintro e w5 ⟨rfl, h5⟩
  have N5 := Lib.hid (N4.out.bel (((Bel.refl _).alloc _).trans h5))
  have b5 : Bel w w5 := (b4.alloc _).trans h5
  clear h5 b4
  go_wp2_with fail
  refine (gets _ 10 10 _ 0 0 0 5 0 _ N5.out.ints (by decide) bytes_nine (by decide) way_nine).mono ?_
  rintro e w6 ⟨rfl, h6⟩
  have b6 : Bel w w6 := b5.trans h6
  clear h6 b5 N1 N2 N3 N4 N5 hnine B0 SZ
  go_wp2_with fail
  refine (newWriter 5 _ (by decide) (by decide)).mono ?_
  rintro e w7 ⟨rfl, hws, h7⟩
  have b7 : Bel w w7 := b6.trans h7
  have hbw : w.heap.size ≤ w6.heap.size := Below.size b6
  generalize hbb : w6.heap.size = b at *
  have W0 := Lib.hid hws
  have HBW := Lib.hid hbw
  clear hws h7 hbb b6 hbw
  go_wp2_with fail
  refine (wN b 5 _ _ _ 5 _ W0.out (by decide) (by decide)).mono ?_
  rintro e w8 ⟨r, rfl, ha, hk⟩
  obtain ⟨rfl, v1, hws⟩ := after_ok ha (by rw [enc_5]; decide)
  rw [enc_5] at hws
  have b8 : Bel w w8 := step_bel b7 W0.out HBW.out HBW.out hk
  have W1 := Lib.hid hws
  clear ha hk hws b7 W0
  go_wp2_with fail
  have b8' := b8.alloc (.cells #[.int .u8 97, .int .u8 98] 5 (2, 3))
  refine (wBlob b 5 v1 _ _ _ 2 2 [97, 98] _ (W1.out.bel ((Bel.refl _).alloc _)) (sl_mark w8 [97, 98] (2, 3)) (by decide) (fun x hx => by
    injection hx with hx
    subst hx
    have h1 := W1.out.blk.lt
    exact ⟨by show w8.heap.size ≠ b; omega, fun e => Nat.lt_irrefl _ (W1.out.row_lt _ e)⟩)).mono ?_
  rintro e w9 ⟨r, rfl, ha, hk⟩
  obtain ⟨rfl, v2, hws⟩ := after_ok ha (by rw [show enc ((2 : Nat) : Int) = [2] from enc_2]; decide)
  rw [show enc ((2 : Nat) : Int) = [2] from enc_2] at hws
  have b9 : Bel w w9 := step_bel b8' (W1.out.bel ((Bel.refl _).alloc _)) HBW.out HBW.out hk
  have W2 := Lib.hid hws
  clear ha hk hws b8 b8' W1
  go_wp2_with fail
  refine (wU b 5 v2 _ _ 1 _ W2.out (by decide) (by decide)).mono ?_
  rintro e w10 ⟨r, rfl, ha, hk⟩
  obtain ⟨rfl, v3, hws⟩ := after_ok ha (by rw [enc_1]; decide)
  rw [enc_1] at hws
  have b10 : Bel w w10 := step_bel b9 W2.out HBW.out HBW.out hk
  have W3 := Lib.hid hws
  clear ha hk hws b9 W2
  go_wp2_with fail
  refine (wU b 5 v3 _ _ 1 _ W3.out (by decide) (by decide)).mono ?_
  rintro e w11 ⟨r, rfl, ha, hk⟩
  obtain ⟨rfl, hws⟩ := after_long ha (by rw [enc_1]; decide)
  have b11 : Bel w w11 := step_bel b10 W3.out HBW.out HBW.out hk
  have W4 := Lib.hid hws
  clear ha hk hws b10 W3
  go_wp2_with fail
  refine (wdone_err b 5 _ 4 _ _ _ W4.out (by decide)).mono ?_
  rintro e w12 ⟨rfl, rfl⟩
  go_wp2_with fail
  refine (newReader _ 5 5 ex _ (sl_lit w11 ex) (by decide) bytes_ex).mono ?_
  rintro e w13 ⟨d, A, c, rfl, hd, hrs, hA, h13⟩
  have R0 : Hid (RS w13 d ex 0 none) := ⟨A, 5, c, none, hrs, .inl ⟨rfl, rfl⟩⟩
  have b13 : Bel w w13 := (b11.alloc _).trans h13
  have hd' : w.heap.size ≤ d := Nat.le_trans (Below.size (b11.alloc _)) hd
  clear hrs hA h13 b11 hd W4
  go_wp2_with fail
  refine (rN d ex 0 none 0 9 5 1 none _ R0.out rn_0 (by decide)).mono ?_
  rintro e w14 ⟨rfl, hr, hk⟩
  have R1 := Lib.hid hr
  have b14 : Bel w w14 := Kep.bel b13 hk (fun i hi => by rw [hi]; exact hd')
  clear hr hk b13 R0
  go_wp2_with fail
  refine (rB d ex 1 none 9 [97, 98] 4 none _ R1.out rb_1 (by decide)).mono ?_
  rintro e w15 ⟨v, rfl, ho, hr, hk⟩
  obtain ⟨A', c', hv, hs⟩ := sl_of_own ho
  subst hv
  have HS := Lib.hid hs
  have R2 := Lib.hid hr
  have b15 : Bel w w15 := Kep.bel b14 hk (fun i hi => by rw [hi]; exact hd')
  clear hr hk b14 R1 ho hs
  go_wp2_with fail
  refine (same A' _ 2 c' 2 2 [97, 98] _ (HS.out.bel ((Bel.refl _).alloc _)).ints (sl_mark w15 [97, 98] (2, 3)).ints).mono ?_
  rintro e w16 ⟨rfl, rfl⟩
  have b16 := b15.alloc (.cells #[.int .u8 97, .int .u8 98] 5 (2, 3))
  have R3 := Lib.hid (R2.out.bel ((Bel.refl w15).alloc (.cells #[.int .u8 97, .int .u8 98] 5 (2, 3))))
  clear b15 R2 HS
  go_wp2_with fail
  refine (rAt d ex 4 none _ R3.out).mono ?_
  rintro e w16 ⟨rfl, rfl⟩
  have ea : atOf 4 none = 4 := rfl
  go_wp2_with fail
  refine (rLeft d ex 4 none _ R3.out).mono ?_
  rintro e w17 ⟨rfl, h17⟩
  have el : leftOf ex.length 4 none = 1 := by decide
  rw [el]
  have R4 := Lib.hid (R3.out.bel h17)
  have b17 : Bel w w17 := b16.trans h17
  clear h17 b16 R3 el ea
  go_wp2_with fail
  refine (rN d ex 4 none 2 9 0 4 (some (3, 4)) _ R4.out rn_4 (by decide)).mono ?_
  rintro e w18 ⟨rfl, hr, hk⟩
  have R5 := Lib.hid hr
  have b18 : Bel w w18 := Kep.bel b17 hk (fun i hi => by rw [hi]; exact hd')
  clear hr hk b17 R4
  go_wp2_with fail
  refine (rEnd d ex 4 (some (3, 4)) _ R5.out).mono ?_
  rintro e w19 ⟨rfl, h19⟩
  have R6 := Lib.hid (R5.out.bel h19)
  have b19 : Bel w w19 := b18.trans h19
  rw [show endOf ex.length 4 (some (3, 4)) = (3, 4) from rfl]
  clear h19 b18 R5
  go_wp2_with fail
  refine (rU d ex 4 (some (3, 4)) 0 4 (some (3, 4)) _ R6.out ru_4).mono ?_
  rintro e w20 ⟨rfl, hr, hk⟩
  have b20 : Bel w w20 := Kep.bel b19 hk (fun i hi => by rw [hi]; exact hd')
  clear hr hk b19 R6
  go_wp2_with fail
  refine (awake _).mono ?_
  rintro e w21 ⟨rfl, h21⟩
  have b21 : Bel w w21 := b20.trans h21
  clear h21 b20
  go_wp2
  go_ret
  exact ⟨rfl, b21⟩
end Cd
end Go.Proofs.Ytejbhfcmhijfcaa
