/-
  The law JournalKnown returns true, and changes nothing that was there. No condition.
-/
import Derived.Test.YtogphhhlbofgkaaJn16
namespace Go.Proofs.Ytogphhhlbofgkaa
open Go.RowKit Go.Shelf Go.Maps
set_option linter.unusedVariables false
namespace Jn
open Kk Pm Bk

set_option maxRecDepth 100000 in
set_option maxHeartbeats 4000000 in
theorem known (w : World) : Calls Try.prog 6 #[] w fun e w' => e = .returned (.bool true) ∧ Bel w w' := by
  have BG := Lib.hid (begun w)
  go_enter Try.func6, Try.ntmps6
  go_wp2_with fail
  refine BG.out.mono ?_
  rintro e w1 ⟨pj, rfl, h1⟩
  have C1 := Lib.hid (opens h1 1 rfl (by decide))
  clear h1
  go_wp2_with fail
  refine C1.out.mono ?_
  rintro e w2 ⟨rfl, h2⟩
  have C2 := Lib.hid (opens h2 2 rfl (by decide))
  clear h2
  go_wp2_with fail
  refine C2.out.mono ?_
  rintro e w3 ⟨rfl, h3⟩
  have C3 := Lib.hid (moveN h3 0 2 9 0 [0, 5, 9] (touch (touch [([9, 5, 0], T0), ([9, 5, 0], T0)] 0) 2) (by decide) (by decide) (by decide) rfl rfl rfl)
  clear h3
  go_wp2_with fail
  refine C3.out.mono ?_
  rintro e w4 ⟨rfl, h4⟩
  have C4 := Lib.hid (moveN h4 0 2 1 13 [0, 5, 9] (touch (touch [([9, 5, 0], T0), ([9, 5, 0], T0)] 0) 2) (by decide) (by decide) (by decide) rfl rfl rfl)
  clear h4
  go_wp2_with fail
  refine C4.out.mono ?_
  rintro e w5 ⟨rfl, h5⟩
  have C5 := Lib.hid (moveN h5 1 1 0 2 [0, 5, 9] (touch (touch [([9, 5, 0], T0), ([9, 5, 0], T0)] 0) 2) (by decide) (by decide) (by decide) rfl rfl rfl)
  clear h5
  go_wp2_with fail
  refine C5.out.mono ?_
  rintro e w6 ⟨rfl, h6⟩
  have C6 := Lib.hid (backN h6 3 3 [0, 5, 9] (touch (touch [([9, 5, 0], T0), ([9, 5, 0], T0)] 0) 2) rfl rfl rfl)
  clear h6
  go_wp2_with fail
  refine C6.out.mono ?_
  rintro e w7 ⟨rfl, h7⟩
  have C7 := Lib.hid (backN h7 0 0 [9, 5, 0] [] rfl rfl rfl)
  clear h7
  go_wp2_with fail
  refine C7.out.mono ?_
  rintro e w8 ⟨rfl, h8⟩
  have D8 := Lib.hid (depthN h8 0 rfl)
  have H8 := Lib.hid h8
  clear h8
  go_wp2_with fail
  refine D8.out.mono ?_
  rintro e w9 ⟨rfl, rfl⟩
  have CE := Lib.hid (cellsN H8.out)
  go_wp2_with fail
  refine CE.out.mono ?_
  rintro e wa ⟨A8, c8, rfl, hi8, hb8⟩
  have SW := Lib.hid (sameW A8 (some ⟨wa.heap.size, 0, none⟩) 3 c8 3 3 [9, 5, 0] [9, 5, 0] (wa.alloc (.cells #[.int .u64 9, .int .u64 5, .int .u64 0] 31)) (hi8.bel (bel_alloc _ _)) (ints_lit .u64 wa [9, 5, 0] 31) (by decide) (by decide))
  have HA := Lib.hid ((H8.out.bel hb8).bel (bel_alloc wa (.cells #[.int .u64 9, .int .u64 5, .int .u64 0] 31)))
  clear hi8 hb8
  go_wp2_with fail
  refine SW.out.mono ?_
  rintro e wb ⟨rfl, hbb⟩
  have h9 := HA.out.bel hbb
  clear hbb
  have C9 := Lib.hid (getN h9 3 0 3 rfl rfl)
  clear h9
  go_wp2_with fail
  refine C9.out.mono ?_
  rintro e w10 ⟨rfl, h10⟩
  have C10 := Lib.hid (setN h10 (-1) 0 3 [9, 5, 0] [] (by decide) (by decide) rfl rfl rfl)
  clear h10
  go_wp2_with fail
  refine C10.out.mono ?_
  rintro e w11 ⟨rfl, h11⟩
  have C11 := Lib.hid (subN h11 1 6 13 [9, 5, 0] [] (by decide) (by decide) rfl rfl rfl)
  clear h11
  go_wp2_with fail
  refine C11.out.mono ?_
  rintro e w12 ⟨rfl, h12⟩
  have C12 := Lib.hid (setN h12 2 18446744073709551615 0 [9, 5, 18446744073709551615] [] (by decide) (by decide) rfl rfl rfl)
  clear h12
  go_wp2_with fail
  refine C12.out.mono ?_
  rintro e w13 ⟨rfl, h13⟩
  have C13 := Lib.hid (addN h13 2 1 12 [9, 5, 18446744073709551615] [] (by decide) (by decide) rfl rfl rfl)
  clear h13
  go_wp2_with fail
  refine C13.out.mono ?_
  rintro e w14 ⟨rfl, h14⟩
  have C14 := Lib.hid (moveN h14 0 2 1 12 [9, 5, 18446744073709551615] [] (by decide) (by decide) (by decide) rfl rfl rfl)
  clear h14
  go_wp2_with fail
  refine C14.out.mono ?_
  rintro e w15 ⟨rfl, h15⟩
  have C15 := Lib.hid (getN h15 0 9 0 rfl rfl)
  clear h15
  go_wp2_with fail
  refine C15.out.mono ?_
  rintro e w16 ⟨rfl, h16⟩
  have HN := Lib.hid h16
  have N0 := Lib.hid (fun W => new_no 0 W (by decide))
  have N1 := Lib.hid (fun W => new_no 4097 W (by decide))
  clear h16
  go_wp2_with fail
  refine (N0.out _).mono ?_
  rintro e wc ⟨rfl, rfl⟩
  go_wp2_with fail
  refine (N1.out _).mono ?_
  rintro e wc ⟨rfl, rfl⟩
  go_wp2_with fail
  refine (get0 (.pointer none) 0 _ (null_nil _)).mono ?_
  rintro e wd ⟨rfl, hbd⟩
  have HD := Lib.hid (HN.out.bel hbd)
  clear hbd
  go_wp2_with fail
  go_loopw [15, 16] (fun s i wr => ∃ (k : Nat) (L : List Lv), k ≤ 64 ∧ L.length = k ∧ s = .bool true ∧ i = .int .i64 ((k : Int) + 1) ∧ Nw w wr pj [9, 5, 18446744073709551615] L) (fun _ i _ => 70 - (iv i).toNat)
  case atStart => exact ⟨0, [], by decide, rfl, rfl, rfl, HD.out⟩
  case round =>
    obtain ⟨k, L, hk, hl, rfl, rfl, hj⟩ := hrel
    by_cases hlt : k < 64
    · have OP := Lib.hid (opens hj (k + 1) (by rw [hl]) (by rw [hl]; exact hlt))
      have HL := Lib.hid hl
      have hk2 : (k : Int) < 64 := by omega
      have hk3 : (k : Int) + 1 ≤ 64 := by omega
      have OP2 := Lib.hid (show Calls Try.prog 30 #[.pointer (some ⟨pj, 0, none⟩), .int .i64 ((k : Int) + 1)] wr fun e w' => e = .returned (.bool true) ∧ Nw w w' pj [9, 5, 18446744073709551615] (([9, 5, 18446744073709551615], fun _ => false) :: L) from OP.out)
      clear hl hj OP
      go_wp2_with fail
      refine OP2.out.mono ?_
      rintro e w2 ⟨rfl, hj⟩
      have HJ := Lib.hid hj
      clear hj
      go_wp2
      go_roundw
      case rel => exact ⟨k + 1, _, by omega, by rw [List.length_cons, HL.out], rfl, by go_num, HJ.out⟩
      case measure => simp [iv]; omega
    · obtain rfl : k = 64 := by omega
      have BN := Lib.hid (begNw hj 0 7 L (by unfold begN; rw [hl]; rfl) (by unfold begE; rw [hl]; rfl) (by unfold begL; rw [hl]; rfl))
      clear hl hj
      go_wp2_with fail
      refine BN.out.mono ?_
      rintro e w2 ⟨rfl, hj⟩
      have HJ := Lib.hid hj
      have AW := Lib.hid (awake w2)
      clear hj
      go_wp2_with fail
      refine AW.out.mono ?_
      rintro e w3 ⟨rfl, hb3⟩
      have HB := Lib.hid (HJ.out.belw.trans hb3)
      clear hb3
      go_wp2
      go_ret
      exact ⟨rfl, HB.out⟩
end Jn
end Go.Proofs.Ytogphhhlbofgkaa
