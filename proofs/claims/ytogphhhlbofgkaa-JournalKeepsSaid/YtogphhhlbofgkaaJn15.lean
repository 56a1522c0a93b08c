/-
  awake returns true, and changes nothing that was there. No condition.
-/
import Derived.Test.YtogphhhlbofgkaaJn14
namespace Go.Proofs.Ytogphhhlbofgkaa
open Go.RowKit Go.Shelf Go.Maps
set_option linter.unusedVariables false
namespace Jn
open Kk Pm Bk

theorem bel_alloc (w : World) (o : Obj) : Bel w (w.alloc o) := (Bel.refl w).alloc o
/-- No cell is touched. -/
abbrev T0 : Nat → Bool := fun _ => false

set_option maxRecDepth 100000 in
set_option maxHeartbeats 4000000 in
theorem awake (w : World) : Calls Try.prog 12 #[] w fun e w' => e = .returned (.bool true) ∧ Bel w w' := by
  have BG := Lib.hid (begun w)
  go_enter Try.func12, Try.ntmps12
  go_wp2_with fail
  refine BG.out.mono ?_
  rintro e w1 ⟨pj, rfl, h1⟩
  have O1 := Lib.hid (opens h1 1 rfl (by decide))
  clear h1
  go_wp2_with fail
  refine O1.out.mono ?_
  rintro e w2 ⟨rfl, h2⟩
  have S1 := Lib.hid (setN h2 0 4 0 [4, 5, 0] (touch [([9, 5, 0], T0)] 0) (by decide) (by decide) rfl rfl rfl)
  clear h2
  go_wp2_with fail
  refine S1.out.mono ?_
  rintro e w3 ⟨rfl, h3⟩
  have O2 := Lib.hid (opens h3 2 rfl (by decide))
  clear h3
  go_wp2_with fail
  refine O2.out.mono ?_
  rintro e w4 ⟨rfl, h4⟩
  have A1 := Lib.hid (addN h4 1 1 0 [4, 6, 0] (touch (([4, 5, 0], T0) :: touch [([9, 5, 0], T0)] 0) 1) (by decide) (by decide) rfl rfl rfl)
  clear h4
  go_wp2_with fail
  refine A1.out.mono ?_
  rintro e w5 ⟨rfl, h5⟩
  have TC := Lib.hid (touchedN h5 [1] (by decide))
  have H5 := Lib.hid h5
  clear h5
  go_wp2_with fail
  refine TC.out.mono ?_
  rintro e w6 ⟨A, c, rfl, hi, hb⟩
  have SI := Lib.hid (sameI A (some ⟨w6.heap.size, 0, none⟩) 1 c 1 1 [1] [1] (w6.alloc (.cells #[.int .i64 1] 3)) (hi.bel (bel_alloc _ _)) (ints_lit .i64 w6 [1] 3) (by decide) (by decide))
  have H6 := Lib.hid ((H5.out.bel hb).bel (bel_alloc w6 (.cells #[.int .i64 1] 3)))
  clear hi hb
  go_wp2_with fail
  refine SI.out.mono ?_
  rintro e w7 ⟨rfl, hb7⟩
  have H7 := Lib.hid (H6.out.bel hb7)
  have CE := Lib.hid (cellsN (H6.out.bel hb7))
  clear hb7
  go_wp2_with fail
  refine CE.out.mono ?_
  rintro e w8 ⟨A8, c8, rfl, hi8, hb8⟩
  have SW := Lib.hid (sameW A8 (some ⟨w8.heap.size, 0, none⟩) 3 c8 3 3 [4, 6, 0] [4, 6, 0] (w8.alloc (.cells #[.int .u64 4, .int .u64 6, .int .u64 0] 31)) (hi8.bel (bel_alloc _ _)) (ints_lit .u64 w8 [4, 6, 0] 31) (by decide) (by decide))
  have H8 := Lib.hid ((H7.out.bel hb8).bel (bel_alloc w8 (.cells #[.int .u64 4, .int .u64 6, .int .u64 0] 31)))
  clear hi8 hb8
  go_wp2_with fail
  refine SW.out.mono ?_
  rintro e w9 ⟨rfl, hb9⟩
  have KP := Lib.hid (keepN (H8.out.bel hb9) 0 (keepS (touch (([4, 5, 0], T0) :: touch [([9, 5, 0], T0)] 0) 1)) rfl rfl)
  clear hb9
  go_wp2_with fail
  refine KP.out.mono ?_
  rintro e w10 ⟨rfl, h10⟩
  have TC2 := Lib.hid (touchedN h10 [0, 1] (by decide))
  have H10 := Lib.hid h10
  clear h10
  go_wp2_with fail
  refine TC2.out.mono ?_
  rintro e w11 ⟨A11, c11, rfl, hi11, hb11⟩
  have SI2 := Lib.hid (sameI A11 (some ⟨w11.heap.size, 0, none⟩) 2 c11 2 2 [0, 1] [0, 1] (w11.alloc (.cells #[.int .i64 0, .int .i64 1] 3)) (hi11.bel (bel_alloc _ _)) (ints_lit .i64 w11 [0, 1] 3) (by decide) (by decide))
  have H11 := Lib.hid ((H10.out.bel hb11).bel (bel_alloc w11 (.cells #[.int .i64 0, .int .i64 1] 3)))
  clear hi11 hb11
  go_wp2_with fail
  refine SI2.out.mono ?_
  rintro e w12 ⟨rfl, hb12⟩
  have UN := Lib.hid (undoN (H11.out.bel hb12) 0 [9, 5, 0] [] rfl rfl rfl)
  clear hb12
  go_wp2_with fail
  refine UN.out.mono ?_
  rintro e w13 ⟨rfl, h13⟩
  have CE2 := Lib.hid (cellsN h13)
  have H13 := Lib.hid h13
  clear h13
  go_wp2_with fail
  refine CE2.out.mono ?_
  rintro e w14 ⟨A14, c14, rfl, hi14, hb14⟩
  have SW2 := Lib.hid (sameW A14 (some ⟨w14.heap.size, 0, none⟩) 3 c14 3 3 [9, 5, 0] [9, 5, 0] (w14.alloc (.cells #[.int .u64 9, .int .u64 5, .int .u64 0] 31)) (hi14.bel (bel_alloc _ _)) (ints_lit .u64 w14 [9, 5, 0] 31) (by decide) (by decide))
  have H14 := Lib.hid ((H13.out.bel hb14).bel (bel_alloc w14 (.cells #[.int .u64 9, .int .u64 5, .int .u64 0] 31)))
  clear hi14 hb14
  go_wp2_with fail
  refine SW2.out.mono ?_
  rintro e w15 ⟨rfl, hb15⟩
  have UN2 := Lib.hid (undoN (H14.out.bel hb15) 11 [9, 5, 0] [] rfl rfl rfl)
  clear hb15
  go_wp2_with fail
  refine UN2.out.mono ?_
  rintro e w16 ⟨rfl, h16⟩
  have H16 := Lib.hid h16.belw
  clear h16
  go_wp2
  go_ret
  exact ⟨rfl, H16.out⟩
end Jn
end Go.Proofs.Ytogphhhlbofgkaa
