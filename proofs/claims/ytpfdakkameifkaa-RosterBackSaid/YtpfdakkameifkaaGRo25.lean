/-
  What the law RosterKnown answers: true. No condition.
-/
import Derived.Test.YtpfdakkameifkaaGRo24
namespace Go.Proofs.Ytpfdakkameifkaa
open Go.RowKit Go.Shelf
set_option linter.unusedVariables false
set_option linter.unusedSimpArgs false
namespace Ro
open Cd

set_option maxRecDepth 100000 in
set_option maxHeartbeats 8000000 in
theorem known (w : World) : Calls Try.prog 6 #[] w fun e w' => e = .returned (.bool true) ∧ Bel w w' := by
  go_enter Try.func6, Try.ntmps6
  have K0 := Lib.hid (Bel.refl w)
  have C1 := Lib.hid (chapter w)
  go_wp2_with fail
  refine C1.out.mono ?_
  rintro x w1 ⟨v, rfl, ho, kb⟩
  have K1 := Lib.hid (K0.out.trans kb)
  clear C1
  have ho : OwnV w1 w.heap.size v [(5, 1, 1, 0, false, false), (3, 9, 1, 0, false, false)] := ho
  obtain ⟨Al, cl, rfl, hl⟩ := Rw.OwnR.slice ho
  have Hl := Lib.hid (show Rw.RS vR w1 Al 2 cl [(5, 1, 1, 0, false, false), (3, 9, 1, 0, false, false)] from hl)
  clear hl
  have C2 := Lib.hid (create_c none 0 0 [] 64 1 w1 (Rw.RS.nil_ (K := vR)) 3 0 [] (by decide) (by decide) (by decide) (by decide) (i64s rfl) (by unfold I64; omega))
  go_wp2_with fail
  refine C2.out.mono ?_
  rintro x w2 ⟨v, rfl, ho, kb⟩
  have K2 := Lib.hid (K1.out.trans kb)
  have Hl := Lib.hid (Hl.out.bel kb)
  clear C2
  clear ho
  have C3 := Lib.hid (create_c none 0 0 [] 5 0 w2 (Rw.RS.nil_ (K := vR)) 2 0 [] (by decide) (by decide) (by decide) (by decide) (i64s rfl) (by unfold I64; omega))
  go_wp2_with fail
  refine C3.out.mono ?_
  rintro x w3 ⟨v, rfl, ho, kb⟩
  have K3 := Lib.hid (K2.out.trans kb)
  have Hl := Lib.hid (Hl.out.bel kb)
  clear C3
  clear ho
  have C4 := Lib.hid (create_c Al 2 cl [(5, 1, 1, 0, false, false), (3, 9, 1, 0, false, false)] 3 1 w3 Hl.out 8 0 [] (by decide) (by decide) (by decide) (by decide) (i64s rfl) (by unfold I64; omega))
  go_wp2_with fail
  refine C4.out.mono ?_
  rintro x w4 ⟨v, rfl, ho, kb⟩
  have K4 := Lib.hid (K3.out.trans kb)
  have Hl := Lib.hid (Hl.out.bel kb)
  clear C4
  clear ho
  have C5 := Lib.hid ((show Calls Try.prog 17 #[.slice Al 2 cl, .int .i64 4] w4 fun e w' => e = .returned (.tuple #[.int .i64 0, .bool false]) ∧ Bel w4 w' from find Al 2 cl [(5, 1, 1, 0, false, false), (3, 9, 1, 0, false, false)] 4 w4 Hl.out (by decide) (i64s rfl) (by unfold I64; omega)))
  go_wp2_with fail
  refine C5.out.mono ?_
  rintro x w5 ⟨rfl, kb⟩
  have K5 := Lib.hid (K4.out.trans kb)
  have Hl := Lib.hid (Hl.out.bel kb)
  clear C5
  have C6 := Lib.hid (show Calls Try.prog 38 #[.slice Al 2 cl] w5 fun e w' => ∃ v, e = .returned (.tuple #[v, .int .i64 0]) ∧ Fresh w5 w' v [2, 5, 1, 1, 0, 0, 3, 9, 1, 0, 0] from bytes_ Al 2 cl [(5, 1, 1, 0, false, false), (3, 9, 1, 0, false, false)] w5 Hl.out (by decide) (wvs rfl))
  go_wp2_with fail
  refine C6.out.mono ?_
  rintro x w6 ⟨v, rfl, hf⟩
  have kb : Bel w5 w6 := hf.2
  have K6 := Lib.hid (K5.out.trans kb)
  have Hl := Lib.hid (Hl.out.bel kb)
  obtain ⟨Ay, cy, rfl, hys⟩ := sl_of_own hf.1
  have Hy := Lib.hid (show Sl w6 Ay 11 cy [2, 5, 1, 1, 0, 0, 3, 9, 1, 0, 0] from hys)
  clear hf hys C6
  have SM := Lib.hid (same Ay (some ⟨w6.heap.size, 0, none⟩) 11 cy 11 11 [2, 5, 1, 1, 0, 0, 3, 9, 1, 0, 0] (w6.alloc (.cells #[.int .u8 2, .int .u8 5, .int .u8 1, .int .u8 1, .int .u8 0, .int .u8 0, .int .u8 3, .int .u8 9, .int .u8 1, .int .u8 0, .int .u8 0] 5)) (Hy.out.bel ((Bel.refl _).alloc _)).ints (sl_lit w6 [2, 5, 1, 1, 0, 0, 3, 9, 1, 0, 0]).ints)
  go_wp2_with fail
  refine SM.out.mono ?_
  rintro x wz ⟨rfl, rfl⟩
  obtain ⟨ws, hws⟩ : ∃ W, (w6.alloc (.cells #[.int .u8 2, .int .u8 5, .int .u8 1, .int .u8 1, .int .u8 0, .int .u8 0, .int .u8 3, .int .u8 9, .int .u8 1, .int .u8 0, .int .u8 0] 5)) = W := ⟨_, rfl⟩
  have kb : Bel w6 ws := by rw [← hws]; exact (Bel.refl _).alloc _
  rw [hws]
  clear hws SM
  have K7 := Lib.hid (K6.out.trans kb)
  have Hl := Lib.hid (Hl.out.bel kb)
  have Hy := Lib.hid (Hy.out.bel kb)
  have EQa := Lib.hid (fun V => (Rw.eql_fault 11 1 11 1 V).trans (by rw [decide_eq_true (rfl : ((11 : Int), (1 : Int)) = (11, 1))]))
  have RDa := Lib.hid (fault_ (some ⟨ws.heap.size, 0, none⟩) 6 6 [1, 5, 1, 1, 0, 1] 1 1 none [(5, 1, 1, 0, true, false)] 6 (some (11, 1)) 11 1 (ws.alloc (.cells #[.int .u8 1, .int .u8 5, .int .u8 1, .int .u8 1, .int .u8 0, .int .u8 1] 5)) (sl_lit ws [1, 5, 1, 1, 0, 1]) (by decide) (bytesC _ (by decide)) ra (by decide) rfl la (wvs rfl) rfl)
  go_wp2_with (fail)
  refine RDa.out.mono ?_
  rintro x w8 ⟨rfl, kb⟩
  have kb := ((Bel.refl ws).alloc (.cells #[.int .u8 1, .int .u8 5, .int .u8 1, .int .u8 1, .int .u8 0, .int .u8 1] 5)).trans kb
  have K8 := Lib.hid (K7.out.trans kb)
  have Hl := Lib.hid (Hl.out.bel kb)
  have Hy := Lib.hid (Hy.out.bel kb)
  clear RDa
  have EQb := Lib.hid (fun V => (Rw.eql_fault 2 1 2 1 V).trans (by rw [decide_eq_true (rfl : ((2 : Int), (1 : Int)) = (2, 1))]))
  have RDb := Lib.hid (fault_ (some ⟨w8.heap.size, 0, none⟩) 6 6 [1, 5, 0, 1, 0, 0] 1 1 none [(5, 0, 1, 0, false, false)] 6 (some (2, 1)) 2 1 (w8.alloc (.cells #[.int .u8 1, .int .u8 5, .int .u8 0, .int .u8 1, .int .u8 0, .int .u8 0] 5)) (sl_lit w8 [1, 5, 0, 1, 0, 0]) (by decide) (bytesC _ (by decide)) rb (by decide) rfl lb (wvs rfl) rfl)
  go_wp2_with (refine Rw.wpList_val rfl (.bool true) (fun w => Rw.exec_eql rfl _ _ rfl rfl (by kernel_rfl) EQa.out w) ?_)
  refine RDb.out.mono ?_
  rintro x w9 ⟨rfl, kb⟩
  have kb := ((Bel.refl w8).alloc (.cells #[.int .u8 1, .int .u8 5, .int .u8 0, .int .u8 1, .int .u8 0, .int .u8 0] 5)).trans kb
  have K9 := Lib.hid (K8.out.trans kb)
  have Hl := Lib.hid (Hl.out.bel kb)
  have Hy := Lib.hid (Hy.out.bel kb)
  clear RDb
  have EQc := Lib.hid (fun V => (Rw.eql_fault 8 6 8 6 V).trans (by rw [decide_eq_true (rfl : ((8 : Int), (6 : Int)) = (8, 6))]))
  have RDc := Lib.hid (fault_ (some ⟨w9.heap.size, 0, none⟩) 11 11 [2, 5, 1, 1, 0, 0, 5, 1, 1, 0, 0] 2 1 none [(5, 1, 1, 0, false, false), (5, 1, 1, 0, false, false)] 11 (some (8, 6)) 8 6 (w9.alloc (.cells #[.int .u8 2, .int .u8 5, .int .u8 1, .int .u8 1, .int .u8 0, .int .u8 0, .int .u8 5, .int .u8 1, .int .u8 1, .int .u8 0, .int .u8 0] 5)) (sl_lit w9 [2, 5, 1, 1, 0, 0, 5, 1, 1, 0, 0]) (by decide) (bytesC _ (by decide)) rc (by decide) rfl lc (wvs rfl) rfl)
  go_wp2_with (refine Rw.wpList_val rfl (.bool true) (fun w => Rw.exec_eql rfl _ _ rfl rfl (by kernel_rfl) EQb.out w) ?_)
  refine RDc.out.mono ?_
  rintro x w10 ⟨rfl, kb⟩
  have kb := ((Bel.refl w9).alloc (.cells #[.int .u8 2, .int .u8 5, .int .u8 1, .int .u8 1, .int .u8 0, .int .u8 0, .int .u8 5, .int .u8 1, .int .u8 1, .int .u8 0, .int .u8 0] 5)).trans kb
  have K10 := Lib.hid (K9.out.trans kb)
  have Hl := Lib.hid (Hl.out.bel kb)
  have Hy := Lib.hid (Hy.out.bel kb)
  clear RDc
  have EQd := Lib.hid (fun V => (Rw.eql_fault 3 0 3 0 V).trans (by rw [decide_eq_true (rfl : ((3 : Int), (0 : Int)) = (3, 0))]))
  have RDd := Lib.hid (fault_ (some ⟨w10.heap.size, 0, none⟩) 1 1 [33] 0 0 (some (3, 0)) [] 0 (some (3, 0)) 3 0 (w10.alloc (.cells #[.int .u8 33] 5)) (sl_lit w10 [33]) (by decide) (bytesC _ (by decide)) rd (by decide) rfl ld (wvs rfl) rfl)
  go_wp2_with (refine Rw.wpList_val rfl (.bool true) (fun w => Rw.exec_eql rfl _ _ rfl rfl (by kernel_rfl) EQc.out w) ?_)
  refine RDd.out.mono ?_
  rintro x w11 ⟨rfl, kb⟩
  have kb := ((Bel.refl w10).alloc (.cells #[.int .u8 33] 5)).trans kb
  have K11 := Lib.hid (K10.out.trans kb)
  have Hl := Lib.hid (Hl.out.bel kb)
  have Hy := Lib.hid (Hy.out.bel kb)
  clear RDd
  have C12 := Lib.hid (awake w11)
  go_wp2_with (refine Rw.wpList_val rfl (.bool true) (fun w => Rw.exec_eql rfl _ _ rfl rfl (by kernel_rfl) EQd.out w) ?_)
  refine C12.out.mono ?_
  rintro x w12 ⟨rfl, kb⟩
  have K12 := Lib.hid (K11.out.trans kb)
  have Hl := Lib.hid (Hl.out.bel kb)
  have Hy := Lib.hid (Hy.out.bel kb)
  have C13 := Lib.hid (jails w12)
  go_wp2_with fail
  refine C13.out.mono ?_
  rintro x w13 ⟨rfl, kb⟩
  have K13 := Lib.hid (K12.out.trans kb)
  have Hl := Lib.hid (Hl.out.bel kb)
  have Hy := Lib.hid (Hy.out.bel kb)
  clear C13
  have C14 := Lib.hid (punishes w13)
  go_wp2_with fail
  refine C14.out.mono ?_
  rintro x w14 ⟨rfl, kb⟩
  have K14 := Lib.hid (K13.out.trans kb)
  have Hl := Lib.hid (Hl.out.bel kb)
  have Hy := Lib.hid (Hy.out.bel kb)
  clear C14
  go_wp2_with fail
  go_ret
  exact ⟨rfl, K14.out⟩
end Ro
end Go.Proofs.Ytpfdakkameifkaa
