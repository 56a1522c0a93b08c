/-
  The law JournalNone returns true for any act, and changes nothing that was there. Condition: the act's numbers fit their kinds.
-/
import Derived.Test.YtogphhhlbofgkaaJn18
namespace Go.Proofs.Ytogphhhlbofgkaa
open Go.RowKit Go.Shelf Go.Maps
set_option linter.unusedVariables false
namespace Jn
open Kk Pm Bk

set_option maxRecDepth 100000 in
set_option maxHeartbeats 8000000 in
theorem noneLaw (a i k u : Int) (w : World) (hB : ActB a i k u) :
    Calls Try.prog 5 #[actV a i k u] w fun e w' => e = .returned (.bool true) ∧ Bel w w' := by
  obtain ⟨q, hq⟩ : ∃ q, w.heap.size = q := ⟨_, rfl⟩
  obtain ⟨W0, hW0⟩ : ∃ W0, ((w.alloc (.cells #[.int .i64 a, .int .i64 i, .int .i64 k, .int .u64 u] 33)).alloc (.cells #[.pointer none, .slice none 0 0, .pointer none, .slice none 0 0] 49)).alloc (.cells #[.pointer none, .pointer (some ⟨q + 1, 0, none⟩)] 23) = W0 := ⟨_, rfl⟩
  have b0 : Bel w W0 := by rw [← hW0]; exact (((Bel.refl w).alloc _).alloc _).alloc _
  have bq : Blk W0 q #[.int .i64 a, .int .i64 i, .int .i64 k, .int .u64 u] 33 := by rw [← hW0, ← hq]; exact ((Blk.new w _ _).alloc _).alloc _
  have bj : Blk W0 (q + 1) #[.pointer none, .slice none 0 0, .pointer none, .slice none 0 0] 49 := by
    rw [← hW0, ← hq]
    have := Blk.new (w.alloc (.cells #[.int .i64 a, .int .i64 i, .int .i64 k, .int .u64 u] 33)) #[.pointer none, .slice none 0 0, .pointer none, .slice none 0 0] 49
    rw [World.size_alloc] at this
    exact this.alloc _
  have bs : Blk W0 (q + 2) #[.pointer none, .pointer (some ⟨q + 1, 0, none⟩)] 23 := by
    rw [← hW0]
    have := Blk.new ((w.alloc (.cells #[.int .i64 a, .int .i64 i, .int .i64 k, .int .u64 u] 33)).alloc (.cells #[.pointer none, .slice none 0 0, .pointer none, .slice none 0 0] 49)) #[.pointer none, .pointer (some ⟨q + 1, 0, none⟩)] 23
    rw [World.size_alloc, World.size_alloc, hq] at this
    exact this
  have HB0 := Lib.hid b0
  have BQ := Lib.hid bq
  have BS := Lib.hid bs
  have HW := Lib.hid hW0
  have HQ := Lib.hid hq
  have ND := Lib.hid (show Null W0 (.pointer (some ⟨q + 1, 0, none⟩)) from .inr ⟨_, rfl, bj.cell 0 rfl⟩)
  have HBB := Lib.hid hB
  clear b0 bq bj bs hW0 hq hB
  by_cases h0 : 0 ≤ a
  · by_cases h8 : a < 8
    · have E1 := Lib.hid (show act0E a = 1 by unfold act0E; rw [if_pos ⟨h0, h8⟩])
      go_enter Try.func5, Try.ntmps5
      go_upto_region 2 with fail
      rw [HQ.out, HW.out]
      have hbA := Bel.refl W0
      go_wp2_with fail
      refine wp_loop_rounds 3 ?_
      rw [rounds_succ]
      have s0 := (BS.out.bel hbA).cell 0 rfl
      have s1 := (BS.out.bel hbA).cell 1 rfl
      have c1 := (BQ.out.bel hbA).cell 1 rfl
      go_wp2_with fail
      refine (get0 (.pointer none) i W0 (null_nil _)).mono ?_
      rintro e w1 ⟨rfl, hc⟩
      have hb1 := hbA.trans hc
      clear hc
      clear s0 s1 c1
      go_wp2_with fail
      refine (begin0 (.pointer none) w1 (null_nil _)).mono ?_
      rintro e w2 ⟨rfl, hc⟩
      have hb2 := hb1.trans hc
      clear hc
      have c0 := (BQ.out.bel hb2).cell 0 rfl
      have c1 := (BQ.out.bel hb2).cell 1 rfl
      have c2 := (BQ.out.bel hb2).cell 2 rfl
      have c3 := (BQ.out.bel hb2).cell 3 rfl
      go_wp2_with fail
      refine (does0 (.pointer none) w2 (null_nil _) a i k u).mono ?_
      rintro e w3 ⟨rfl, hc⟩
      have hb3 := hb2.trans hc
      clear hc
      rw [E1.out]
      go_wp2_with fail
      refine (depth0 (.pointer none) w3 (null_nil _)).mono ?_
      rintro e w4 ⟨rfl, hc⟩
      have hb4 := hb3.trans hc
      clear hc
      go_wp2_with fail
      refine (cells0 (.pointer none) w4 (null_nil _)).mono ?_
      rintro e w5 ⟨rfl, hc⟩
      have hb5 := hb4.trans hc
      clear hc
      go_wp2_with fail
      refine (touched0 (.pointer none) w5 (null_nil _)).mono ?_
      rintro e w6 ⟨rfl, hc⟩
      have hb6 := hb5.trans hc
      clear hc
      go_wp2_with fail
      refine (copy0 (.pointer none) w6 (null_nil _)).mono ?_
      rintro e w7 ⟨rfl, hc⟩
      have hb7 := hb6.trans hc
      clear hc
      go_wp2_with fail
      refine (set0 (.pointer none) 0 0 w7 (null_nil _)).mono ?_
      rintro e w8 ⟨rfl, hc⟩
      have hb8 := hb7.trans hc
      clear hc
      go_wp2_with fail
      clear c0 c1 c2 c3
      rw [rounds_succ]
      have s0 := (BS.out.bel hb8).cell 0 rfl
      have s1 := (BS.out.bel hb8).cell 1 rfl
      have c1 := (BQ.out.bel hb8).cell 1 rfl
      go_wp2_with fail
      refine (get0 (.pointer (some ⟨q + 1, 0, none⟩)) i w8 (ND.out.bel hb8)).mono ?_
      rintro e w9 ⟨rfl, hc⟩
      have hb9 := hb8.trans hc
      clear hc
      clear s0 s1 c1
      go_wp2_with fail
      refine (begin0 (.pointer (some ⟨q + 1, 0, none⟩)) w9 (ND.out.bel hb9)).mono ?_
      rintro e w10 ⟨rfl, hc⟩
      have hb10 := hb9.trans hc
      clear hc
      have c0 := (BQ.out.bel hb10).cell 0 rfl
      have c1 := (BQ.out.bel hb10).cell 1 rfl
      have c2 := (BQ.out.bel hb10).cell 2 rfl
      have c3 := (BQ.out.bel hb10).cell 3 rfl
      go_wp2_with fail
      refine (does0 (.pointer (some ⟨q + 1, 0, none⟩)) w10 (ND.out.bel hb10) a i k u).mono ?_
      rintro e w11 ⟨rfl, hc⟩
      have hb11 := hb10.trans hc
      clear hc
      rw [E1.out]
      go_wp2_with fail
      refine (depth0 (.pointer (some ⟨q + 1, 0, none⟩)) w11 (ND.out.bel hb11)).mono ?_
      rintro e w12 ⟨rfl, hc⟩
      have hb12 := hb11.trans hc
      clear hc
      go_wp2_with fail
      refine (cells0 (.pointer (some ⟨q + 1, 0, none⟩)) w12 (ND.out.bel hb12)).mono ?_
      rintro e w13 ⟨rfl, hc⟩
      have hb13 := hb12.trans hc
      clear hc
      go_wp2_with fail
      refine (touched0 (.pointer (some ⟨q + 1, 0, none⟩)) w13 (ND.out.bel hb13)).mono ?_
      rintro e w14 ⟨rfl, hc⟩
      have hb14 := hb13.trans hc
      clear hc
      go_wp2_with fail
      refine (copy0 (.pointer (some ⟨q + 1, 0, none⟩)) w14 (ND.out.bel hb14)).mono ?_
      rintro e w15 ⟨rfl, hc⟩
      have hb15 := hb14.trans hc
      clear hc
      go_wp2_with fail
      refine (set0 (.pointer none) 0 0 w15 (null_nil _)).mono ?_
      rintro e w16 ⟨rfl, hc⟩
      have hb16 := hb15.trans hc
      clear hc
      go_wp2_with fail
      clear c0 c1 c2 c3
      rw [rounds_succ]
      go_wp2_with fail
      refine (awake w16).mono ?_
      rintro e wz ⟨rfl, hc⟩
      have HZ := Lib.hid (HB0.out.trans (hb16.trans hc))
      go_wp2
      go_ret
      exact ⟨rfl, HZ.out⟩
    · have h8' : 8 ≤ a := by omega
      clear h8
      go_enter Try.func5, Try.ntmps5
      go_upto_region 2 with fail
      rw [HQ.out, HW.out]
      have hbA := Bel.refl W0
      go_wp2_with fail
      refine wp_loop_rounds 3 ?_
      rw [rounds_succ]
      have s0 := (BS.out.bel hbA).cell 0 rfl
      have s1 := (BS.out.bel hbA).cell 1 rfl
      have c1 := (BQ.out.bel hbA).cell 1 rfl
      go_wp2_with fail
      refine (get0 (.pointer none) i W0 (null_nil _)).mono ?_
      rintro e w1 ⟨rfl, hc⟩
      have hb1 := hbA.trans hc
      clear hc
      clear s0 s1 c1
      go_wp2_with fail
      refine (begin0 (.pointer none) w1 (null_nil _)).mono ?_
      rintro e w2 ⟨rfl, hc⟩
      have hb2 := hb1.trans hc
      clear hc
      have c0 := (BQ.out.bel hb2).cell 0 rfl
      have c1 := (BQ.out.bel hb2).cell 1 rfl
      have c2 := (BQ.out.bel hb2).cell 2 rfl
      have c3 := (BQ.out.bel hb2).cell 3 rfl
      go_wp2_with fail
      refine (depth0 (.pointer none) w2 (null_nil _)).mono ?_
      rintro e w3 ⟨rfl, hc⟩
      have hb3 := hb2.trans hc
      clear hc
      go_wp2_with fail
      refine (cells0 (.pointer none) w3 (null_nil _)).mono ?_
      rintro e w4 ⟨rfl, hc⟩
      have hb4 := hb3.trans hc
      clear hc
      go_wp2_with fail
      refine (touched0 (.pointer none) w4 (null_nil _)).mono ?_
      rintro e w5 ⟨rfl, hc⟩
      have hb5 := hb4.trans hc
      clear hc
      go_wp2_with fail
      refine (copy0 (.pointer none) w5 (null_nil _)).mono ?_
      rintro e w6 ⟨rfl, hc⟩
      have hb6 := hb5.trans hc
      clear hc
      go_wp2_with fail
      refine (set0 (.pointer none) 0 0 w6 (null_nil _)).mono ?_
      rintro e w7 ⟨rfl, hc⟩
      have hb7 := hb6.trans hc
      clear hc
      go_wp2_with fail
      clear c0 c1 c2 c3
      rw [rounds_succ]
      have s0 := (BS.out.bel hb7).cell 0 rfl
      have s1 := (BS.out.bel hb7).cell 1 rfl
      have c1 := (BQ.out.bel hb7).cell 1 rfl
      go_wp2_with fail
      refine (get0 (.pointer (some ⟨q + 1, 0, none⟩)) i w7 (ND.out.bel hb7)).mono ?_
      rintro e w8 ⟨rfl, hc⟩
      have hb8 := hb7.trans hc
      clear hc
      clear s0 s1 c1
      go_wp2_with fail
      refine (begin0 (.pointer (some ⟨q + 1, 0, none⟩)) w8 (ND.out.bel hb8)).mono ?_
      rintro e w9 ⟨rfl, hc⟩
      have hb9 := hb8.trans hc
      clear hc
      have c0 := (BQ.out.bel hb9).cell 0 rfl
      have c1 := (BQ.out.bel hb9).cell 1 rfl
      have c2 := (BQ.out.bel hb9).cell 2 rfl
      have c3 := (BQ.out.bel hb9).cell 3 rfl
      go_wp2_with fail
      refine (depth0 (.pointer (some ⟨q + 1, 0, none⟩)) w9 (ND.out.bel hb9)).mono ?_
      rintro e w10 ⟨rfl, hc⟩
      have hb10 := hb9.trans hc
      clear hc
      go_wp2_with fail
      refine (cells0 (.pointer (some ⟨q + 1, 0, none⟩)) w10 (ND.out.bel hb10)).mono ?_
      rintro e w11 ⟨rfl, hc⟩
      have hb11 := hb10.trans hc
      clear hc
      go_wp2_with fail
      refine (touched0 (.pointer (some ⟨q + 1, 0, none⟩)) w11 (ND.out.bel hb11)).mono ?_
      rintro e w12 ⟨rfl, hc⟩
      have hb12 := hb11.trans hc
      clear hc
      go_wp2_with fail
      refine (copy0 (.pointer (some ⟨q + 1, 0, none⟩)) w12 (ND.out.bel hb12)).mono ?_
      rintro e w13 ⟨rfl, hc⟩
      have hb13 := hb12.trans hc
      clear hc
      go_wp2_with fail
      refine (set0 (.pointer none) 0 0 w13 (null_nil _)).mono ?_
      rintro e w14 ⟨rfl, hc⟩
      have hb14 := hb13.trans hc
      clear hc
      go_wp2_with fail
      clear c0 c1 c2 c3
      rw [rounds_succ]
      go_wp2_with fail
      refine (awake w14).mono ?_
      rintro e wz ⟨rfl, hc⟩
      have HZ := Lib.hid (HB0.out.trans (hb14.trans hc))
      go_wp2
      go_ret
      exact ⟨rfl, HZ.out⟩
  · have h0' : a < 0 := by omega
    clear h0
    go_enter Try.func5, Try.ntmps5
    go_upto_region 2 with fail
    rw [HQ.out, HW.out]
    have hbA := Bel.refl W0
    go_wp2_with fail
    refine wp_loop_rounds 3 ?_
    rw [rounds_succ]
    have s0 := (BS.out.bel hbA).cell 0 rfl
    have s1 := (BS.out.bel hbA).cell 1 rfl
    have c1 := (BQ.out.bel hbA).cell 1 rfl
    go_wp2_with fail
    refine (get0 (.pointer none) i W0 (null_nil _)).mono ?_
    rintro e w1 ⟨rfl, hc⟩
    have hb1 := hbA.trans hc
    clear hc
    clear s0 s1 c1
    go_wp2_with fail
    refine (begin0 (.pointer none) w1 (null_nil _)).mono ?_
    rintro e w2 ⟨rfl, hc⟩
    have hb2 := hb1.trans hc
    clear hc
    have c0 := (BQ.out.bel hb2).cell 0 rfl
    have c1 := (BQ.out.bel hb2).cell 1 rfl
    have c2 := (BQ.out.bel hb2).cell 2 rfl
    have c3 := (BQ.out.bel hb2).cell 3 rfl
    go_wp2_with fail
    refine (depth0 (.pointer none) w2 (null_nil _)).mono ?_
    rintro e w3 ⟨rfl, hc⟩
    have hb3 := hb2.trans hc
    clear hc
    go_wp2_with fail
    refine (cells0 (.pointer none) w3 (null_nil _)).mono ?_
    rintro e w4 ⟨rfl, hc⟩
    have hb4 := hb3.trans hc
    clear hc
    go_wp2_with fail
    refine (touched0 (.pointer none) w4 (null_nil _)).mono ?_
    rintro e w5 ⟨rfl, hc⟩
    have hb5 := hb4.trans hc
    clear hc
    go_wp2_with fail
    refine (copy0 (.pointer none) w5 (null_nil _)).mono ?_
    rintro e w6 ⟨rfl, hc⟩
    have hb6 := hb5.trans hc
    clear hc
    go_wp2_with fail
    refine (set0 (.pointer none) 0 0 w6 (null_nil _)).mono ?_
    rintro e w7 ⟨rfl, hc⟩
    have hb7 := hb6.trans hc
    clear hc
    go_wp2_with fail
    clear c0 c1 c2 c3
    rw [rounds_succ]
    have s0 := (BS.out.bel hb7).cell 0 rfl
    have s1 := (BS.out.bel hb7).cell 1 rfl
    have c1 := (BQ.out.bel hb7).cell 1 rfl
    go_wp2_with fail
    refine (get0 (.pointer (some ⟨q + 1, 0, none⟩)) i w7 (ND.out.bel hb7)).mono ?_
    rintro e w8 ⟨rfl, hc⟩
    have hb8 := hb7.trans hc
    clear hc
    clear s0 s1 c1
    go_wp2_with fail
    refine (begin0 (.pointer (some ⟨q + 1, 0, none⟩)) w8 (ND.out.bel hb8)).mono ?_
    rintro e w9 ⟨rfl, hc⟩
    have hb9 := hb8.trans hc
    clear hc
    have c0 := (BQ.out.bel hb9).cell 0 rfl
    have c1 := (BQ.out.bel hb9).cell 1 rfl
    have c2 := (BQ.out.bel hb9).cell 2 rfl
    have c3 := (BQ.out.bel hb9).cell 3 rfl
    go_wp2_with fail
    refine (depth0 (.pointer (some ⟨q + 1, 0, none⟩)) w9 (ND.out.bel hb9)).mono ?_
    rintro e w10 ⟨rfl, hc⟩
    have hb10 := hb9.trans hc
    clear hc
    go_wp2_with fail
    refine (cells0 (.pointer (some ⟨q + 1, 0, none⟩)) w10 (ND.out.bel hb10)).mono ?_
    rintro e w11 ⟨rfl, hc⟩
    have hb11 := hb10.trans hc
    clear hc
    go_wp2_with fail
    refine (touched0 (.pointer (some ⟨q + 1, 0, none⟩)) w11 (ND.out.bel hb11)).mono ?_
    rintro e w12 ⟨rfl, hc⟩
    have hb12 := hb11.trans hc
    clear hc
    go_wp2_with fail
    refine (copy0 (.pointer (some ⟨q + 1, 0, none⟩)) w12 (ND.out.bel hb12)).mono ?_
    rintro e w13 ⟨rfl, hc⟩
    have hb13 := hb12.trans hc
    clear hc
    go_wp2_with fail
    refine (set0 (.pointer none) 0 0 w13 (null_nil _)).mono ?_
    rintro e w14 ⟨rfl, hc⟩
    have hb14 := hb13.trans hc
    clear hc
    go_wp2_with fail
    clear c0 c1 c2 c3
    rw [rounds_succ]
    go_wp2_with fail
    refine (awake w14).mono ?_
    rintro e wz ⟨rfl, hc⟩
    have HZ := Lib.hid (HB0.out.trans (hb14.trans hc))
    go_wp2
    go_ret
    exact ⟨rfl, HZ.out⟩
end Jn
end Go.Proofs.Ytogphhhlbofgkaa
