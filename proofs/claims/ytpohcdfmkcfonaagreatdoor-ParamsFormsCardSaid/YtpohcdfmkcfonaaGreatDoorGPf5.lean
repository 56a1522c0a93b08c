/-
  What the reference's Text of params answers: any record. Condition: its numbers are of their kinds.
-/
import Derived.Test.YtpohcdfmkcfonaaGreatDoorGPf4
import Derived.Test.YtpohcdfmkcfonaaGreatDoorPF
import Derived.Test.YtpohcdfmkcfonaaGreatDoorPT
namespace Go.Proofs.YtpohcdfmkcfonaaGreatDoor
open Go.RowKit Go.Shelf
set_option linter.unusedVariables false
namespace Pm
open Kk

set_option maxRecDepth 100000 in
set_option maxHeartbeats 4000000 in
theorem textR (x : Nat → Int) (hx : Kinds x) (w : World) : Calls Tryz.prog 6 #[.agg (recC x).toArray] w (TxtE x w) := by
  obtain ⟨D, hD⟩ : ∃ D, D = recC x := ⟨_, rfl⟩
  obtain ⟨W, hW⟩ : ∃ W, w.alloc (.cells D.toArray 24) = W := ⟨_, rfl⟩
  have B0 := Lib.hid (show Bel w W by rw [← hW]; exact (Bel.refl w).alloc _)
  have R0 := Lib.hid (show W.rangeAt w.heap.size 0 D by rw [← hW]; exact rngB (Blk.new w D.toArray 24))
  obtain ⟨p, hp⟩ : ∃ p, w.heap.size = p := ⟨_, rfl⟩
  rw [hp] at R0
  have HDl := Lib.hid (show D.length = 11 by rw [hD]; rfl)
  have HF := Lib.hid (fieldsK x hx)
  have HC := Lib.hid (checkR x hx)
  rw [← hD] at HF HC
  rw [← hD]
  have HX := Lib.hid hx
  have HP := Lib.hid hp
  have HW := Lib.hid hW
  clear hx hp hD hW
  go_enter Tryz.func6, Tryz.ntmps6
  go_upto_region 1 with fail
  rw [HW.out, HP.out]
  go_wp2_with (refine wpList_load_mid rfl 24 (.tmp 1) rfl p 0 rfl D _ R0.out Tryz.underlying24 rfl (by rw [HDl.out]; exact info_rec) ?_)
  refine (HC.out W).mono ?_
  rintro e w1 ⟨a, b, rfl, hC, k1⟩
  have B1 : Hid (Bel W w1) := Lib.hid k1
  have C1 := Lib.hid hC
  have R1 := Lib.hid (rng_bel R0.out k1)
  clear k1 hC HC
  by_cases ha : a = 0
  · subst ha
    obtain rfl := C1.out.zero
    go_wp2_with (refine wpList_load_mid rfl 24 (.tmp 1) rfl p 0 rfl D _ R1.out Tryz.underlying24 rfl (by rw [HDl.out]; exact info_rec) ?_)
    refine (HF.out w1).mono ?_
    rintro e w2 ⟨b, rfl, hF, _, k2⟩
    have F2 := Lib.hid hF
    have K2 := Lib.hid ((B0.out.trans B1.out).trans k2)
    clear k2 hF HF R1
    rw [show (fvs x).length = 11 from rfl]
    go_wp2_with fail
    go_loopw [6, 8] (fun u6 u8 wr => ∃ k : Nat, u8 = .int .i64 k ∧ k ≤ 11 ∧ u6 = .string (textB x k) ∧ Hid (Bel w2 wr)) (fun _ u8 _ => 11 - (intOf u8).toNat)
    case atStart => exact ⟨0, rfl, by omega, rfl, Lib.hid (Bel.refl _)⟩
    case round =>
      obtain ⟨k, rfl, hk, rfl, hh⟩ := hrel
      by_cases hlt : k < 11
      · have hlt2 : (k : Int) < 11 := by omega
        obtain ⟨hv, y0, y1⟩ := fvs_ok HX.out C1.out k hlt
        have hsz := text_size x (fun i hi => by have := (fvs_ok HX.out C1.out i hi).2.2; omega) k (by omega)
        have hns := nm_size k hlt
        obtain ⟨m, hm⟩ : ∃ m : Nat, x k = (m : Int) := ⟨(x k).toNat, by omega⟩
        have cy := ints_cell F2.out k (by exact hlt)
        rw [hv, hm] at cy
        have hds := decB_sz (m := m) (by omega)
        have HLN := Lib.hid (show textB x (k + 1) = textB x k ++ nm k ++ ⟨#[32]⟩ ++ decB m ++ ⟨#[10]⟩ by
          show textB x k ++ lineB k (x k) = _
          unfold lineB decB
          rw [hm, Int.toNat_natCast]
          simp only [ByteArray.append_assoc])
        have NM := Lib.hid (fun V => namesR V)
        have DG := Lib.hid (fun V => digits m (by omega) V)
        clear hv y0 y1 hm
        have cy := cell_bel cy hh.out
        go_upto_region 9 with fail
        go_region_with (first | (go_at_call 25; refine (NM.out _).mono ?_; rintro e v1 ⟨b1, rfl, hb1, _, kb1⟩; have kb1 := (show Bel wr v1 from ((Bel.refl wr).drew).trans kb1); have HB1 := Lib.hid hb1; have KB1 := Lib.hid kb1; have cn := strs_cell hb1 k hlt; have cy := cell_bel cy kb1; clear hb1 kb1) | (go_at_call 26; refine (DG.out _).mono ?_; rintro e v2 ⟨rfl, kb2⟩; have KB2 := Lib.hid kb2; have cn := strs_cell (HB1.out.bel kb2) k hlt; clear kb2))
        all_goals
          clear cy cn
          go_wp2_with fail
          exact ⟨⟨k + 1, by go_num, by omega, by rw [HLN.out], Lib.hid (hh.out.trans (KB1.out.trans KB2.out))⟩, by simp [intOf]; omega⟩
      · obtain rfl : k = 11 := by omega
        go_wp2_with fail
        go_ret2
        exact ⟨_, _, rfl, .inl ⟨rfl, C1.out, rfl⟩, K2.out.trans hh.out⟩
  · have h1 : (a != 0) = true := by rw [bne_iff_ne]; exact ha
    have HA := Lib.hid ha
    clear ha
    go_wp2_with fail
    go_ret2
    exact ⟨_, a, rfl, .inr ⟨HA.out, rfl, b, C1.out⟩, B0.out.trans B1.out⟩
end Pm
end Go.Proofs.YtpohcdfmkcfonaaGreatDoor
