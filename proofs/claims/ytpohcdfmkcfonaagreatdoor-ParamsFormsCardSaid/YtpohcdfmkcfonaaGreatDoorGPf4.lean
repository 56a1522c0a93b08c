/-
  What the reference's Bytes of params answers: any record. Condition: its numbers are of their kinds.
-/
import Derived.Test.YtpohcdfmkcfonaaGreatDoorGPByt
import Derived.Test.YtpohcdfmkcfonaaGreatDoorPB
import Derived.Test.YtpohcdfmkcfonaaGreatDoorGRef02
namespace Go.Proofs.YtpohcdfmkcfonaaGreatDoor
open Go.RowKit Go.Shelf
set_option linter.unusedVariables false
namespace Pm
open Kk

theorem fvs_ok {x : Nat → Int} (hx : Kinds x) (hc : Chk x 0 0) (i : Nat) (hi11 : i < 11) : (fvs x).getD i 0 = x i ∧ 0 ≤ x i ∧ x i ≤ 1000000000 := by
  obtain ⟨h1, _⟩ := hc.ok
  have h2 := okF_b hx i hi11 (h1 i hi11)
  have h3 := lohi i hi11
  rw [fvs_at x i hi11, fv_ok hx i hi11 (h1 i hi11)]
  omega

set_option maxRecDepth 100000 in
set_option maxHeartbeats 4000000 in
theorem bytesR (x : Nat → Int) (hx : Kinds x) (w : World) : Calls Tryz.prog 8 #[.agg (recC x).toArray] w (BytE x w) := by
  obtain ⟨D, hD⟩ : ∃ D, D = recC x := ⟨_, rfl⟩
  obtain ⟨W, hW⟩ : ∃ W, w.alloc (.cells D.toArray 24) = W := ⟨_, rfl⟩
  have B0 := Lib.hid (show Bel w W by rw [← hW]; exact (Bel.refl w).alloc _)
  have R0 := Lib.hid (show W.rangeAt w.heap.size 0 D by rw [← hW]; exact rngB (Blk.new w D.toArray 24))
  obtain ⟨p, hp⟩ : ∃ p, w.heap.size = p := ⟨_, rfl⟩
  rw [hp] at R0
  have HDl := Lib.hid (show D.length = 11 by rw [hD]; rfl)
  have HF := Lib.hid (fieldsK x hx)
  have HC := Lib.hid (checkR x hx)
  rw [← hD] at HF HC
  rw [← hD]
  have HX := Lib.hid hx
  have HP := Lib.hid hp
  have HW := Lib.hid hW
  clear hx hp hD hW
  go_enter Tryz.func8, Tryz.ntmps8
  go_upto_region 1 with fail
  rw [HW.out, HP.out]
  go_wp2_with (refine wpList_load_mid rfl 24 (.tmp 1) rfl p 0 rfl D _ R0.out Tryz.underlying24 rfl (by rw [HDl.out]; exact info_rec) ?_)
  refine (HC.out W).mono ?_
  rintro e w1 ⟨a, b, rfl, hC, k1⟩
  have B1 : Hid (Bel W w1) := Lib.hid k1
  have C1 := Lib.hid hC
  have R1 := Lib.hid (rng_bel R0.out k1)
  clear k1 hC HC
  by_cases ha : a = 0
  · subst ha
    obtain rfl := C1.out.zero
    go_wp2_with (refine wpList_load_mid rfl 24 (.tmp 1) rfl p 0 rfl D _ R1.out Tryz.underlying24 rfl (by rw [HDl.out]; exact info_rec) ?_)
    refine (HF.out w1).mono ?_
    rintro e w2 ⟨b, rfl, hF, _, k2⟩
    have F2 := Lib.hid hF
    have K2 := Lib.hid ((B0.out.trans B1.out).trans k2)
    clear k2 hF HF R1
    rw [show (fvs x).length = 11 from rfl]
    go_wp2_with fail
    go_loopw [6, 8] (fun u6 u8 wr => ∃ k : Nat, u8 = .int .i64 k ∧ k ≤ 11 ∧ Hid (wr.ownsRow w2.heap.size 5 1 u6 (encs x k).length ((encs x k).map (Value.int .u8)) ∧ Bel w2 wr)) (fun _ u8 _ => 11 - (intOf u8).toNat)
    case atStart => exact ⟨0, rfl, by omega, Lib.hid ⟨⟨rfl, .inl ⟨rfl, rfl⟩⟩, Bel.refl _⟩⟩
    case round =>
      obtain ⟨k, rfl, hk, hh⟩ := hrel
      by_cases hlt : k < 11
      · have hlt2 : (k : Int) < 11 := by omega
        obtain ⟨hv, y0, y1⟩ := fvs_ok HX.out C1.out k hlt
        have cy := ints_cell (F2.out.bel hh.out.2) k (by exact hlt)
        rw [hv] at cy
        have hbl := encs_len x k
        have HOX : encs x (k + 1) = encs x k ++ Cd.enc (x k) := rfl
        obtain ⟨y, hy⟩ : ∃ y, x k = y := ⟨_, rfl⟩
        rw [hy] at y0 y1 cy HOX
        have e5 : IntKind.u64.wrap y = y := by rw [IntKind.wrap_u64]; omega
        have PX := Lib.hid (fun V => Cd.ref_put y V y0 (by omega))
        have hbx := (Cd.enc_len y).2
        obtain ⟨zx, hzx⟩ : ∃ zx, Cd.enc y = zx := ⟨_, rfl⟩
        obtain ⟨O, hO⟩ : ∃ O, encs x k = O := ⟨_, rfl⟩
        rw [hO] at hh hbl HOX
        rw [hzx] at PX hbx HOX
        have HOX := Lib.hid HOX
        obtain ⟨ol, hol⟩ : ∃ ol, O.length = ol := ⟨_, rfl⟩
        obtain ⟨zl, hzl⟩ : ∃ zl, zx.length = zl := ⟨_, rfl⟩
        rw [hol] at hh hbl
        rw [hzl] at hbx
        have HOLE := Lib.hid hol
        have HZLE := Lib.hid hzl
        have HH := Lib.hid hh.out
        clear hy hO hzx hol hzl hh y0 y1 hv
        go_wp2_with fail
        refine (PX.out _).mono ?_
        rintro e w5 ⟨v5, rfl, hf5⟩
        obtain ⟨A5, c5, rfl, hsl⟩ := (show Fresh wr w5 v5 zx from hf5).sl
        have K5 := Lib.hid (show Bel wr w5 from hf5.2)
        have O5 := Lib.hid (owns_bel HH.out.1 K5.out)
        have SL5 := Lib.hid hsl
        rw [HZLE.out] at SL5
        rw [HZLE.out]
        have BS := Lib.hid (show w2.heap.size ≤ w5.heap.size from Nat.le_trans (Below.size HH.out.2) (Below.size K5.out))
        have hbnd : ol + zl ≤ 1000000000000 := by omega
        clear hf5 hsl PX cy
        go_wp2_with (at_builtin; refine wpList_append_sl rfl _ _ rfl w2.heap.size u6 ol _ rfl O5.out A5 zl c5 zx rfl SL5.out hbnd BS.out ?_; intro v' w6 hown' hgrow)
        refine ⟨⟨k + 1, by go_num, by omega, Lib.hid ⟨?_, (HH.out.2.trans K5.out).grown hgrow (fun j hj => (O5.out.lt j hj).1)⟩⟩, ?_⟩
        · rw [HOX.out, List.map_append, List.length_append, HOLE.out, HZLE.out]
          exact hown'
        · simp [intOf]; omega
      · obtain rfl : k = 11 := by omega
        have HO2 := Lib.hid (show Fresh w wr u6 (encs x 11) from ⟨owns_mono hh.out.1 (Below.size K2.out), K2.out.trans hh.out.2⟩)
        go_wp2_with fail
        go_ret2
        exact ⟨_, _, _, rfl, .inl ⟨rfl, C1.out, rfl⟩, HO2.out⟩
  · have h1 : (a != 0) = true := by rw [bne_iff_ne]; exact ha
    have HA := Lib.hid ha
    clear ha
    go_wp2_with fail
    go_ret2
    exact ⟨_, [], a, rfl, .inr ⟨HA.out, rfl, b, C1.out⟩, ⟨rfl, .inl ⟨rfl, rfl⟩⟩, B0.out.trans B1.out⟩
end Pm
end Go.Proofs.YtpohcdfmkcfonaaGreatDoor
