/-
  What params.Bytes answers in this program: the eleven numbers' bytes, of a record that is valid.
  Conditions: the eleven numbers are of their kinds.
-/
import Derived.Test.YtpohcdfmkcfonaaGreatDoorPB
import Derived.Test.YtpohcdfmkcfonaaGreatDoorGBase
namespace Go.Proofs.YtpohcdfmkcfonaaGreatDoor
open Go.RowKit Go.Shelf
set_option linter.unusedVariables false
namespace Pm
open Kk

/-- The bytes of the first k numbers. -/
def encs (x : Nat → Int) : Nat → List Int
  | 0 => []
  | k + 1 => encs x k ++ Cd.enc (x k)
theorem encs_len (x : Nat → Int) : ∀ k, (encs x k).length ≤ 10 * k
  | 0 => Nat.le_refl 0
  | k + 1 => by
    have h1 := encs_len x k
    have h2 := (Cd.enc_len (x k)).2
    show (encs x k ++ Cd.enc (x k)).length ≤ _
    rw [List.length_append]
    omega
/-- What Bytes answers: new bytes, or Check's error. -/
def Byt (x : Nat → Int) (zs : List Int) (a : Int) : Prop := (a = 0 ∧ Chk x 0 0 ∧ zs = encs x 11) ∨ (a ≠ 0 ∧ zs = [] ∧ ∃ b, Chk x a b)
def BytE (x : Nat → Int) (w : World) (e : Ending) (w' : World) : Prop := ∃ v zs a, e = .returned (.tuple #[v, .int .i64 a]) ∧ Byt x zs a ∧ Fresh w w' v zs

set_option maxRecDepth 100000 in
set_option maxHeartbeats 4000000 in
theorem bytes (x : Nat → Int) (hx : Kinds x) (w : World) : Calls Tryz.prog 7 #[.agg (recC x).toArray] w (BytE x w) := by
  obtain ⟨D, hD⟩ : ∃ D, D = recC x := ⟨_, rfl⟩
  obtain ⟨W, hW⟩ : ∃ W, w.alloc (.cells D.toArray 24) = W := ⟨_, rfl⟩
  have B0 := Lib.hid (show Bel w W by rw [← hW]; exact (Bel.refl w).alloc _)
  have R0 := Lib.hid (show W.rangeAt w.heap.size 0 (recC x) by rw [← hW, hD]; exact rngB (Blk.new w (recC x).toArray 24))
  obtain ⟨p, hp⟩ : ∃ p, w.heap.size = p := ⟨_, rfl⟩
  rw [hp] at R0
  have HDl := Lib.hid (show D.length = 11 by rw [hD]; rfl)
  have R1 := Lib.hid (show W.rangeAt p 0 D by rw [hD]; exact R0.out)
  have CK := Lib.hid (check x hx)
  rw [← hD] at CK
  rw [← hD]
  have HX := Lib.hid hx
  have HP := Lib.hid hp
  have HW := Lib.hid hW
  clear hx hp hD hW
  go_enter Tryz.func7, Tryz.ntmps7
  go_upto_region 1 with fail
  rw [HW.out, HP.out]
  go_wp2_with (refine wpList_load_mid rfl 24 (.tmp 1) rfl p 0 rfl D _ R1.out Tryz.underlying24 rfl (by rw [HDl.out]; exact info_rec) ?_)
  refine (CK.out W).mono ?_
  rintro e w1 ⟨a, b, rfl, hC, k1⟩
  have B1 : Hid (Bel W w1) := Lib.hid k1
  have C1 := Lib.hid hC
  clear k1 hC
  by_cases ha : a = 0
  · subst ha
    obtain rfl := C1.out.zero
    go_wp2_with fail
    refine (fieldsR p w1).mono ?_
    rintro e w2 ⟨b, rfl, hF, k2⟩
    have B2 : Hid (Bel w1 w2) := Lib.hid k2
    have F2 := Lib.hid hF
    have R2 := Lib.hid (rng_bel (rng_bel R0.out B1.out) k2)
    clear k2 hF
    go_wp2_with fail
    go_loopw [6, 19] (fun u6 u19 wr => ∃ k : Nat, u19 = .int .i64 k ∧ k ≤ 11 ∧ wr.ownsRow w2.heap.size 5 1 u6 (encs x k).length ((encs x k).map (Value.int .u8)) ∧ Bel w2 wr) (fun _ u19 _ => 11 - (intOf u19).toNat)
    case atStart => exact ⟨0, rfl, by omega, ⟨rfl, .inl ⟨rfl, rfl⟩⟩, Bel.refl _⟩
    case round =>
      obtain ⟨k, rfl, hk, hown, hb⟩ := hrel
      have HO := Lib.hid hown
      have KB := Lib.hid hb
      clear hown hb
      by_cases hlt : k < 11
      · obtain ⟨c, h1, h2, h3⟩ := (F2.out.bel KB.out).all k hlt
        have hY0 : ∃ Y, Y = fldC (nm k) (lo k) (hi k) (gf k) (sf k) c := ⟨_, rfl⟩
        obtain ⟨Y, hY⟩ := hY0
        rw [← hY] at h1
        have HYl := Lib.hid (show Y.length = 5 by rw [hY]; rfl)
        have YI := Lib.hid (show (Tryz.prog.info? 55).map (·.size) = some Y.length by rw [HYl.out]; exact info_fld)
        have YI2 := Lib.hid (show (Tryz.prog.info? 55).map (·.size) = some Y.toArray.size by rw [List.size_toArray]; exact YI.out)
        have YO := Lib.hid (all_oneCell_toArray (cs := Y) (by rw [hY]; exact fldC_cells _ _ _ _ _ _))
        have HY := Lib.hid hY
        have R3 := Lib.hid h1
        obtain ⟨p1, p2, p3⟩ := put5 wr Y HYl.out
        have P1 := Lib.hid p1
        have P2 := Lib.hid p2
        have P3 := Lib.hid p3
        have C2 := Lib.hid h2
        clear h1 h2 h3 p1 p2 p3 hY
        go_upto_region 8 with (first | (refine wpList_load_mid rfl 55 (.tmp 21) rfl b (k * 5) rfl Y _ R3.out Tryz.underlying55 rfl YI.out ?_) | (refine wpList_store_mid rfl 55 (.tmp 8) (.tmp 22) rfl wr.heap.size 0 Y.toArray rfl rfl P1.out YI2.out YO.out ?_))
        obtain ⟨f, hf⟩ : ∃ f, wr.heap.size = f := ⟨_, rfl⟩
        obtain ⟨V, hV⟩ : ∃ V, (wr.alloc ZF).setCells wr.heap.size 0 Y = V := ⟨_, rfl⟩
        have hV' := hV
        rw [hf] at hV' ⊢
        rw [hV] at P2 P3
        rw [hf] at P3
        rw [hV']
        clear hV hV' hf
        have hcell := P3.out.cell 3 (v := .func (.func (gf k)) #[] #[.pointer (some ⟨c, 0, none⟩)]) (by rw [HY.out]; rfl)
        have okx := C1.out.ok.1 k hlt
        have xb := okF_b HX.out k hlt okx
        have lh := lohi k hlt
        have GA := Lib.hid (getAt c p k x V hlt (cell_bel C2.out P2.out) (rng_bel (rng_bel R2.out KB.out) P2.out))
        rw [wv_ok HX.out k hlt okx] at GA
        have PT := Lib.hid (Cd.put (x k) V (by omega) (by omega))
        have EL := Lib.hid (encs_len x k)
        have EL2 := Lib.hid (Cd.enc_len (x k)).2
        have HO2 := Lib.hid (owns_bel HO.out P2.out)
        have CF := enter_gf k hlt
        obtain ⟨zs, hzs⟩ : ∃ zs, Cd.enc (x k) = zs := ⟨_, rfl⟩
        rw [hzs] at PT EL2
        have HZS := Lib.hid hzs
        obtain ⟨v, hv⟩ : ∃ v, x k = v := ⟨_, rfl⟩
        rw [hv] at GA PT
        obtain ⟨g, hg⟩ : ∃ g, gf k = g := ⟨_, rfl⟩
        rw [hg] at hcell CF GA
        clear hv hg okx xb lh hzs
        go_wp2_with fail
        refine GA.out.mono ?_
        rintro e w4 ⟨rfl, rfl⟩
        go_wp2_with fail
        refine PT.out.mono ?_
        rintro e w4 ⟨v4, rfl, ho4, k4⟩
        have B4 : Hid (Bel V w4) := Lib.hid k4
        obtain ⟨A, cc, rfl, hsl⟩ := sl_of_own ho4
        have SL := Lib.hid hsl
        have HO3 := Lib.hid (owns_bel HO2.out k4)
        have BS := Lib.hid (show w2.heap.size ≤ w4.heap.size from Nat.le_trans (Below.size KB.out) (Nat.le_trans (Below.size P2.out) (Below.size k4)))
        have hbnd : (encs x k).length + zs.length ≤ 1000000000000 := by have := EL.out; have := EL2.out; omega
        clear ho4 k4 hsl hcell CF
        go_wp2_with (at_builtin; refine wpList_append_sl rfl _ _ rfl w2.heap.size u6 _ _ rfl HO3.out A zs.length cc zs rfl SL.out hbnd BS.out ?_; intro v' w5 hown' hgrow)
        refine ⟨⟨k + 1, by go_num, by omega, ?_, ?_⟩, ?_⟩
        · have e : encs x (k + 1) = encs x k ++ zs := by rw [← HZS.out]; rfl
          rw [e, List.map_append, List.length_append]
          exact hown'
        · exact ((KB.out.trans P2.out).trans B4.out).grown hgrow (fun j hj => (HO3.out.lt j hj).1)
        · simp [intOf]; omega
      · obtain rfl : k = 11 := by omega
        go_wp2_with fail
        go_ret2
        exact ⟨_, _, 0, rfl, .inl ⟨rfl, C1.out, rfl⟩, owns_mono HO.out (Below.size ((B0.out.trans B1.out).trans B2.out)), ((B0.out.trans B1.out).trans B2.out).trans KB.out⟩
  · go_wp2_with fail
    go_ret2
    exact ⟨.slice none 0 0, [], a, rfl, .inr ⟨ha, rfl, b, C1.out⟩, ⟨rfl, .inl ⟨rfl, rfl⟩⟩, B0.out.trans B1.out⟩
end Pm
end Go.Proofs.YtpohcdfmkcfonaaGreatDoor
