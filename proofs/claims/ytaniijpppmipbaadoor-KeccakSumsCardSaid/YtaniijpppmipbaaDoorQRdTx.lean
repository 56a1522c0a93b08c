/-
  What the reference's value, Read and Text answer. Conditions: a text that is not too long; a hash has 32 bytes.
-/
import Derived.Test.YtaniijpppmipbaaDoorKRead
namespace Go.Proofs.YtaniijpppmipbaaDoor
open Go.RowKit Go.Shelf
set_option linter.unusedVariables false
namespace Kk

def dgt (k : Nat) : UInt8 := digits.data.toList.getD k 0
theorem dv_hit {k : Nat} (h : k < 16) : dv (dgt k) = (k : Int) := by
  have : ∀ m : Fin 16, dv (dgt m.1) = ((m.1 : Nat) : Int) := by decide +kernel
  exact this ⟨k, h⟩
theorem dv_miss {c : UInt8} (h : ∀ k, k < 16 → dgt k ≠ c) : dv c = -1 := by
  have : ∀ m : Fin 256, dv (UInt8.ofNat m.1) = -1 ∨ ∃ k : Fin 16, dgt k.1 = UInt8.ofNat m.1 := by decide +kernel
  have hc : UInt8.ofNat c.toNat = c := UInt8.ofNat_toNat
  rcases this ⟨c.toNat, c.toNat_lt⟩ with h1 | ⟨k, h1⟩
  · rw [← hc]; exact h1
  · exact absurd (h1.trans hc) (h k.1 k.2)
theorem dgt_idx {k : Nat} (h : k < 16) (w : World) : (Instr.index 9 (.string digits) (.int .i64 (k : Int))).run Tryd.prog w = .ok (.int .u8 ((dgt k).toNat : Int)) w := idx_str digits k (by exact h) w

theorem refValue (c : UInt8) (w : World) :
    Calls Tryd.prog 35 #[.int .u8 ((c.toNat : Nat) : Int)] w fun e w' => e = .returned (.int .i64 (dv c)) ∧ w' = w := by
  go_enter Tryd.func35, Tryd.ntmps35
  go_wp2
  go_loop [3] (fun i => ∃ k : Nat, i = .int .i64 k ∧ k ≤ 16 ∧ ∀ j, j < k → dgt j ≠ c) (fun i => 16 - (intOf i).toNat)
  case atStart => exact ⟨0, rfl, by omega, fun j hj => absurd hj (by omega)⟩
  case round =>
    obtain ⟨k, rfl, hk, hm⟩ := hrel
    by_cases hlt : k < 16
    · have ix := dgt_idx hlt
      have hlt' : (k : Int) < 16 := by omega
      by_cases hc : dgt k = c
      · have DV := Lib.hid (show dv c = (k : Int) by rw [← hc]; exact dv_hit hlt)
        rw [hc] at ix
        clear hc hm
        go_wp2
        go_ret
        exact ⟨by rw [DV.out]; rfl, rfl⟩
      · have hne : ¬ (((dgt k).toNat : Nat) : Int) = ((c.toNat : Nat) : Int) := fun e => hc (UInt8.toNat_inj.1 (by omega))
        have HM := Lib.hid (show ∀ j, j < k + 1 → dgt j ≠ c from fun j hj => by
          rcases Nat.lt_or_ge j k with h | h
          · exact hm j h
          · obtain rfl : j = k := by omega
            exact hc)
        clear hm hc
        generalize ((dgt k).toNat : Int) = x at *
        go_wp2
        go_round
        case rel => exact ⟨k + 1, by go_num, by omega, HM.out⟩
        case measure => simp [intOf] <;> omega
    · obtain rfl : k = 16 := by omega
      have DV := Lib.hid (dv_miss hm)
      clear hm
      go_wp2
      go_ret
      exact ⟨by rw [DV.out]; rfl, rfl⟩

theorem rdB_two (ds : Nat → Int) {k : Nat} (h : k < 32) : ((rdB ds (2 * k)).map B8).toArray.setIfInBounds k (.int .u8 (16 * ds (2 * k) + ds (2 * k + 1))) = ((rdB ds (2 * (k + 1))).map B8).toArray := by
  rw [List.setIfInBounds_toArray]
  congr 1
  apply List.ext_getElem (by simp [rdB])
  intro i h1 h2
  have hi : i < 32 := by simpa [rdB] using h1
  simp only [List.getElem_set, rdB, List.getElem_map, List.getElem_range]
  by_cases hk : k = i
  · subst hk
    rw [if_pos rfl]
    unfold rdE
    rw [if_pos (by omega)]
  · rw [if_neg hk]
    unfold rdE
    by_cases h3 : i < k
    · rw [if_pos (by omega), if_pos (by omega)]
    · rw [if_neg (by omega), if_neg (by omega), if_neg (by omega), if_neg (by omega)]

set_option maxRecDepth 100000 in
set_option maxHeartbeats 4000000 in
theorem refRead (s : ByteArray) (w : World) (hl : s.size = 64) :
    Calls Tryd.prog 15 #[.string s] w fun e w' => RdPost s e ∧ Bel w w' := by
  obtain ⟨h, hh⟩ : ∃ h, h = w.heap.size := ⟨_, rfl⟩
  obtain ⟨W, hW⟩ : ∃ W, (w.alloc (.cells Z32l.toArray 31)).alloc (.cells Z32l.toArray 31) = W := ⟨_, rfl⟩
  have HW := Lib.hid hW
  have HH := Lib.hid hh
  have BW := Lib.hid (show Bel w W by rw [← hW]; exact ((Bel.refl w).alloc _).alloc _)
  have TH := Lib.hid (show W.there h 0 32 by rw [← hW, hh]; exact World.there_alloc (there_newK (by decide)) _)
  have B0 := Lib.hid (show Blk W (h + 1) ((rdB (dvs s) (2 * 0)).map B8).toArray 31 by
    have := Blk.new (w.alloc (.cells Z32l.toArray 31)) Z32l.toArray 31
    rw [World.size_alloc, ← hh, hW] at this
    exact this)
  have SZ := Lib.hid hl
  have hl2 : (s.size : Int) = 64 := by omega
  obtain ⟨Y, hY⟩ : ∃ Y, Y = Z32l := ⟨_, rfl⟩
  have HYl := Lib.hid (show Y.length = 32 by rw [hY]; rfl)
  have HYs := Lib.hid (show Y.toArray.size = 32 by rw [hY]; rfl)
  have HYo := Lib.hid (all_oneCell_toArray (cs := Y) (by rw [hY]; exact ints_b8 (List.replicate 32 0)))
  have HYi := Lib.hid (show (Tryd.prog.info? 31).map (·.size) = some Y.toArray.size by rw [HYs.out]; exact info_hash)
  have HY := Lib.hid hY
  clear hW hh hY
  go_enter Tryd.func15, Tryd.ntmps15
  go_upto_region 2 with fail
  rw [HW.out, ← HH.out]
  go_wp2
  go_loopw [5] (fun i wr => ∃ k : Nat, i = .int .i64 k ∧ k ≤ 32 ∧ (∀ i, i < 2 * k → 0 ≤ dvs s i) ∧ Blk wr (h + 1) ((rdB (dvs s) (2 * k)).map B8).toArray 31 ∧ Kep (fun i => i = h + 1) W wr) (fun i _ => 32 - (intOf i).toNat)
  case atStart => exact ⟨0, rfl, by omega, fun i hi => absurd hi (by omega), B0.out, Kep.refl _ _⟩
  case round =>
    obtain ⟨k, rfl, hk, hpos, hs, hkep⟩ := hrel
    have HS := Lib.hid hs
    have HK := Lib.hid hkep
    have HP := Lib.hid hpos
    by_cases hlt : k < 32
    · have ix1 := idx_str s (2 * k) (by omega)
      have ix2 := idx_str s (2 * k + 1) (by omega)
      rw [show ((2 * k : Nat) : Int) = 2 * (k : Int) by omega] at ix1
      rw [show ((2 * k + 1 : Nat) : Int) = 2 * (k : Int) + 1 by omega] at ix2
      have V1 := Lib.hid (fun W => refValue (s.data.toList.getD (2 * k) 0) W)
      have V2 := Lib.hid (fun W => refValue (s.data.toList.getD (2 * k + 1) 0) W)
      have E1 := Lib.hid (show dv (s.data.toList.getD (2 * k) 0) = dvs s (2 * k) from rfl)
      have E2 := Lib.hid (show dv (s.data.toList.getD (2 * k + 1) 0) = dvs s (2 * k + 1) from rfl)
      obtain ⟨a0, a1⟩ := dv_bd (s.data.toList.getD (2 * k) 0)
      obtain ⟨b0, b1⟩ := dv_bd (s.data.toList.getD (2 * k + 1) 0)
      obtain ⟨v0, k0⟩ : ∃ v, wr.cell? ⟨h + 1, k, none⟩ = some v := ⟨_, hs.cell k (rdB_at (dvs s) (2 * k) hlt)⟩
      have f0 := hs.frozen k
      have RS := Lib.hid (rdB_two (dvs s) hlt)
      rw [E1.out] at a0 a1 V1
      rw [E2.out] at b0 b1 V2
      generalize hc : s.data.toList.getD (2 * k) 0 = c1 at *
      generalize hd : s.data.toList.getD (2 * k + 1) 0 = c2 at *
      obtain ⟨a, ha⟩ : ∃ a, dvs s (2 * k) = a := ⟨_, rfl⟩
      obtain ⟨b, hb⟩ : ∃ b, dvs s (2 * k + 1) = b := ⟨_, rfl⟩
      rw [ha] at a0 a1 V1 RS
      rw [hb] at b0 b1 V2 RS
      have HA := Lib.hid ha
      have HB := Lib.hid hb
      have hlt' : (k : Int) < 32 := by omega
      have w1 : IntKind.i64.wrap (2 * (k : Int)) = 2 * k := IntWalk.i64_in _ (by omega)
      have w2 : IntKind.i64.wrap (2 * (k : Int) + 1) = 2 * k + 1 := IntWalk.i64_in _ (by omega)
      clear hs hkep hpos hc hd ha hb E1 E2
      go_wp2
      go_quiet (first | (go_at_call 35; with_reducible exact Calls.quiet_of_same (V1.out _)) | (go_at_call 35; with_reducible exact Calls.quiet_of_same (V2.out _)))
      have HS6 := Lib.hid (HS.out.bel ((Bel.refl wr).drewN nq))
      have HK6 := Lib.hid (HK.out.drewN nq)
      have k06 : (wr.drewN nq).cell? ⟨h + 1, k, none⟩ = some v0 := k0
      have f06 : (wr.drewN nq).frozen? ⟨h + 1, k, none⟩ = false := f0
      clear HS HK k0 f0 ix1 ix2
      generalize wr.drewN nq = w6 at *
      by_cases hna : a < 0
      · have THR := Lib.hid (show w6.there h 0 Y.toArray.size by rw [HYs.out]; exact there_kep TH.out HK6.out (by omega))
        go_wp2_with (refine wpList_store_mid rfl 31 (.tmp 2) (.tmp 33) rfl h 0 Y.toArray rfl (by rw [HY.out]; rfl) THR.out HYi.out HYo.out ?_)
        have RE : (w6.setCells h 0 Y).rangeAt h 0 Y := World.rangeAt_setCells_same _ _ _ _ (by have := THR.out; rw [HYs.out] at this; rw [HYl.out]; exact this)
        refine bodyPost_ret (results_ct Tryd.results15 _ _ ⟨h, 0, none⟩ (.agg Y.toArray) (.int .i64 5) rfl rfl (run_loadVar_mid (P := Tryd.prog) _ h 0 31 Y _ RE Tryd.underlying31 rfl (by rw [HYl.out]; exact info_hash))) rfl ⟨.inr ⟨⟨2 * k, by omega, by rw [HA.out]; exact hna⟩, by rw [HY.out]⟩, ?_⟩
        refine Kep.bel BW.out ((HK6.out.mono (T := fun i => i = h ∨ i = h + 1) (fun _ _ e => .inr e)).trans ((kep_setCellsK h Y 0 w6).mono (fun _ _ e => .inl e))) (fun i hi => ?_)
        have := HH.out
        rcases hi with hi | hi <;> omega
      · by_cases hnb : b < 0
        · have THR := Lib.hid (show w6.there h 0 Y.toArray.size by rw [HYs.out]; exact there_kep TH.out HK6.out (by omega))
          go_wp2_with (refine wpList_store_mid rfl 31 (.tmp 2) (.tmp 33) rfl h 0 Y.toArray rfl (by rw [HY.out]; rfl) THR.out HYi.out HYo.out ?_)
          have RE : (w6.setCells h 0 Y).rangeAt h 0 Y := World.rangeAt_setCells_same _ _ _ _ (by have := THR.out; rw [HYs.out] at this; rw [HYl.out]; exact this)
          refine bodyPost_ret (results_ct Tryd.results15 _ _ ⟨h, 0, none⟩ (.agg Y.toArray) (.int .i64 5) rfl rfl (run_loadVar_mid (P := Tryd.prog) _ h 0 31 Y _ RE Tryd.underlying31 rfl (by rw [HYl.out]; exact info_hash))) rfl ⟨.inr ⟨⟨2 * k + 1, by omega, by rw [HB.out]; exact hnb⟩, by rw [HY.out]⟩, ?_⟩
          refine Kep.bel BW.out ((HK6.out.mono (T := fun i => i = h ∨ i = h + 1) (fun _ _ e => .inr e)).trans ((kep_setCellsK h Y 0 w6).mono (fun _ _ e => .inl e))) (fun i hi => ?_)
          have := HH.out
          rcases hi with hi | hi <;> omega
        · have x1 : IntKind.i64.wrap (16 * a) = 16 * a := IntWalk.i64_in _ (by omega)
          have x2 : IntKind.i64.wrap (16 * a + b) = 16 * a + b := IntWalk.i64_in _ (by omega)
          have x3 : IntKind.u8.wrap (16 * a + b) = 16 * a + b := by rw [IntKind.wrap_u8]; omega
          have HPK := Lib.hid (show ∀ i, i < 2 * (k + 1) → 0 ≤ dvs s i from fun i hi => by
            rcases Nat.lt_or_ge i (2 * k) with h3 | h3
            · exact HP.out i h3
            · obtain rfl | rfl : i = 2 * k ∨ i = 2 * k + 1 := by omega
              · rw [HA.out]; omega
              · rw [HB.out]; omega)
          go_wp2
          go_roundw
          case rel =>
            refine ⟨k + 1, by go_num, by omega, HPK.out, ?_, HK6.out.set_self _ _⟩
            have h2 := HS6.out.set k (.int .u8 (16 * a + b))
            rw [RS.out] at h2
            exact h2
          case measure => simp [intOf] <;> omega
    · obtain rfl : k = 32 := by omega
      rw [show 2 * 32 = 64 from rfl] at hs hpos
      obtain ⟨X, hX⟩ : ∃ X, X = (rdB (dvs s) 64).map B8 := ⟨_, rfl⟩
      rw [← hX] at hs
      have HXl := Lib.hid (show X.length = 32 by rw [hX, List.length_map, rdB_len])
      have XI := Lib.hid (show (Tryd.prog.info? 31).map (·.size) = some X.length by rw [HXl.out]; exact info_hash)
      have XS := Lib.hid (show X.toArray.size = X.length from List.size_toArray)
      have XI2 := Lib.hid (show (Tryd.prog.info? 31).map (·.size) = some X.toArray.size by rw [XS.out]; exact XI.out)
      have XO := Lib.hid (all_oneCell_toArray (cs := X) (by rw [hX]; exact ints_b8 _))
      have RX := Lib.hid (blk_range hs)
      have TX := Lib.hid (show wr.there h 0 X.toArray.size by rw [XS.out, HXl.out]; exact there_kep TH.out hkep (by omega))
      have HX := Lib.hid hX
      have HP2 := Lib.hid hpos
      clear hs hpos hX HS HP hkep
      go_wp2_with (first | (refine wpList_load_mid rfl 31 (.tmp 4) rfl (h + 1) 0 rfl X _ RX.out Tryd.underlying31 rfl XI.out ?_) | (refine wpList_store_mid rfl 31 (.tmp 2) (.tmp 41) rfl h 0 X.toArray rfl rfl TX.out XI2.out XO.out ?_))
      have RE : (wr.setCells h 0 X).rangeAt h 0 X := World.rangeAt_setCells_same _ _ _ _ (by have e := XS.out; have e2 := TX.out; rw [e] at e2; exact e2)
      refine bodyPost_ret (results_ct Tryd.results15 _ _ ⟨h, 0, none⟩ (.agg X.toArray) (.int .i64 0) rfl rfl (run_loadVar_mid (P := Tryd.prog) _ h 0 31 X _ RE Tryd.underlying31 rfl XI.out)) rfl ⟨.inl ⟨HP2.out, by rw [HX.out]⟩, ?_⟩
      refine Kep.bel BW.out ((HK.out.mono (T := fun i => i = h ∨ i = h + 1) (fun _ _ e => .inr e)).trans ((kep_setCellsK h X 0 wr).mono (fun _ _ e => .inl e))) (fun i hi => ?_)
      have := HH.out
      rcases hi with hi | hi <;> omega

set_option maxRecDepth 100000 in
set_option maxHeartbeats 2000000 in
theorem refRead_len (s : ByteArray) (w : World) (hl : s.size ≠ 64) (hm : s.size ≤ 1000000000000) :
    Calls Tryd.prog 15 #[.string s] w fun e w' => e = .returned (.tuple #[.agg Z32l.toArray, .int .i64 5]) ∧ Bel w w' := by
  have hl' : ((s.size : Int) != 64) = true := by rw [bne_iff_ne]; omega
  have hl2 : ¬ (s.size : Int) = 64 := by omega
  obtain ⟨Y, hY⟩ : ∃ Y, Y = Z32l := ⟨_, rfl⟩
  have HYl := Lib.hid (show Y.length = 32 by rw [hY]; rfl)
  have HYs := Lib.hid (show Y.toArray.size = 32 by rw [hY]; rfl)
  have HYo := Lib.hid (all_oneCell_toArray (cs := Y) (by rw [hY]; exact ints_b8 (List.replicate 32 0)))
  have HYi := Lib.hid (show (Tryd.prog.info? 31).map (·.size) = some Y.toArray.size by rw [HYs.out]; exact info_hash)
  have HYi2 := Lib.hid (show (Tryd.prog.info? 31).map (·.size) = some Y.length by rw [HYl.out]; exact info_hash)
  obtain ⟨W, hW⟩ : ∃ W, (w.alloc (.cells Z32l.toArray 31)).alloc (.cells Z32l.toArray 31) = W := ⟨_, rfl⟩
  have TH := Lib.hid (show W.there w.heap.size 0 Y.toArray.size by rw [HYs.out, ← hW]; exact World.there_alloc (there_newK (by decide)) _)
  have HB := Lib.hid (show Bel w W by rw [← hW]; exact ((Bel.refl w).alloc _).alloc _)
  have RY := Lib.hid (show W.rangeAt (w.heap.size + 1) 0 Y by
    have := blk_range (Blk.new (w.alloc (.cells Z32l.toArray 31)) Z32l.toArray 31)
    rw [World.size_alloc, hW] at this
    rw [hY]
    exact this)
  have HY := Lib.hid hY
  have HW := Lib.hid hW
  clear hY hW
  go_enter Tryd.func15, Tryd.ntmps15
  go_upto_region 2 with fail
  rw [HW.out]
  go_wp2_with (first | (refine wpList_load_mid rfl 31 (.tmp 4) rfl (w.heap.size + 1) 0 rfl Y _ RY.out Tryd.underlying31 rfl HYi2.out ?_) | (refine wpList_store_mid rfl 31 (.tmp 2) (.tmp 11) rfl w.heap.size 0 Y.toArray rfl rfl TH.out HYi.out HYo.out ?_))
  have RE : (W.setCells w.heap.size 0 Y).rangeAt w.heap.size 0 Y := World.rangeAt_setCells_same _ _ _ _ (by have := TH.out; rw [HYs.out] at this; rw [HYl.out]; exact this)
  refine bodyPost_ret (results_ct Tryd.results15 _ _ ⟨w.heap.size, 0, none⟩ (.agg Y.toArray) (.int .i64 5) rfl rfl (run_loadVar_mid (P := Tryd.prog) _ w.heap.size 0 31 Y _ RE Tryd.underlying31 rfl (by rw [HYl.out]; exact info_hash))) rfl ⟨by rw [HY.out], ?_⟩
  exact Kep.bel HB.out (kep_setCellsK w.heap.size Y 0 _) (fun i hi => by rw [hi]; exact Nat.le_refl _)

theorem slice_dg (d : Int) (d0 : 0 ≤ d) (d1 : d < 16) (w : World) : (Instr.slice 9 (.string digits) (some (.int .u8 d)) (some (.int .u8 (d + 1))) none).run Tryd.prog w = .ok (.string ⟨#[UInt8.ofNat (dg d).toNat]⟩) w := by
  obtain rfl | rfl | rfl | rfl | rfl | rfl | rfl | rfl | rfl | rfl | rfl | rfl | rfl | rfl | rfl | rfl : d = 0 ∨ d = 1 ∨ d = 2 ∨ d = 3 ∨ d = 4 ∨ d = 5 ∨ d = 6 ∨ d = 7 ∨ d = 8 ∨ d = 9 ∨ d = 10 ∨ d = 11 ∨ d = 12 ∨ d = 13 ∨ d = 14 ∨ d = 15 := by omega
  all_goals kernel_rfl

set_option maxRecDepth 100000 in
set_option maxHeartbeats 2000000 in
theorem refText (hs : List Int) (w : World) (hl : hs.length = 32) (hb : By hs) :
    Calls Tryd.prog 21 #[hsV hs] w fun e w' => e = .returned (.string ⟨(asU8 (hex hs)).toArray⟩) ∧ Bel w w' := by
  obtain ⟨D, hD⟩ : ∃ D, D = hs.map B8 := ⟨_, rfl⟩
  rw [show hsV hs = .agg D.toArray by rw [hD]]
  have HDg := Lib.hid (show ∀ i, i < 32 → D.toArray[i]? = some (.int .u8 (hs.getD i 0)) from fun i hi => by
    rw [hD, List.getElem?_toArray, List.getElem?_map, List.getD_eq_getElem?_getD, List.getElem?_eq_getElem (by omega)]; rfl)
  have HBY := Lib.hid hb
  have HL := Lib.hid hl
  obtain ⟨h, hh⟩ : ∃ h, h = w.heap.size := ⟨_, rfl⟩
  obtain ⟨W, hW⟩ : ∃ W, w.alloc (.cells D.toArray 31) = W := ⟨_, rfl⟩
  have BD := Lib.hid (show Blk W h D.toArray 31 by rw [← hW, hh]; exact Blk.new w _ _)
  have HB := Lib.hid (show Bel w W by rw [← hW]; exact (Bel.refl w).alloc _)
  have HW := Lib.hid hW
  have HH := Lib.hid hh
  clear hD hb hW hh
  go_enter Tryd.func21, Tryd.ntmps21
  go_wp2_with fail
  rw [HW.out, ← HH.out]
  go_loopw [3, 4] (fun o i wr => ∃ k : Nat, i = .int .i64 k ∧ k ≤ 32 ∧ o = .string ⟨(asU8 (hex (hs.take k))).toArray⟩ ∧ Blk wr h D.toArray 31 ∧ Bel w wr) (fun _ i _ => 32 - (intOf i).toNat)
  case atStart => exact ⟨0, rfl, by omega, rfl, BD.out, HB.out⟩
  case round =>
    obtain ⟨k, rfl, hk, rfl, hs1, hbl⟩ := hrel
    have HS := Lib.hid hs1
    have HBl := Lib.hid hbl
    by_cases hlt : k < 32
    · have c0 := hs1.cell k (HDg.out k hlt)
      obtain ⟨z0, z1⟩ := HBY.out.at k
      have HX := Lib.hid (show (⟨(asU8 (hex (hs.take (k + 1)))).toArray⟩ : ByteArray) = (⟨(asU8 (hex (hs.take k))).toArray⟩ ++ ⟨#[UInt8.ofNat (dg (hs.getD k 0 / 16)).toNat]⟩) ++ ⟨#[UInt8.ofNat (dg (hs.getD k 0 % 16)).toNat]⟩ by
        have e : hex (hs.take (k + 1)) = (hex (hs.take k) ++ [dg (hs.getD k 0 / 16)]) ++ [dg (hs.getD k 0 % 16)] := by
          rw [← hex_snoc, List.take_succ_eq_append_getElem (by rw [HL.out]; exact hlt), getD_eq _ _ (by rw [HL.out]; exact hlt)]
        rw [e]
        unfold asU8
        rw [List.map_append, List.map_append, ByteArray.mk_append_mk, ByteArray.mk_append_mk]
        rfl)
      have HSZ := Lib.hid (show (⟨(asU8 (hex (hs.take k))).toArray⟩ : ByteArray).size ≤ 64 by
        show (asU8 (hex (hs.take k))).toArray.size ≤ 64
        rw [List.size_toArray]
        unfold asU8
        rw [List.length_map, hex_len, List.length_take]
        omega)
      generalize hs.getD k 0 = z at *
      obtain ⟨S0, hS0⟩ : ∃ S0, (⟨(asU8 (hex (hs.take k))).toArray⟩ : ByteArray) = S0 := ⟨_, rfl⟩
      rw [hS0] at HX HSZ ⊢
      have hlt' : (k : Int) < 32 := by omega
      have d1 : z.tdiv 16 = z / 16 := Int.tdiv_eq_ediv_of_nonneg z0
      have d2 : z.tmod 16 = z % 16 := Int.tmod_eq_emod_of_nonneg z0
      obtain ⟨X1, hX1⟩ : ∃ X1 : ByteArray, (⟨#[UInt8.ofNat (dg (z / 16)).toNat]⟩ : ByteArray) = X1 := ⟨_, rfl⟩
      obtain ⟨X2, hX2⟩ : ∃ X2 : ByteArray, (⟨#[UInt8.ofNat (dg (z % 16)).toNat]⟩ : ByteArray) = X2 := ⟨_, rfl⟩
      have l1 : X1.size = 1 := by rw [← hX1]; rfl
      have l2 : X2.size = 1 := by rw [← hX2]; rfl
      have c1 : ∀ w, (Op.stringOp .add S0 X1).run Tryd.prog w = .ok (.string (S0 ++ X1)) w := fun w => by
        rw [run_string_add_sum w _ _ (by rw [l1]; have := HSZ.out; show S0.size + 1 ≤ _; omega)]
      have c2 : ∀ w, (Op.stringOp .add (S0 ++ X1) X2).run Tryd.prog w = .ok (.string (S0 ++ X1 ++ X2)) w := fun w => by
        rw [run_string_add_sum w _ _ (by rw [l2, ByteArray.size_append, l1]; have := HSZ.out; show S0.size + 1 + 1 ≤ _; omega)]
      have s1 := slice_dg (z / 16) (by omega) (by omega)
      have s2 := slice_dg (z % 16) (by omega) (by omega)
      rw [hX1] at HX s1
      rw [hX2] at HX s2
      clear hX1 hX2 l1 l2
      have w1 : IntKind.u8.wrap (z / 16) = z / 16 := by rw [IntKind.wrap_u8]; omega
      have w2 : IntKind.u8.wrap (z / 16 + 1) = z / 16 + 1 := by rw [IntKind.wrap_u8]; omega
      have w3 : IntKind.u8.wrap (z % 16) = z % 16 := by rw [IntKind.wrap_u8]; omega
      have w4 : IntKind.u8.wrap (z % 16 + 1) = z % 16 + 1 := by rw [IntKind.wrap_u8]; omega
      clear hs1 hbl hS0
      go_wp2
      go_quiet (fail)
      go_wp2
      go_roundw
      case rel => exact ⟨k + 1, by go_num, by omega, by rw [HX.out], HS.out.bel ((Bel.refl wr).drewN nq), HBl.out.drewN nq⟩
      case measure => simp [intOf] <;> omega
    · obtain rfl : k = 32 := by omega
      have HX := Lib.hid (show hs.take 32 = hs from List.take_of_length_le (by rw [HL.out]; exact Nat.le_refl _))
      clear hs1 hbl
      go_wp2
      go_ret
      rw [HX.out]
      exact ⟨rfl, HBl.out⟩
end Kk
end Go.Proofs.YtaniijpppmipbaaDoor
