/-
  The walk of sum of a sponge: the hash of the bytes that it holds. Condition: a sponge that holds bytes, as a value.
-/
import Derived.Test.YtaniijpppmipbaaDoorKSum
namespace Go.Proofs.YtaniijpppmipbaaDoor
open Go.RowKit Go.Shelf
set_option linter.unusedVariables false
namespace Kk

abbrev Z32h : Obj := .cells #[.int .u8 0, .int .u8 0, .int .u8 0, .int .u8 0, .int .u8 0, .int .u8 0, .int .u8 0, .int .u8 0, .int .u8 0, .int .u8 0, .int .u8 0, .int .u8 0, .int .u8 0, .int .u8 0, .int .u8 0, .int .u8 0, .int .u8 0, .int .u8 0, .int .u8 0, .int .u8 0, .int .u8 0, .int .u8 0, .int .u8 0, .int .u8 0, .int .u8 0, .int .u8 0, .int .u8 0, .int .u8 0, .int .u8 0, .int .u8 0, .int .u8 0, .int .u8 0] 31
theorem z32h : (#[.int .u8 0, .int .u8 0, .int .u8 0, .int .u8 0, .int .u8 0, .int .u8 0, .int .u8 0, .int .u8 0, .int .u8 0, .int .u8 0, .int .u8 0, .int .u8 0, .int .u8 0, .int .u8 0, .int .u8 0, .int .u8 0, .int .u8 0, .int .u8 0, .int .u8 0, .int .u8 0, .int .u8 0, .int .u8 0, .int .u8 0, .int .u8 0, .int .u8 0, .int .u8 0, .int .u8 0, .int .u8 0, .int .u8 0, .int .u8 0, .int .u8 0, .int .u8 0] : Array Value) = (hN zero 0).toArray := rfl
/-- A hash as a value. -/
abbrev hsV (hs : List Int) : Value := .agg (hs.map B8).toArray
theorem sliceHash (b l : Nat) (hl : l < 32) (w : World) :
    (Instr.sliceAt 31 (.pointer (some ⟨b, 0, none⟩)) (some (.int .i64 (l : Int))) none none).run Tryd.prog w = .ok (.slice (some ⟨b, l, none⟩) (32 - l) (32 - l)) w := by
  have al : Tryd.prog.arrayLen 31 = 32 := by kernel_rfl
  have el : Tryd.prog.elem 31 = 5 := by kernel_rfl
  rw [run_sliceAt_array_l (P := Tryd.prog) w 31 ⟨b, 0, none⟩ (by rw [al, el]; exact Tryd.underlying31) .i64 (l : Int) (by omega) (by rw [al]; omega), al, el]
  have hs : ∀ w, (sizeOf 5).run Tryd.prog w = .ok 1 w := Tryd.sizeOf5
  rw [hs w]
  simp only [Result.andThen, slicedAt, Int.toNat_natCast]
  rw [if_neg (by omega), Addr.add_mid, Nat.mul_one, Nat.zero_add]
theorem info_hash : (Tryd.prog.info? 31).map (·.size) = some 32 := by kernel_rfl
theorem info_8 : (Tryd.prog.info? 76).map (·.size) = some 8 := by kernel_rfl

/-- The end of sum: the words of the state go into the hash. -/
structure Ends (W : World) (h : Nat) (A : List Wd) (bs : List Int) (n : Int) (base : World) : Prop where
  sp : Sp W h 59 [] A 23 bs 0 n
  row : Blk W (h + 1) (hN A 0).toArray 31
  bel : Bel base W
  low : base.heap.size ≤ h

/-- The bytes that end: one after the other. -/
theorem sp_end {w : World} {h : Nat} {A : List Wd} {r : Int} {bs : List Int} {c : Nat} {n : Int} (hs : Sp w h 59 [] A r bs c n) (hc : c < 136) :
    Sp ((w.setCell ⟨h, 50 + c, none⟩ (.int .u8 6)).setCells h (50 + (c + 1)) (List.replicate (135 - c) (.int .u8 0))) h 59 [] A r (ended (bs.take c)) c n := by
  have hl := hs.lb
  have h1 := hs.setByte hc 6
  rw [show ([] : List Value).length + 50 + c = 50 + c by simp] at h1
  have h2 := h1.bytesSet (k := c + 1) (ys := List.replicate (135 - c) 0) (by simp; omega)
  rw [show ([] : List Value).length + 50 + (c + 1) = 50 + (c + 1) by simp, List.map_replicate] at h2
  have e : (bs.set c 6).take (c + 1) ++ (List.replicate (135 - c) 0 ++ (bs.set c 6).drop (c + 1 + (List.replicate (135 - c) (0 : Int)).length)) = ended (bs.take c) := by
    rw [List.drop_of_length_le (by simp; omega), List.append_nil]
    unfold ended
    rw [show (bs.take c).length = c by simp; omega, List.take_succ_eq_append_getElem (by simp; omega), List.getElem_set_self, List.take_set_of_le (Nat.le_refl _), List.append_assoc]
    rfl
  rw [e] at h2
  exact h2

set_option maxRecDepth 100000 in
set_option maxHeartbeats 2000000 in
theorem sum (A : List Wd) (r : Int) (bs : List Int) (c : Nat) (data : List Int) (n : Int) (w : World) (hA : A.length = 25) (hd : Hd data A bs c) (hT : Tn w) :
    Calls Tryd.prog 40 #[spV A r bs c n] w fun e w' => e = .returned (hsV (sumOf data)) ∧ Bel w w' := by
  have h0 := hT.1
  have hc := hd.lt
  obtain ⟨C, hC⟩ : ∃ C, C = (spCells A r bs c n).toArray := ⟨_, rfl⟩
  rw [show spV A r bs c n = .agg C by rw [hC]]
  obtain ⟨h, hh⟩ : ∃ h, h = w.heap.size := ⟨_, rfl⟩
  have S0 := Lib.hid (show Sp ((w.alloc (.cells C 59)).alloc Z32h) h 59 [] A r bs c n from ⟨by rw [hh, hC]; exact (Blk.new w _ _).alloc _, hA, hd.len⟩)
  have R0 := Lib.hid (show Blk ((w.alloc (.cells C 59)).alloc Z32h) (h + 1) (hN A 0).toArray 31 by
    have := Blk.new (w.alloc (.cells C 59)) #[.int .u8 0, .int .u8 0, .int .u8 0, .int .u8 0, .int .u8 0, .int .u8 0, .int .u8 0, .int .u8 0, .int .u8 0, .int .u8 0, .int .u8 0, .int .u8 0, .int .u8 0, .int .u8 0, .int .u8 0, .int .u8 0, .int .u8 0, .int .u8 0, .int .u8 0, .int .u8 0, .int .u8 0, .int .u8 0, .int .u8 0, .int .u8 0, .int .u8 0, .int .u8 0, .int .u8 0, .int .u8 0, .int .u8 0, .int .u8 0, .int .u8 0, .int .u8 0] 31
    rw [World.size_alloc, ← hh] at this
    exact this)
  have HB := Lib.hid (show Bel w ((w.alloc (.cells C 59)).alloc Z32h) from ((Bel.refl w).alloc _).alloc _)
  have HH := Lib.hid hh
  have HT := Lib.hid hT
  have HD := Lib.hid hd
  clear hC hT hd
  go_enter Tryd.func40, Tryd.ntmps40
  go_upto_region 1 with fail
  obtain ⟨W, hW⟩ : ∃ W, (w.alloc (.cells C 59)).alloc Z32h = W := ⟨_, rfl⟩
  rw [hW] at S0 R0 HB ⊢
  rw [← hh] at h0 ⊢
  clear hW hh
  have c0 : W.cell? ⟨h, 186, none⟩ = some (.int .i64 (c : Int)) := S0.out.count
  have f0 : W.frozen? ⟨h, 50 + c, none⟩ = false := S0.out.frozen _
  have k0 : W.cell? ⟨h, 50 + c, none⟩ = some (.int .u8 (bs.getD c 0)) := by
    have := S0.out.byte (i := c) hc
    rwa [show ([] : List Value).length + 50 + c = 50 + c by simp] at this
  obtain ⟨q, sl, sp2, th2⟩ : ∃ q, (∀ w, (Instr.sliceAt 55 (.pointer (some ⟨h, 50, none⟩)) (some (.int .i64 ((c : Int) + 1))) none none).run Tryd.prog w = .ok (.slice (some ⟨h, q, none⟩) (135 - c) (135 - c)) w) ∧
      Sp ((W.setCell ⟨h, 50 + c, none⟩ (.int .u8 6)).setCells h q (List.replicate (135 - c) (.int .u8 0))) h 59 [] A r (ended (bs.take c)) c n ∧ (W.setCell ⟨h, 50 + c, none⟩ (.int .u8 6)).there h q (135 - c) := by
    have he := sp_end S0.out hc
    by_cases h135 : c = 135
    · subst h135
      exact ⟨50, fun w => sliceArrEnd h 50 w, he, fun j hj => by omega⟩
    · refine ⟨50 + (c + 1), fun w => ?_, he, ?_⟩
      · have := sliceArr h 50 (c + 1) (by omega) w
        rw [show ((c + 1 : Nat) : Int) = (c : Int) + 1 by omega, show 136 - (c + 1) = 135 - c by omega] at this
        exact this
      · have h1 := S0.out.setByte hc 6
        rw [show ([] : List Value).length + 50 + c = 50 + c by simp] at h1
        exact h1.there (by simp; omega)
  have SP2 := Lib.hid sp2
  have TH2 := Lib.hid th2
  obtain ⟨x, hx⟩ : ∃ x, x = (ended (bs.take c)).getD 135 0 := ⟨_, rfl⟩
  have c185 : ((W.setCell ⟨h, 50 + c, none⟩ (.int .u8 6)).setCells h q (List.replicate (135 - c) (.int .u8 0))).cell? ⟨h, 185, none⟩ = some (.int .u8 x) := by
    rw [hx]; exact sp2.byte (i := 135) (by omega)
  have f185 : ((W.setCell ⟨h, 50 + c, none⟩ (.int .u8 6)).setCells h q (List.replicate (135 - c) (.int .u8 0))).frozen? ⟨h, 185, none⟩ = false := sp2.frozen _
  have rst := HD.out.rest
  have sp3 : Sp (((W.setCell ⟨h, 50 + c, none⟩ (.int .u8 6)).setCells h q (List.replicate (135 - c) (.int .u8 0))).setCell ⟨h, 185, none⟩ (.int .u8 (bits .xor .u8 x 128))) h 59 [] A r (pad (bs.take c)) c n := by
    have := sp2.setByte (i := 135) (by omega) (bits .xor .u8 x 128)
    rw [hx] at this ⊢
    exact this
  have k3 : Kep (fun i => i = h) W (((W.setCell ⟨h, 50 + c, none⟩ (.int .u8 6)).setCells h q (List.replicate (135 - c) (.int .u8 0))).setCell ⟨h, 185, none⟩ (.int .u8 (bits .xor .u8 x 128))) := (((Kep.refl _ W).set_self _ _).trans (kep_setCellsK h _ q _)).set_self _ _
  have AB := Lib.hid (absorb h 59 [] A r (pad (bs.take c)) c n _ sp3 (by_pad (HD.out.by_.take c)) ((HT.out.bel HB.out).kep k3 (by omega)) (by omega))
  have EA := Lib.hid (show absorbed A (pad (bs.take c)) = lastSt data by
    unfold lastSt
    rw [← HD.out.st, ← rst])
  have K3 := Lib.hid k3
  clear sp2 th2 hx rst sp3 k3
  go_wp2_with (refine wpList_clear rfl (.tmp 17) rfl h q (135 - c) (135 - c) rfl TH2.out ?_)
  refine (AB.out).mono ?_
  rintro e w4 ⟨rfl, hs4, hk4⟩
  rw [EA.out] at hs4
  obtain ⟨X, hX⟩ : ∃ X, X = lastSt data := ⟨_, rfl⟩
  rw [← hX] at hs4
  have HX := Lib.hid hX
  have S4 := Lib.hid hs4
  have K4 := Lib.hid (K3.out.trans hk4)
  have R4 := Lib.hid ((R0.out.kep K4.out (by omega)))
  have B4 := Lib.hid (Kep.bel HB.out K4.out (fun i hi => by rw [hi, HH.out]; exact Nat.le_refl _))
  have L4 := R4.out.lt
  clear hs4 hk4 hX AB EA K3 S0 R0 SP2 TH2 c0 f0 k0 c185 f185 sl
  go_wp2
  go_loopw [27] (fun i wr => ∃ k : Nat, i = .int .i64 k ∧ k ≤ 4 ∧ Blk wr (h + 1) (hN X k).toArray 31 ∧ Kep (fun i => i = h + 1) w4 wr) (fun i _ => 4 - (intOf i).toNat)
  case atStart => exact ⟨0, rfl, by omega, R4.out, Kep.refl _ _⟩
  case round =>
    obtain ⟨k, rfl, hk, hs, hkep⟩ := hrel
    have HS := Lib.hid hs
    have HK := Lib.hid hkep
    by_cases hlt : k < 4
    · have k0 : wr.cell? ⟨h, 0 + k, none⟩ = some (.int .u64 (U (g X k))) := (S4.out.kep hkep (by omega)).word (by omega)
      rw [show 0 + k = k / 5 * 5 + k % 5 by omega] at k0
      clear hs hkep
      go_wp2_with fail
      refine (split _ _).mono ?_
      rintro e w5 ⟨rfl, h5⟩
      have H5 : Bel wr w5 := h5
      clear h5 k0
      obtain ⟨Y, hY⟩ : ∃ Y, Y = (bytesOf (g X k)).map B8 := ⟨_, rfl⟩
      rw [← hY]
      have HYl := Lib.hid (show Y.length = 8 by rw [hY]; exact len_b8 _)
      have HYs := Lib.hid (show Y.toArray.size = 8 by rw [List.size_toArray]; exact HYl.out)
      have HYo := Lib.hid (show ∀ v ∈ Y, v.oneCell' = true by rw [hY]; exact ints_b8 _)
      have HYo2 := Lib.hid (all_oneCell_toArray (cs := Y) HYo.out)
      have HY := Lib.hid hY
      have TY := Lib.hid (show (w5.alloc (.cells #[.int .u8 0, .int .u8 0, .int .u8 0, .int .u8 0, .int .u8 0, .int .u8 0, .int .u8 0, .int .u8 0] 76)).there w5.heap.size 0 Y.toArray.size by
        rw [HYs.out]; exact there_newK (by decide))
      have IY := Lib.hid (show (Tryd.prog.info? 76).map (·.size) = some Y.toArray.size by rw [HYs.out]; exact info_8)
      clear hY
      go_wp2_with (refine wpList_store_mid rfl 76 (.tmp 4) (.tmp 39) rfl w5.heap.size 0 Y.toArray rfl rfl TY.out IY.out HYo2.out ?_)
      obtain ⟨w6, hw6⟩ : ∃ w6, (w5.alloc (.cells #[.int .u8 0, .int .u8 0, .int .u8 0, .int .u8 0, .int .u8 0, .int .u8 0, .int .u8 0, .int .u8 0] 76)).setCells w5.heap.size 0 Y = w6 := ⟨_, rfl⟩
      have K6 : Kep (fun _ => False) w5 w6 := by
        rw [← hw6]
        exact Kep.of_bel (Kep.bel ((Bel.refl w5).alloc _) (kep_setCellsK w5.heap.size Y 0 _) (fun i hi => by rw [hi]; exact Nat.le_refl _))
      have Q6 := Lib.hid (show w6.rangeAt w5.heap.size 0 Y by
        rw [← hw6]
        exact World.rangeAt_setCells_same _ _ _ _ (by have := TY.out; rw [HYs.out] at this; rw [HYl.out]; exact this))
      rw [hw6]
      have KK6 : Kep (fun i => i = h + 1) w4 w6 := (HK.out.trans (Kep.of_bel H5)).trans (K6.mono (fun _ _ e => e.elim))
      have HS6 := Lib.hid ((HS.out.bel H5).kep K6 (fun e => e))
      have HK6 := Lib.hid KK6
      obtain ⟨yb, hyb⟩ : ∃ yb, yb = w5.heap.size := ⟨_, rfl⟩
      rw [← hyb] at Q6 ⊢
      clear hw6 K6 KK6 TY IY H5 hyb HS HK
      have sh := fun w => sliceHash (h + 1) (k * 8) (by omega) w
      rw [show ((k * 8 : Nat) : Int) = (k : Int) * 8 by omega] at sh
      have w8 : IntKind.i64.wrap ((k : Int) * 8) = (k : Int) * 8 := IntWalk.i64_in _ (by omega)
      have SR := Lib.hid (show ∀ j v, Y[j]? = some v → w6.drew.cell? ((⟨yb, 0, none⟩ : Addr).add j) = some v from fun j v hv => by
        rw [Addr.add_mid]
        exact Q6.out j v hv)
      have TH := Lib.hid (show w6.drew.there (h + 1) (k * 8) 8 from (HS6.out.bel (Bel.refl w6).drew).there _ _ (by rw [List.size_toArray, len_hN]; omega))
      have MN := Lib.hid (show 8 = Nat.min 8 (32 - k * 8) from (Nat.min_eq_left (by omega)).symm)
      go_wp2
      go_region_law (refine step_copy_cells rfl (.tmp 42) (.tmp 43) rfl (h + 1) (k * 8) (32 - k * 8) (32 - k * 8) ⟨yb, 0, none⟩ 8 8 rfl rfl Y 8 HYl.out MN.out SR.out TH.out HYo.out ?_)
      have HS7 := Lib.hid (show Blk (w6.drew.setCells (h + 1) (k * 8) Y) (h + 1) (hN X (k + 1)).toArray 31 by
        rw [HY.out]
        exact hN_step X hlt (HS6.out.bel (Bel.refl w6).drew))
      have HK7 := Lib.hid ((HK6.out.drew).trans (kep_setCellsK (h + 1) Y (k * 8) w6.drew))
      clear HS6 HK6 SR TH Q6 MN
      go_wp2
      go_roundw
      case rel => exact ⟨k + 1, by go_num, by omega, HS7.out, HK7.out⟩
      case measure => simp [intOf] <;> omega
    · obtain rfl : k = 4 := by omega
      have RE := blk_range (show Blk wr (h + 1) ((hashOf X).map B8).toArray 31 from hs)
      have HRE := Lib.hid RE
      have HBE := Lib.hid (Kep.bel B4.out hkep (fun i hi => by rw [hi, HH.out]; omega))
      clear hs hkep HS HK RE
      go_wp2
      refine bodyPost_ret (results_c1 Tryd.results40 _ _ ⟨h + 1, 0, none⟩ _ rfl (run_loadVar_mid (P := Tryd.prog) _ (h + 1) 0 31 _ _ HRE.out Tryd.underlying31 rfl (by rw [List.length_map, len_hashOf]; exact info_hash))) rfl ⟨by rw [HX.out]; rfl, HBE.out⟩
end Kk
end Go.Proofs.YtaniijpppmipbaaDoor
