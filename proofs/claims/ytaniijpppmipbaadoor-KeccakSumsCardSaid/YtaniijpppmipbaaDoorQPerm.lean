/-
  What the reference's Permute answers. Condition: a state has 25 words.
-/
import Derived.Test.YtaniijpppmipbaaDoorQRound
import Derived.Test.YtaniijpppmipbaaDoorQKeys
namespace Go.Proofs.YtaniijpppmipbaaDoor
open Go.RowKit Go.Shelf
set_option linter.unusedVariables false
namespace Kk

theorem wpStill_load_mid {ops : Array Oper} {Q : Act → Prop} {o : Oper} {rest : List Oper} {a : Act} {w : World} (hgd : o.guard = none) (ty : TypeId) (x : Operand) (ho : o.op = .load ty x)
    (b off : Nat) (hx : a.eval x = .pointer (some ⟨b, off, none⟩)) (cs : List Value) (d : TypeDesc) (hc : w.rangeAt b off cs)
    (hu : Tryd.prog.underlying ty = some d) (hd : d.isRow = true) (hi : (Tryd.prog.info? ty).map (·.size) = some cs.length)
    (h : wpStill Tryd.prog ops w Q rest (a.put o.dst (.agg cs.toArray))) : wpStill Tryd.prog ops w Q (o :: rest) a := by
  unfold wpStill
  rw [if_pos (by simp [Region.wanted, hgd])]
  unfold Oper.still execOp
  simp only [ho, hx, Instr.loadAt, Instr.sureAddr, Sem.run_bind, Sem.run_pure, Result.andThen_ok, run_loadVar_mid w b off ty cs d hc hu hd hi]
  exact ⟨rfl, h⟩

set_option maxRecDepth 100000 in
set_option maxHeartbeats 4000000 in
theorem refPermute (A : List Wd) (w : World) (hA : A.length = 25) :
    Calls Tryd.prog 23 #[.agg (A.map V).toArray] w fun e w' => e = .returned (.agg ((perm A).map V).toArray) ∧ Bel w w' := by
  obtain ⟨D, hD⟩ : ∃ D, D = A.map V := ⟨_, rfl⟩
  obtain ⟨h, hh⟩ : ∃ h, h = w.heap.size := ⟨_, rfl⟩
  rw [← hD]
  have HDl := Lib.hid (show D.length = 25 by rw [hD, List.length_map]; exact hA)
  obtain ⟨W2, hW2⟩ : ∃ W2, (w.alloc (.cells D.toArray 25)).alloc Z25w = W2 := ⟨_, rfl⟩
  have BA := Lib.hid (show Blk W2 h D.toArray 25 by rw [hh, ← hW2]; exact (Blk.new w _ _).alloc _)
  have TH := Lib.hid (show W2.there (h + 1) 0 25 by
    have := there_newK (w := w.alloc (.cells D.toArray 25)) (C := #[.int .u64 0, .int .u64 0, .int .u64 0, .int .u64 0, .int .u64 0, .int .u64 0, .int .u64 0, .int .u64 0, .int .u64 0, .int .u64 0, .int .u64 0, .int .u64 0, .int .u64 0, .int .u64 0, .int .u64 0, .int .u64 0, .int .u64 0, .int .u64 0, .int .u64 0, .int .u64 0, .int .u64 0, .int .u64 0, .int .u64 0, .int .u64 0, .int .u64 0]) (t := 25) (n := 25) (by decide)
    rw [World.size_alloc, ← hh] at this
    rw [← hW2]
    exact this)
  have HB := Lib.hid (show Bel w W2 by rw [← hW2]; exact ((Bel.refl w).alloc _).alloc _)
  have HS2 := Lib.hid (show W2.heap.size = h + 2 by rw [← hW2, hh]; simp)
  have HW2 := Lib.hid hW2
  have HDD := Lib.hid hD
  have HH := Lib.hid hh
  clear hD hh hW2
  obtain ⟨Q, hQ⟩ : ∃ Q, Q = K.map V := ⟨_, rfl⟩
  have HQl := Lib.hid (show Q.length = 24 by rw [hQ]; rfl)
  have QI := Lib.hid (show (Tryd.prog.info? 52).map (·.size) = some Q.length by rw [HQl.out]; kernel_rfl)
  have QS := Lib.hid (show Q.toArray.size = Q.length from List.size_toArray)
  have QI2 := Lib.hid (show (Tryd.prog.info? 52).map (·.size) = some Q.toArray.size by rw [QS.out]; exact QI.out)
  have QO := Lib.hid (all_oneCell_toArray (cs := Q) (by rw [hQ]; exact ints1 _))
  have HQ := Lib.hid hQ
  go_enter Tryd.func23, Tryd.ntmps23
  go_wp2_with fail
  rw [HW2.out, ← HH.out]
  refine (refKeys _).mono ?_
  rintro e w3 ⟨rfl, h3⟩
  have H3 : Bel W2 w3 := h3
  have h33 : h + 2 ≤ w3.heap.size := by rw [← HS2.out]; exact Below.size H3
  rw [← hQ]
  clear h3 hQ
  have TQ := Lib.hid (show (w3.alloc (.cells Z24 52)).there w3.heap.size 0 Q.toArray.size by
    rw [QS.out, HQl.out]
    exact there_newK (by decide))
  go_wp2_with (refine wpList_store_mid rfl 52 (.tmp 3) (.tmp 5) rfl w3.heap.size 0 Q.toArray rfl rfl TQ.out QI2.out QO.out ?_)
  obtain ⟨hr, hhr⟩ : ∃ hr, hr = w3.heap.size := ⟨_, rfl⟩
  obtain ⟨w4, hw4⟩ : ∃ w4, (w3.alloc (.cells Z24 52)).setCells w3.heap.size 0 Q = w4 := ⟨_, rfl⟩
  have R4 : w4.rangeAt hr 0 Q := by
    rw [← hw4, hhr]
    have e := QS.out
    exact World.rangeAt_setCells_same _ _ _ _ (e ▸ TQ.out)
  have S4 : w4.heap.size = hr + 1 := by rw [← hw4, hhr, size_setCells]; simp
  have B4 : Bel w3 w4 := by
    rw [← hw4]
    exact Kep.bel ((Bel.refl w3).alloc _) (kep_setCellsK w3.heap.size Q 0 _) (fun i hi => by rw [hi]; exact Nat.le_refl _)
  rw [hw4, ← hhr]
  rw [← hhr] at h33
  clear hw4 hhr
  have A4 := Lib.hid (show Blk w4 h ((permN 0 A).map V).toArray 25 by
    rw [show permN 0 A = A from rfl, ← HDD.out]
    exact (BA.out.bel H3).bel B4)
  have T4 := Lib.hid (there_bel (there_bel TH.out H3) B4)
  have BB4 := Lib.hid ((HB.out.trans H3).trans B4)
  have K4 := Lib.hid (show ∀ i, i < 24 → w4.cell? ⟨hr, i, none⟩ = some (.int .u64 (U (g K i))) from fun i hi => by
    have h1 := R4 i (V (g K i)) (by
      rw [HQ.out]
      have := key_at (A := K) rfl hi
      rwa [List.getElem?_toArray] at this)
    rwa [Nat.zero_add] at h1)
  have SS4 := Lib.hid S4
  clear R4 S4 B4 H3 BA TH HB TQ QO QI2 QI HQl HQ QS HW2 HDl
  go_loopw [4] (fun i wr => ∃ k : Nat, i = .int .i64 k ∧ k ≤ 24 ∧ Blk wr h ((permN k A).map V).toArray 25 ∧ Kep (fun i => i = h) w4 wr) (fun i _ => 24 - (intOf i).toNat)
  case atStart => exact ⟨0, rfl, by omega, A4.out, Kep.refl _ _⟩
  case round =>
    obtain ⟨k, rfl, hk, hs, hkep⟩ := hrel
    have HS := Lib.hid hs
    have HK := Lib.hid hkep
    have lP := len_permN hA k
    obtain ⟨P, hP⟩ : ∃ P, P = permN k A := ⟨_, rfl⟩
    rw [← hP] at hs lP
    obtain ⟨Y, hY⟩ : ∃ Y, Y = P.map V := ⟨_, rfl⟩
    rw [← hY] at hs
    have HYl := Lib.hid (show Y.length = 25 by rw [hY, List.length_map]; exact lP)
    have YI := Lib.hid (show (Tryd.prog.info? 25).map (·.size) = some Y.length by rw [HYl.out]; kernel_rfl)
    by_cases hlt : k < 24
    · have k0 : wr.cell? ⟨hr, k, none⟩ = some (.int .u64 (U (g K k))) := hkep.cell (by omega) (K4.out k hlt)
      have RY := Lib.hid (show wr.drew.rangeAt h 0 Y from blk_range (hs.bel (Bel.refl wr).drew))
      have CR := Lib.hid (show ∀ W, Calls Tryd.prog 47 #[.agg Y.toArray, .int .u64 (U (g K k))] W fun e w' => e = .returned (.agg ((permN (k + 1) A).map V).toArray) ∧ Bel W w' from fun W => by
        have hg : K.getD k 0 = g K k := rfl
        rw [permN_succ hlt, hg, ← hP, hY]
        exact refRound P (g K k) W lP)
      clear hs hkep hP hY
      go_wp2
      refine wp_region_still_tail 4 (by kernel_rfl) (by kernel_rfl) ?_
      simp only [List.take_succ_cons, List.take_zero, List.drop_succ_cons, List.drop_zero]
      refine wpStill_load_mid rfl 25 (.tmp 1) rfl h 0 rfl Y _ RY.out Tryd.underlying25 rfl YI.out ?_
      repeat still_step
      refine wpStill_nil ?_
      change wpList _ _ _ _ _ wr.drew
      go_wp2_with fail
      refine (CR.out _).mono ?_
      rintro e w6 ⟨rfl, h6⟩
      have H6 : Bel wr.drew w6 := h6
      have K6 := (HK.out.drew).trans (Kep.of_bel H6)
      have S6 := (HS.out.bel (Bel.refl wr).drew).bel H6
      obtain ⟨X, hX⟩ : ∃ X, X = (permN (k + 1) A).map V := ⟨_, rfl⟩
      rw [← hX]
      have HXl := Lib.hid (show X.length = 25 by rw [hX, List.length_map]; exact len_permN hA _)
      have XS := Lib.hid (show X.toArray.size = X.length from List.size_toArray)
      have XI2 := Lib.hid (show (Tryd.prog.info? 25).map (·.size) = some X.toArray.size by rw [XS.out, HXl.out]; kernel_rfl)
      have XO := Lib.hid (all_oneCell_toArray (cs := X) (by rw [hX]; exact ints1 _))
      have TX := Lib.hid (show w6.there h 0 X.toArray.size by
        rw [XS.out, HXl.out]
        exact S6.there 0 25 (by rw [List.size_toArray, List.length_map, len_permN hA k]; omega))
      have W6 := Lib.hid (show Blk (w6.setCells h 0 X) h X.toArray 25 from Blk.whole S6 (by rw [HXl.out, List.size_toArray, List.length_map, len_permN hA k]))
      have HX := Lib.hid hX
      have KK6 := Lib.hid (K6.trans (kep_setCellsK h X 0 w6))
      clear h6 hX H6 K6 S6
      go_wp2_with (refine wpList_store_mid rfl 25 (.tmp 1) (.tmp 14) rfl h 0 X.toArray rfl rfl TX.out XI2.out XO.out ?_)
      go_roundw
      case rel => exact ⟨k + 1, by go_num, by omega, by rw [← HX.out]; exact W6.out, KK6.out⟩
      case measure => simp [intOf] <;> omega
    · obtain rfl : k = 24 := by omega
      have RY := Lib.hid (blk_range hs)
      have YS := Lib.hid (show Y.toArray.size = Y.length from List.size_toArray)
      have YI2 := Lib.hid (show (Tryd.prog.info? 25).map (·.size) = some Y.toArray.size by rw [YS.out]; exact YI.out)
      have YO := Lib.hid (all_oneCell_toArray (cs := Y) (by rw [hY]; exact ints1 _))
      have T9 := Lib.hid (show wr.there (h + 1) 0 Y.toArray.size by
        rw [YS.out, HYl.out]
        exact there_kep T4.out hkep (by omega))
      have K9 := Lib.hid (Kep.bel BB4.out hkep (fun i hi => by rw [hi, HH.out]; exact Nat.le_refl _))
      have HY := Lib.hid (show Y = (perm A).map V by rw [hY, hP]; rfl)
      clear hs hkep hY hP HS HK
      go_wp2_with (first | (refine wpList_load_mid rfl 25 (.tmp 1) rfl h 0 rfl Y _ RY.out Tryd.underlying25 rfl YI.out ?_) | (refine wpList_store_mid rfl 25 (.tmp 2) (.tmp 15) rfl (h + 1) 0 Y.toArray rfl rfl T9.out YI2.out YO.out ?_))
      have RE : (wr.setCells (h + 1) 0 Y).rangeAt (h + 1) 0 Y := World.rangeAt_setCells_same _ _ _ _ (by have e := YS.out; exact e ▸ T9.out)
      refine bodyPost_ret (results_c1 Tryd.results23 _ _ ⟨h + 1, 0, none⟩ _ rfl (run_loadVar_mid (P := Tryd.prog) _ (h + 1) 0 25 Y _ RE Tryd.underlying25 rfl YI.out)) rfl ⟨by rw [HY.out], ?_⟩
      exact Kep.bel K9.out (kep_setCellsK (h + 1) Y 0 _) (fun i hi => by rw [hi, HH.out]; omega)
end Kk
end Go.Proofs.YtaniijpppmipbaaDoor
