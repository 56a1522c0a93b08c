/-
  What Permute answers in this program: the permuted words. Condition: the table of turns lies in its variable; 25 words.
-/
import Derived.Test.YtaniijpppmipbaaDoorKPut
namespace Go.Proofs.YtaniijpppmipbaaDoor
open Go.RowKit Go.Shelf
set_option linter.unusedVariables false
namespace Kk

abbrev Z25w : Obj := .cells #[.int .u64 0, .int .u64 0, .int .u64 0, .int .u64 0, .int .u64 0, .int .u64 0, .int .u64 0, .int .u64 0, .int .u64 0, .int .u64 0, .int .u64 0, .int .u64 0, .int .u64 0, .int .u64 0, .int .u64 0, .int .u64 0, .int .u64 0, .int .u64 0, .int .u64 0, .int .u64 0, .int .u64 0, .int .u64 0, .int .u64 0, .int .u64 0, .int .u64 0] 25
/-- The words behind n places that were taken over. -/
def taken (A B : List Wd) (n : Nat) : List Wd := (List.range 25).map fun i => if i < n then g B i else g A i
theorem taken0 {A B : List Wd} (h : A.length = 25) : taken A B 0 = A := by
  unfold taken
  simp only [Nat.not_lt_zero, if_false]
  exact map_g h
theorem taken25 {A B : List Wd} (h : B.length = 25) : taken A B 25 = B := by
  rw [← map_g h]
  unfold taken
  apply List.map_congr_left
  intro i hi
  rw [if_pos (by simpa using hi), map_g h]
theorem taken_len (A B : List Wd) (n : Nat) : (taken A B n).length = 25 := by simp [taken]
theorem taken_succ (A B : List Wd) (n : Nat) : (taken A B n).set n (g B n) = taken A B (n + 1) := by
  unfold taken
  rw [set_map]
  apply List.map_congr_left
  intro i _
  by_cases h : i = n
  · subst h; simp
  · rw [if_neg h]
    by_cases h2 : i < n
    · rw [if_pos h2, if_pos (by omega)]
    · rw [if_neg h2, if_neg (by omega)]
theorem word_at {A : List Wd} (h : A.length = 25) {i : Nat} (hi : i < 25) : (A.map V).toArray[i]? = some (.int .u64 (U (g A i))) := by
  unfold g
  rw [List.getElem?_toArray, List.getElem?_map, List.getD_eq_getElem?_getD, List.getElem?_eq_getElem (by omega)]
  rfl
theorem len_zero : zero.length = 25 := by rfl
theorem blk_range {w : World} {b : Nat} {D : List Value} {t : TypeId} (h : Blk w b D.toArray t) : w.rangeAt b 0 D := fun j v hv => by
  rw [Nat.zero_add]
  exact h.cell j (by rw [List.getElem?_toArray]; exact hv)

set_option maxRecDepth 100000 in
set_option maxHeartbeats 2000000 in
theorem permute (A : List Wd) (w : World) (hA : A.length = 25) (hT : Tn w) :
    Calls Tryd.prog 22 #[.agg (A.map V).toArray] w fun e w' => e = .returned (.agg ((perm A).map V).toArray) ∧ Bel w w' := by
  have h0 := hT.1
  obtain ⟨D, hD⟩ : ∃ D, D = A.map V := ⟨_, rfl⟩
  obtain ⟨h, hh⟩ : ∃ h, h = w.heap.size := ⟨_, rfl⟩
  rw [← hD]
  have HDl := Lib.hid (show D.length = 25 by rw [hD, List.length_map]; exact hA)
  have HDi := Lib.hid (show (Tryd.prog.info? 25).map (·.size) = some D.length by rw [HDl.out]; kernel_rfl)
  have HDg := Lib.hid (show ∀ i, i < 25 → D.toArray[i]? = some (.int .u64 (U (g A i))) by rw [hD]; exact fun i hi => word_at hA hi)
  have BL := Lib.hid (show Blk ((w.alloc (.cells D.toArray 25)).alloc Z25w) h D.toArray 25 by rw [hh]; exact (Blk.new w _ _).alloc _)
  have TH := Lib.hid (show ((w.alloc (.cells D.toArray 25)).alloc Z25w).there (h + 1) 0 25 by
    have := there_newK (w := w.alloc (.cells D.toArray 25)) (C := #[.int .u64 0, .int .u64 0, .int .u64 0, .int .u64 0, .int .u64 0, .int .u64 0, .int .u64 0, .int .u64 0, .int .u64 0, .int .u64 0, .int .u64 0, .int .u64 0, .int .u64 0, .int .u64 0, .int .u64 0, .int .u64 0, .int .u64 0, .int .u64 0, .int .u64 0, .int .u64 0, .int .u64 0, .int .u64 0, .int .u64 0, .int .u64 0, .int .u64 0]) (t := 25) (n := 25) (by decide)
    rwa [World.size_alloc, ← hh] at this)
  have HB := Lib.hid (show Bel w ((w.alloc (.cells D.toArray 25)).alloc Z25w) from ((Bel.refl w).alloc _).alloc _)
  have HS := Lib.hid (show ((w.alloc (.cells D.toArray 25)).alloc Z25w).heap.size = h + 2 by rw [hh]; simp)
  have HDD := Lib.hid hD
  have HT := Lib.hid hT
  clear hT hD
  go_enter Tryd.func22, Tryd.ntmps22
  go_wp2_with fail
  obtain ⟨W2, hW2⟩ : ∃ W2, (w.alloc (.cells D.toArray 25)).alloc Z25w = W2 := ⟨_, rfl⟩
  rw [hW2] at BL TH HB HS ⊢
  rw [← hh] at h0 ⊢
  have HH := Lib.hid hh
  clear hW2 hh
  refine (newState _).mono ?_
  rintro e w1 ⟨rfl, h1⟩
  have H1 : Bel W2 w1 := h1
  obtain ⟨b, hb⟩ : ∃ b, b = w1.heap.size := ⟨_, rfl⟩
  have hbh : h + 2 ≤ b := by rw [hb, ← HS.out]; exact Below.size H1
  obtain ⟨Z, hZ⟩ : ∃ Z, Z = stCells zero 0 := ⟨_, rfl⟩
  have HZ := Lib.hid hZ
  rw [show stV zero 0 = .agg Z.toArray by rw [hZ]]
  clear h1 hZ
  have TS := Lib.hid (show (w1.alloc Z50).there b 0 Z.toArray.size by
    rw [List.size_toArray, HZ.out, len_st len_zero, hb]
    exact there_newK (by decide))
  have ZI := Lib.hid (show (Tryd.prog.info? 54).map (·.size) = some Z.toArray.size by rw [List.size_toArray, HZ.out, len_st len_zero]; exact info_st)
  have ZO := Lib.hid (all_oneCell_toArray (cs := Z) (by rw [HZ.out]; exact all_st _ _))
  have B3 := Lib.hid (show Bel W2 ((w1.alloc Z50).setCells w1.heap.size 0 Z) from Kep.bel (H1.alloc _) (kep_setCellsK w1.heap.size Z 0 _) (fun i hi => by rw [hi, HS.out, ← hb]; exact hbh))
  have S3 := Lib.hid (show St ((w1.alloc Z50).setCells w1.heap.size 0 Z) b zero 0 from by rw [hb]; exact st_stored HZ.out len_zero (Blk.new _ _ _) (by rfl))
  have BL3 := Lib.hid (BL.out.bel B3.out)
  have RD := Lib.hid (blk_range BL3.out)
  rw [hb] at TS
  have HBQ := Lib.hid hb
  clear hb
  go_wp2_with (first | (refine wpList_store_mid rfl 54 (.tmp 3) (.tmp 7) rfl w1.heap.size 0 Z.toArray rfl rfl TS.out ZI.out ZO.out ?_) | (refine wpList_load_mid rfl 25 (.tmp 1) rfl h 0 rfl D _ RD.out Tryd.underlying25 rfl HDi.out ?_))
  obtain ⟨w3, hw3⟩ : ∃ w3, (w1.alloc Z50).setCells w1.heap.size 0 Z = w3 := ⟨_, rfl⟩
  rw [hw3] at B3 S3 BL3 ⊢
  rw [← HBQ.out]
  have TH3 := Lib.hid (there_bel TH.out B3.out)
  have HB3 := Lib.hid (HB.out.trans B3.out)
  have HT3 := Lib.hid (HT.out.bel HB3.out)
  clear hw3 RD TS ZI ZO HBQ HZ H1 BL TH HB B3
  go_loopw [9] (fun i wr => ∃ k : Nat, i = .int .i64 k ∧ k ≤ 25 ∧ St wr b (taken zero A k) 0 ∧ Kep (fun i => i = b) w3 wr) (fun i _ => 25 - (intOf i).toNat)
  case atStart => exact ⟨0, rfl, by omega, by rw [taken0 len_zero]; exact S3.out, Kep.refl _ _⟩
  case round =>
    obtain ⟨k, rfl, hk, hs, hkep⟩ := hrel
    have HS2 := Lib.hid hs
    have HK := Lib.hid hkep
    by_cases hlt : k < 25
    · have ix := idx_word 25 25 Tryd.underlying25 D.toArray k _ hlt (HDg.out k hlt)
      have k0 := hs.word hlt
      have f0 := hs.frozen k
      have e5 : k / 5 * 5 + k % 5 = k := by omega
      rw [← e5] at k0 f0
      have E5 := Lib.hid e5
      clear hs hkep e5
      go_wp2
      go_roundw
      case rel =>
        refine ⟨k + 1, by go_num, by omega, ?_, HK.out.set_self _ _⟩
        have h2 := HS2.out.set hlt (g A k)
        rw [taken_succ] at h2
        rw [E5.out]
        exact h2
      case measure => simp [intOf] <;> omega
    · obtain rfl : k = 25 := by omega
      rw [taken25 hA] at hs
      have S4 := Lib.hid hs
      obtain ⟨Y, hY⟩ : ∃ Y, Y = stCells A 0 := ⟨_, rfl⟩
      have HY := Lib.hid hY
      have RY := Lib.hid (show wr.rangeAt b 0 Y by rw [hY]; exact hs.range)
      have YI := Lib.hid (show (Tryd.prog.info? 54).map (·.size) = some Y.length by rw [hY, len_st hA]; exact info_st)
      have T4 := Lib.hid (HT3.out.kep hkep (by omega))
      have BL4 := Lib.hid (BL3.out.kep hkep (by omega))
      have TH4 := Lib.hid (there_kep TH3.out hkep (by omega))
      have K4 := Lib.hid (Kep.bel HB3.out hkep (fun i hi => by rw [hi, ← HH.out]; omega))
      clear hs hkep HS2 HK hY S3 HT3 BL3 TH3 HB3
      go_wp2_with (refine wpList_load_mid rfl 54 (.tmp 3) rfl b 0 rfl Y _ RY.out Tryd.underlying54 rfl YI.out ?_)
      refine ((by rw [HY.out]; exact permuted A 0 wr hA T4.out) : Calls Tryd.prog 45 #[.agg Y.toArray] wr fun e w' => e = .returned (stV (perm A) 23) ∧ Bel wr w').mono ?_
      rintro e w5 ⟨rfl, h5⟩
      have H5 : Bel wr w5 := h5
      clear h5
      obtain ⟨X, hX⟩ : ∃ X, X = stCells (perm A) 23 := ⟨_, rfl⟩
      have HX := Lib.hid hX
      have lp := len_perm hA
      have HLP := Lib.hid lp
      rw [show stV (perm A) 23 = .agg X.toArray by rw [hX]]
      have BB5 := Lib.hid (S4.out.bel H5).2
      have TX := Lib.hid (show w5.there b 0 X.toArray.size by
        rw [List.size_toArray, hX, len_st lp]
        exact BB5.out.there 0 50 (by rw [List.size_toArray, len_st hA]; omega))
      have XI := Lib.hid (show (Tryd.prog.info? 54).map (·.size) = some X.toArray.size by rw [List.size_toArray, hX, len_st lp]; exact info_st)
      have XO := Lib.hid (all_oneCell_toArray (cs := X) (by rw [hX]; exact all_st _ _))
      have S6 := Lib.hid (show St (w5.setCells b 0 X) b (perm A) 23 from st_stored hX lp BB5.out (by rw [List.size_toArray, len_st hA]))
      have K6 := Lib.hid (show Kep (fun i => i = b) wr (w5.setCells b 0 X) from (Kep.of_bel H5).trans (kep_setCellsK b X 0 w5))
      clear hX lp
      go_wp2_with (refine wpList_store_mid rfl 54 (.tmp 3) (.tmp 23) rfl b 0 X.toArray rfl rfl TX.out XI.out XO.out ?_)
      obtain ⟨w6, hw6⟩ : ∃ w6, w5.setCells b 0 X = w6 := ⟨_, rfl⟩
      rw [hw6] at S6 K6 ⊢
      have BL6 := Lib.hid (BL4.out.kep K6.out (by omega))
      have TH6 := Lib.hid (there_kep TH4.out K6.out (by omega))
      have K7 := Lib.hid (Kep.bel K4.out K6.out (fun i hi => by rw [hi, ← HH.out]; omega))
      have BL6' := Lib.hid (show Blk w6 h ((taken A (perm A) 0).map V).toArray 25 by rw [taken0 hA, ← HDD.out]; exact BL6.out)
      clear hw6 TX XI XO BB5 H5 HX T4 BL4 TH4 K4 K6 RY YI HY S4 BL6
      go_loopw [24] (fun i wr => ∃ k : Nat, i = .int .i64 k ∧ k ≤ 25 ∧ Blk wr h ((taken A (perm A) k).map V).toArray 25 ∧ Kep (fun i => i = h) w6 wr) (fun i _ => 25 - (intOf i).toNat)
      case atStart => exact ⟨0, rfl, by omega, BL6'.out, Kep.refl _ _⟩
      case round =>
        obtain ⟨k, rfl, hk, hs, hkep⟩ := hrel
        have HS2 := Lib.hid hs
        have HK := Lib.hid hkep
        by_cases hlt : k < 25
        · have k0 := (S6.out.kep hkep (by omega)).word hlt
          have e5 : k / 5 * 5 + k % 5 = k := by omega
          rw [← e5] at k0
          have E5 := Lib.hid e5
          have j0 := hs.cell k (word_at (taken_len A (perm A) k) hlt)
          have f0 := hs.frozen k
          clear hs hkep e5
          go_wp2
          go_roundw
          case rel =>
            refine ⟨k + 1, by go_num, by omega, ?_, HK.out.set_self _ _⟩
            have h2 := HS2.out.set k (.int .u64 (U (g (perm A) k)))
            rw [key_set, taken_succ] at h2
            rw [E5.out]
            exact h2
          case measure => simp [intOf] <;> omega
        · obtain rfl : k = 25 := by omega
          rw [taken25 HLP.out] at hs
          obtain ⟨Q, hQ⟩ : ∃ Q, Q = (perm A).map V := ⟨_, rfl⟩
          rw [← hQ] at hs
          have HQl := Lib.hid (show Q.length = 25 by rw [hQ, List.length_map]; exact HLP.out)
          have RQ := Lib.hid (blk_range hs)
          have QI := Lib.hid (show (Tryd.prog.info? 25).map (·.size) = some Q.length by rw [HQl.out]; kernel_rfl)
          have QI2 := Lib.hid (show (Tryd.prog.info? 25).map (·.size) = some Q.toArray.size by rw [List.size_toArray]; exact QI.out)
          have QO := Lib.hid (all_oneCell_toArray (cs := Q) (by rw [hQ]; exact ints1 _))
          have TQ := Lib.hid (show wr.there (h + 1) 0 Q.toArray.size by rw [List.size_toArray, HQl.out]; exact there_kep TH6.out hkep (by omega))
          have HQ := Lib.hid hQ
          clear hs hkep HS2 hQ
          go_wp2_with (first | (refine wpList_load_mid rfl 25 (.tmp 1) rfl h 0 rfl Q _ RQ.out Tryd.underlying25 rfl QI.out ?_) | (refine wpList_store_mid rfl 25 (.tmp 2) (.tmp 38) rfl (h + 1) 0 Q.toArray rfl rfl TQ.out QI2.out QO.out ?_))
          have RE : (wr.setCells (h + 1) 0 Q).rangeAt (h + 1) 0 Q := World.rangeAt_setCells_same _ _ _ _ (by have := TQ.out; rw [List.size_toArray] at this; exact this)
          refine bodyPost_ret (results_c1 Tryd.results22 _ _ ⟨h + 1, 0, none⟩ _ rfl (run_loadVar_mid (P := Tryd.prog) _ (h + 1) 0 25 Q _ RE Tryd.underlying25 rfl QI.out)) rfl ⟨by rw [HQ.out], ?_⟩
          refine Kep.bel K7.out ((HK.out.mono (T := fun i => i = h ∨ i = h + 1) (fun _ _ e => .inl e)).trans ((kep_setCellsK (h + 1) Q 0 wr).mono (fun _ _ e => .inr e))) (fun i hi => ?_)
          have := HH.out
          rcases hi with hi | hi <;> omega
end Kk
end Go.Proofs.YtaniijpppmipbaaDoor
