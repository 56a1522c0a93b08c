/-
  The walk of the law KeccakTexts: it returns true. Conditions: two hashes, a text; the table of turns lies in its variable.
-/
import Derived.Test.YtdellhdnlmdnmaaDoorKKnown
import Derived.Deep.RegionHeld3
namespace Go.Proofs.YtdellhdnlmdnmaaDoor
open Go.RowKit Go.Shelf
set_option linter.unusedVariables false
set_option linter.unusedSimpArgs false
namespace Kk

/-- Two hashes lie where they lay. -/
abbrev Two (a b : Nat) (D E : List Value) (w0 w : World) : Prop := w.rangeAt a 0 D ∧ w.rangeAt b 0 E ∧ (a < w.heap.size ∧ b < w.heap.size ∧ Bel w0 w)
theorem Two.bel {a b : Nat} {D E : List Value} {w0 w w' : World} (h : Two a b D E w0 w) (k : Bel w w') : Two a b D E w0 w' :=
  ⟨range_bel h.1 k h.2.2.1, range_bel h.2.1 k h.2.2.2.1, Nat.lt_of_lt_of_le h.2.2.1 (Below.size k), Nat.lt_of_lt_of_le h.2.2.2.1 (Below.size k), h.2.2.2.2.trans k⟩

/-- What is read of any text: the hash whose text it is, or none. -/
theorem read_any (s : ByteArray) (w : World) (hm : s.size ≤ 1000000000000) :
    Calls Tryd.prog 14 #[.string s] w fun e w' => ((∃ hs, hs.length = 32 ∧ By hs ∧ (⟨(asU8 (hex hs)).toArray⟩ : ByteArray) = s ∧ e = .returned (.tuple #[hsV hs, .int .i64 0])) ∨ e = .returned (.tuple #[hsV (List.replicate 32 0), .int .i64 5])) ∧ Bel w w' := by
  by_cases hl : s.size = 64
  · refine (read_text s w hl).mono fun e w' h => ⟨?_, h.2⟩
    rcases h.1 with ⟨h1, h2⟩ | ⟨_, h2⟩
    · exact .inl ⟨rdB (dvs s) 64, rdB_len _ _, by_rdB (fun i hi => ⟨h1 i hi, (dv_bd _).2⟩), read_hex s hl h1, h2⟩
    · exact .inr (by rw [h2]; rfl)
  · exact (read_len s w hl hm).mono fun e w' h => ⟨.inr (by rw [h.1]; rfl), h.2⟩

set_option maxRecDepth 100000 in
set_option maxHeartbeats 4000000 in
theorem textsLaw (A B : List Int) (s : ByteArray) (w : World) (hA : A.length = 32 ∧ By A) (hB : B.length = 32 ∧ By B) (hT : Tn w) :
    Calls Tryd.prog 7 #[hsV A, hsV B, .string s] w fun e w' => e = .returned (.bool true) ∧ Bel w w' := by
  have h0 : 0 < w.heap.size := hT.1
  have HT := Lib.hid hT
  obtain ⟨D, hD⟩ : ∃ D, D = A.map B8 := ⟨_, rfl⟩
  obtain ⟨E, hE⟩ : ∃ E, E = B.map B8 := ⟨_, rfl⟩
  obtain ⟨x, hx⟩ : ∃ x, x = (⟨(asU8 (hex A)).toArray⟩ : ByteArray) := ⟨_, rfl⟩
  obtain ⟨y, hy⟩ : ∃ y, y = (⟨(asU8 (hex B)).toArray⟩ : ByteArray) := ⟨_, rfl⟩
  have HD := Lib.hid (show hsV A = .agg D.toArray by rw [hD])
  have HE := Lib.hid (show hsV B = .agg E.toArray by rw [hE])
  have HDl := Lib.hid (show D.length = 32 by rw [hD, List.length_map]; exact hA.1)
  have HEl := Lib.hid (show E.length = 32 by rw [hE, List.length_map]; exact hB.1)
  have HDo := Lib.hid (all_oneCell_toArray (cs := D) (by rw [hD]; exact ints_b8 _))
  have iD : (Tryd.prog.info? 31).map (·.size) = some D.length := by rw [HDl.out]; exact info_hash
  have iE : (Tryd.prog.info? 31).map (·.size) = some E.length := by rw [HEl.out]; exact info_hash
  have HDi := Lib.hid (show (Tryd.prog.info? 31).map (·.size) = some D.toArray.size by rw [List.size_toArray]; exact iD)
  have uH := Tryd.underlying31
  have TXA := Lib.hid (show ∀ w, Calls Tryd.prog 20 #[.agg D.toArray] w fun e w' => e = .returned (.string x) ∧ Bel w w' from fun w => by rw [← HD.out, hx]; exact text A w hA.1 hA.2)
  have TXB := Lib.hid (show ∀ w, Calls Tryd.prog 20 #[.agg E.toArray] w fun e w' => e = .returned (.string y) ∧ Bel w w' from fun w => by rw [← HE.out, hy]; exact text B w hB.1 hB.2)
  have RDA := Lib.hid (show ∀ w, Calls Tryd.prog 14 #[.string x] w fun e w' => e = .returned (.tuple #[.agg D.toArray, .int .i64 0]) ∧ Bel w w' from fun w => by rw [← HD.out, hx]; exact read_back A w hA.1 hA.2)
  have SX := Lib.hid (show x.size = 64 by rw [hx]; exact hex_size A hA.1)
  have nDD : ∀ w, (binOp .neq 31 (.agg D.toArray) (.agg D.toArray)).run Tryd.prog w = .ok (.bool false) w := fun w => by
    rw [← HD.out, neq_hs A A hA.1 hA.1 w, beq_self_eq_true]; rfl
  have eDE : ∀ w, (binOp .eql 31 (.agg D.toArray) (.agg E.toArray)).run Tryd.prog w = .ok (.bool (A == B)) w := fun w => by
    rw [← HD.out, ← HE.out, eql_hs A B hA.1 hB.1 w]
  have eXY : (x.toList == y.toList) = (A == B) := by
    rw [Bool.eq_iff_iff, beq_iff_eq, beq_iff_eq, ByteArray.toList_eq, ByteArray.toList_eq, hx, hy]
    constructor
    · intro h
      apply hex_inj hA.2 hB.2 hA.1 hB.1
      apply ByteArray.ext
      exact Array.ext' h
    · rintro rfl; rfl
  rw [HD.out, HE.out]
  clear hx hy hD hE hT
  go_enter Tryd.func7, Tryd.ntmps7
  go_wp2_with fail
  have T0 : Two w.heap.size (w.heap.size + 1) D E w ((w.alloc (.cells D.toArray 31)).alloc (.cells E.toArray 31)) := by
    have b1 := blk_range ((Blk.new w D.toArray 31).alloc (.cells E.toArray 31))
    have b2 := blk_range (Blk.new (w.alloc (.cells D.toArray 31)) E.toArray 31)
    rw [World.size_alloc] at b2
    exact ⟨b1, b2, by simp; omega, by simp, ((Bel.refl w).alloc _).alloc _⟩
  obtain ⟨a, ha⟩ : ∃ a, a = w.heap.size := ⟨_, rfl⟩
  have HA := Lib.hid ha
  obtain ⟨w1, hw1⟩ : ∃ w1, (w.alloc (.cells D.toArray 31)).alloc (.cells E.toArray 31) = w1 := ⟨_, rfl⟩
  rw [hw1, ← ha] at T0 ⊢
  obtain ⟨b, hb⟩ : ∃ b, b = a + 1 := ⟨_, rfl⟩
  rw [← hb] at T0 ⊢
  have HT1 := Lib.hid T0
  clear T0 ha hw1 hb
  refine (knownLaw _ (HT.out.bel HT1.out.2.2.2.2)).mono ?_
  rintro e w2 ⟨rfl, k2⟩
  have HT2 := Lib.hid (HT1.out.bel k2)
  clear k2
  by_cases hbig : 100 < s.size
  · have hb : (100 : Int) < (s.size : Int) := by omega
    go_wp2
    go_ret
    exact ⟨rfl, HT2.out.2.2.2.2⟩
  have hb : (s.size : Int) ≤ 100 := by omega
  go_upto_region 4 with fail
  go_cut [8, 9] from 17 to 20 (fun s8 s9 wx => s8 = .string x ∧ s9 = .string y ∧ Two a b D E w wx)
  case first =>
    have ST := HT2.out
    refine wp_region_held_drew (S := fun w' => Two a b D E w w') (by kernel_rfl) (Two.bel ST (Bel.refl _).drew) (fun hS => ?_)
    refine wpAnyH_take (i := 0) (v := .agg D.toArray) rfl (by kernel_rfl) (by kernel_rfl) (by kernel_rfl) (fun _ _ _ h => h) (yieldsIf_load_mid (by rfl) _ _ rfl _ _ rfl _ _ (fun w h => h.1) uH rfl iD) hS ?_
    try simp only [Act.put, List.setIfInBounds_toArray, List.set_cons_zero, List.set_cons_succ]
    refine wpAnyH_take (i := 2) (v := .agg E.toArray) rfl (by kernel_rfl) (by kernel_rfl) (by kernel_rfl) (fun _ _ _ h => h) (yieldsIf_load_mid (by rfl) _ _ rfl _ _ rfl _ _ (fun w h => h.2.1) uH rfl iE) hS ?_
    try simp only [Act.put, List.setIfInBounds_toArray, List.set_cons_zero, List.set_cons_succ]
    refine wpAnyH_ready (rs := [1]) (by kernel_rfl) (by simp) ?_
    refine AllReadyH.cons (o := { dst := some 18, op := .call { callee := .value (.func 20), args := #[.tmp 17], argTypes := #[31] }, type := 9, pos := "outright.go:48", after := #[{ on := 0, ground := .data }], guard := none }) rfl (fun K hK => ?_) AllReadyH.nil
    go_simp
    refine (TXA.out _).mono ?_
    rintro e wA ⟨rfl, kA⟩
    go_wp2_with fail
    refine hK.out _ _ (Two.bel hS kA) (fun hS2 => ?_)
    clear hK K
    try simp only [Act.put, List.setIfInBounds_toArray, List.set_cons_zero, List.set_cons_succ]
    refine wpAnyH_ready (rs := [3]) (by kernel_rfl) (by simp) ?_
    refine AllReadyH.cons (o := { dst := some 20, op := .call { callee := .value (.func 20), args := #[.tmp 19], argTypes := #[31] }, type := 9, pos := "outright.go:48", after := #[{ on := 2, ground := .data }, { on := 1, ground := .chain }], guard := none }) rfl (fun K hK => ?_) AllReadyH.nil
    go_simp
    refine (TXB.out _).mono ?_
    rintro e wB ⟨rfl, kB⟩
    go_wp2_with fail
    refine hK.out _ _ (Two.bel hS2 kB) (fun hS3 => ?_)
    clear hK K
    try simp only [Act.put, List.setIfInBounds_toArray, List.set_cons_zero, List.set_cons_succ]
    refine wpAnyH_take (i := 4) (oi := { dst := some 8, op := .assign (.tmp 18), type := 9, pos := "outright.go:48", after := #[{ on := 1, ground := .data }, { on := 3, ground := .chain }, { on := 0, ground := .phase }, { on := 1, ground := .phase }, { on := 2, ground := .textOnly .lateStores }, { on := 3, ground := .textOnly .lateStoresUnsure }], guard := none }) (v := .string x) rfl (by kernel_rfl) (by kernel_rfl) (by kernel_rfl) (fun _ _ _ h => h) (Or.inl ⟨by rfl, by intro w; go_simp⟩) hS3 ?_
    try simp only [Act.put, List.setIfInBounds_toArray, List.set_cons_zero, List.set_cons_succ]
    refine wpAnyH_take (i := 5) (oi := { dst := some 9, op := .assign (.tmp 20), type := 9, pos := "outright.go:48", after := #[{ on := 3, ground := .data }, { on := 4, ground := .chain }, { on := 0, ground := .phase }, { on := 1, ground := .phase }, { on := 2, ground := .phase }, { on := 3, ground := .phase }, { on := 4, ground := .phase }], guard := none }) (v := .string y) rfl (by kernel_rfl) (by kernel_rfl) (by kernel_rfl) (fun _ _ _ h => h) (Or.inl ⟨by rfl, by intro w; go_simp⟩) hS3 ?_
    try simp only [Act.put, List.setIfInBounds_toArray, List.set_cons_zero, List.set_cons_succ]
    refine wpAnyH_done (by kernel_rfl) ?_ _
    go_wp2_with fail
    go_meet
    exact ⟨rfl, rfl, hS3⟩
  case rest =>
    obtain ⟨rfl, rfl, T3⟩ := hcut
    have HT3 := Lib.hid T3
    have hx64 : (x.size : Int) = 64 := by have := SX.out; omega
    clear T3
    go_wp2_with fail
    refine (RDA.out _).mono ?_
    rintro e w4 ⟨rfl, k4⟩
    have HT4 := Lib.hid (HT3.out.bel k4)
    obtain ⟨p1, p2, p3, p4⟩ := put32 w4 D HDl.out
    have TH := Lib.hid p1
    have HT5 := Lib.hid (HT4.out.bel p2)
    have R5 := Lib.hid p3
    have L5 := Lib.hid p4
    have T5 := Lib.hid (show ((w4.alloc (.cells Z32l.toArray 31)).setCells w4.heap.size 0 D).there w4.heap.size 0 32 from World.there_setCells (there_newK (by decide)) _ _ _)
    have LW := Lib.hid (show w.heap.size ≤ w4.heap.size from Below.size HT4.out.2.2.2.2)
    clear p1 p2 p3 p4 k4
    go_upto_region 6 with (refine wpList_store_mid rfl 31 (.tmp 10) (.tmp 24) rfl w4.heap.size 0 D.toArray rfl rfl TH.out HDi.out HDo.out ?_)
    obtain ⟨c, hc⟩ : ∃ c, c = w4.heap.size := ⟨_, rfl⟩
    obtain ⟨w5, hw5⟩ : ∃ w5, (w4.alloc (.cells Z32l.toArray 31)).setCells w4.heap.size 0 D = w5 := ⟨_, rfl⟩
    rw [hw5] at HT5 R5 L5 T5 ⊢
    rw [← hc] at R5 L5 T5 LW ⊢
    clear hw5 hc TH
    have RX := Lib.hid (read_any s w5 (by omega))
    go_wp2_with (first | (refine wpList_load_guarded (by rfl) 31 (.tmp 10) rfl c 0 rfl D _ R5.out uH rfl iD ?_) | (refine wpList_load_guarded (by rfl) 31 (.tmp 3) rfl a 0 rfl D _ HT5.out.1 uH rfl iD ?_) | (refine wpList_load_guarded (by rfl) 31 (.tmp 4) rfl b 0 rfl E _ HT5.out.2.1 uH rfl iE ?_))
    refine (RX.out).mono ?_
    rintro e w6 ⟨hr, k6⟩
    have HW6 := Lib.hid (show Bel w w6 from HT5.out.2.2.2.2.trans k6)
    have T6 := there_bel T5.out k6
    clear k6
    rcases hr with ⟨hs, hs1, hs2, hs3, rfl⟩ | rfl
    · obtain ⟨Z, hZ⟩ : ∃ Z, Z = hs.map B8 := ⟨_, rfl⟩
      rw [show hsV hs = .agg Z.toArray by rw [hZ]]
      have HZl := Lib.hid (show Z.length = 32 by rw [hZ, List.length_map]; exact hs1)
      have HZo := Lib.hid (all_oneCell_toArray (cs := Z) (by rw [hZ]; exact ints_b8 _))
      have iZ := Lib.hid (show (Tryd.prog.info? 31).map (·.size) = some Z.length by rw [HZl.out]; exact info_hash)
      have HZi := Lib.hid (show (Tryd.prog.info? 31).map (·.size) = some Z.toArray.size by rw [List.size_toArray]; exact iZ.out)
      have TX := Lib.hid (show ∀ w, Calls Tryd.prog 20 #[.agg Z.toArray] w fun e w' => e = .returned (.string s) ∧ Bel w w' from fun w => by
        have := text hs w hs1 hs2
        rw [hs3] at this
        rw [hZ]; exact this)
      have TH6 := Lib.hid (show w6.there c 0 Z.toArray.size by rw [List.size_toArray, HZl.out]; exact T6)
      have R6 := Lib.hid (show (w6.setCells c 0 Z).rangeAt c 0 Z from World.rangeAt_setCells_same _ _ _ _ (by rw [HZl.out]; exact T6))
      have H6 := Lib.hid (show Bel w (w6.setCells c 0 Z) from Kep.bel HW6.out (kep_setCellsK _ _ _ _) (fun i hi => by rw [hi]; exact LW.out))
      clear hZ hs1 hs2 hs3 T6
      go_wp2_with (first | (refine wpList_store_mid rfl 31 (.tmp 10) (.tmp 50) rfl c 0 Z.toArray rfl rfl TH6.out HZi.out HZo.out ?_) | (refine wpList_load_guarded (by rfl) 31 (.tmp 10) rfl c 0 rfl Z _ R6.out uH rfl iZ.out ?_))
      refine (TX.out _).mono ?_
      rintro e w7 ⟨rfl, k7⟩
      have H7 := Lib.hid (H6.out.trans k7)
      clear k7
      go_wp2
      go_ret
      exact ⟨rfl, H7.out⟩
    · obtain ⟨Z, hZ⟩ : ∃ Z, Z = (List.replicate 32 (0 : Int)).map B8 := ⟨_, rfl⟩
      rw [show hsV (List.replicate 32 0) = .agg Z.toArray by rw [hZ]]
      have HZl := Lib.hid (show Z.length = 32 by rw [hZ]; rfl)
      have HZo := Lib.hid (all_oneCell_toArray (cs := Z) (by rw [hZ]; exact ints_b8 _))
      have iZ := Lib.hid (show (Tryd.prog.info? 31).map (·.size) = some Z.length by rw [HZl.out]; exact info_hash)
      have HZi := Lib.hid (show (Tryd.prog.info? 31).map (·.size) = some Z.toArray.size by rw [List.size_toArray]; exact iZ.out)
      have eqZ : ∀ w, (binOp .eql 31 (.agg Z.toArray) (.agg Z32l.toArray)).run Tryd.prog w = .ok (.bool true) w := by
        intro w
        rw [hZ, z32_hs, eql_hs _ _ rfl rfl w]
        rfl
      have TH6 := Lib.hid (show w6.there c 0 Z.toArray.size by rw [List.size_toArray, HZl.out]; exact T6)
      have R6 := Lib.hid (show (w6.setCells c 0 Z).rangeAt c 0 Z from World.rangeAt_setCells_same _ _ _ _ (by rw [HZl.out]; exact T6))
      have H6 := Lib.hid (show Bel w (w6.setCells c 0 Z) from Kep.bel HW6.out (kep_setCellsK _ _ _ _) (fun i hi => by rw [hi]; exact LW.out))
      clear hZ T6
      go_wp2_with (first | (refine wpList_store_mid rfl 31 (.tmp 10) (.tmp 50) rfl c 0 Z.toArray rfl rfl TH6.out HZi.out HZo.out ?_) | (refine wpList_load_guarded (by rfl) 31 (.tmp 10) rfl c 0 rfl Z _ R6.out uH rfl iZ.out ?_))
      go_ret
      exact ⟨rfl, H6.out⟩
end Kk
end Go.Proofs.YtdellhdnlmdnmaaDoor
