/-
  The walk of the law KeccakTurns: it returns true. Conditions: two states, a number; the table of turns lies in its variable.
-/
import Derived.Test.YtaniijpppmipbaaDoorKKnown
import Derived.Test.YtaniijpppmipbaaDoorKInj
import Derived.Deep.RegionHeld3
namespace Go.Proofs.YtaniijpppmipbaaDoor
open Go.RowKit Go.Shelf
set_option linter.unusedVariables false
set_option linter.unusedSimpArgs false
namespace Kk

theorem pick (x n : Int) (w : World) (x0 : -9223372036854775808 ≤ x) (x1 : x ≤ 9223372036854775807) (n0 : 0 < n) (n1 : n ≤ 4611686018427387904) :
    Calls Tryd.prog 26 #[.int .i64 x, .int .i64 n] w fun e w' => e = .returned (.int .i64 (x % n)) ∧ w = w' := by
  have t0 := Int.emod_nonneg x (b := n) (by omega)
  have t1 := Int.emod_lt_of_pos x n0
  have hb : (x.tmod n = x % n ∨ (x.tmod n < 0 ∧ x.tmod n + n = x % n)) ∧ -n < x.tmod n ∧ x.tmod n < n := by
    rw [Int.tmod_eq_emod]
    split <;> rename_i h
    · exact ⟨.inl (by omega), by omega, by omega⟩
    · have hne : x % n ≠ 0 := fun e => h (.inr (Int.dvd_of_emod_eq_zero e))
      exact ⟨.inr ⟨by omega, by omega⟩, by omega, by omega⟩
  obtain ⟨ht, b0⟩ := hb
  obtain ⟨T, hT⟩ : ∃ T, x.tmod n = T := ⟨_, rfl⟩
  have hw : IntKind.i64.wrap T = T := IntWalk.i64_in _ (by omega)
  rw [hT] at ht b0
  obtain ⟨E, hE⟩ : ∃ E, x % n = E := ⟨_, rfl⟩
  rw [hE] at ht t0 t1 ⊢
  clear hE
  rcases ht with h | ⟨h1, h2⟩
  · subst h
    go_enter Tryd.func26, Tryd.ntmps26
    go_wp2
    go_ret
    exact ⟨rfl, rfl⟩
  · have H2 := Lib.hid h2
    clear h2
    go_enter Tryd.func26, Tryd.ntmps26
    go_wp2
    go_ret
    exact ⟨by rw [← H2.out]; rfl, rfl⟩

theorem neq_st (A B : List Wd) (ha : A.length = 25) (hb : B.length = 25) (w : World) : (binOp .neq 25 (.agg (A.map V).toArray) (.agg (B.map V).toArray)).run Tryd.prog w = .ok (.bool (!(A == B))) w := by
  obtain ⟨i, hi⟩ := info_of_underlying Tryd.underlying24
  rw [v_cells, v_cells, neq_ints Tryd.underlying25 Tryd.underlying24 hi (by kernel_rfl) (A.map U) (B.map U) (by simpa using ha) (by simpa using hb) w, beq_map_u]

/-- Four states lie where they lay. -/
abbrev Four (a b c x : Nat) (D E C X : List Value) (w0 w : World) : Prop := w.rangeAt a 0 D ∧ w.rangeAt b 0 E ∧ w.rangeAt c 0 C ∧ w.rangeAt x 0 X ∧ ((a < w.heap.size ∧ b < w.heap.size ∧ c < w.heap.size ∧ x < w.heap.size) ∧ Bel w0 w)
theorem Four.bel {a b c x : Nat} {D E C X : List Value} {w0 w w' : World} (h : Four a b c x D E C X w0 w) (k : Bel w w') : Four a b c x D E C X w0 w' := by
  obtain ⟨r1, r2, r3, r4, ⟨l1, l2, l3, l4⟩, hb⟩ := h
  have := Below.size k
  exact ⟨range_bel r1 k l1, range_bel r2 k l2, range_bel r3 k l3, range_bel r4 k l4, ⟨by omega, by omega, by omega, by omega⟩, hb.trans k⟩
theorem range_kep2 {S : Nat → Prop} {w w' : World} {b : Nat} {Y : List Value} (h : w.rangeAt b 0 Y) (hk : Kep S w w') (hs : ¬ S b) : w'.rangeAt b 0 Y :=
  fun i v hv => hk.cell hs (h i v hv)
theorem range_set {w : World} {c q : Nat} {D : List Value} {v v0 : Value} (h : w.rangeAt c 0 D) (hf : w.frozen? ⟨c, q, none⟩ = false) (hc : w.cell? ⟨c, q, none⟩ = some v0) : (w.setCell ⟨c, q, none⟩ v).drew.rangeAt c 0 (D.set q v) := fun j u hu => by
  rw [World.cell?_drew, Nat.zero_add]
  by_cases e : j = q
  · subst e
    have hj : j < D.length := by
      have := (List.getElem?_eq_some_iff.1 hu).1
      simpa using this
    rw [List.getElem?_set_self hj] at hu
    rw [World.cell?_setCell_same w _ v hc]
    exact hu
  · rw [List.getElem?_set_ne (fun h => e h.symm)] at hu
    rw [World.cell?_setCell_other w _ _ v (by intro e2; injection e2; omega)]
    have := h j u hu
    rwa [Nat.zero_add] at this
/-- The same but for one bit. -/
def flip1 (A : List Wd) (q r : Nat) : List Wd := A.set q (g A q ^^^ 1#64 <<< r)
theorem len_flip1 {A : List Wd} (h : A.length = 25) (q r : Nat) : (flip1 A q r).length = 25 := by rw [flip1, List.length_set, h]
theorem flip1_ne {A : List Wd} (h : A.length = 25) {q r : Nat} (hq : q < 25) (hr : r < 64) : flip1 A q r ≠ A := by
  intro e
  have e2 := congrArg (fun L => g L q) e
  have q1 : g (flip1 A q r) q = g A q ^^^ 1#64 <<< r := by
    conv => lhs; unfold g flip1
    rw [List.getD_eq_getElem?_getD, List.getElem?_set_self (by omega)]
    rfl
  simp only [q1] at e2
  have e3 := congrArg (fun z => BitVec.getLsbD z r) e2
  simp only [BitVec.getLsbD_xor, BitVec.getLsbD_shiftLeft] at e3
  simp [hr] at e3
theorem put25 (w : World) (Y : List Value) (hl : Y.length = 25) : ((w.alloc Z25w).there w.heap.size 0 Y.toArray.size) ∧
    Bel w ((w.alloc Z25w).setCells w.heap.size 0 Y) ∧ ((w.alloc Z25w).setCells w.heap.size 0 Y).rangeAt w.heap.size 0 Y ∧ w.heap.size < ((w.alloc Z25w).setCells w.heap.size 0 Y).heap.size ∧ ((w.alloc Z25w).setCells w.heap.size 0 Y).there w.heap.size 0 25 := by
  have t : (w.alloc Z25w).there w.heap.size 0 25 := there_newK (by decide)
  have e : Y.toArray.size = 25 := by rw [List.size_toArray]; exact hl
  refine ⟨by rw [e]; exact t, Kep.bel ((Bel.refl w).alloc _) (kep_setCellsK _ _ _ _) (fun i hi => by rw [hi]; exact Nat.le_refl _), World.rangeAt_setCells_same _ _ _ _ (by rw [hl]; exact t), by rw [size_setCells]; simp, World.there_setCells t _ _ _⟩

set_option maxRecDepth 100000 in
set_option maxHeartbeats 4000000 in
theorem turnsLaw (A B : List Wd) (t : Int) (w : World) (hA : A.length = 25) (hB : B.length = 25) (hT : Tn w) (t0 : -9223372036854775808 ≤ t) (t1 : t ≤ 9223372036854775807) :
    Calls Tryd.prog 9 #[.agg (A.map V).toArray, .agg (B.map V).toArray, .int .i64 t] w fun e w' => e = .returned (.bool true) ∧ Bel w w' := by
  have h0 : 0 < w.heap.size := hT.1
  have HT := Lib.hid hT
  obtain ⟨m, hm, hm2⟩ : ∃ m : Nat, (m : Int) = t % 1600 ∧ m < 1600 := ⟨(t % 1600).toNat, by omega, by omega⟩
  obtain ⟨q, hq⟩ : ∃ q, q = m / 64 := ⟨_, rfl⟩
  obtain ⟨r, hr⟩ : ∃ r, r = m % 64 := ⟨_, rfl⟩
  have q25 : q < 25 := by omega
  have r64 : r < 64 := by omega
  have hne := flip1_ne hA q25 r64
  obtain ⟨D, hD⟩ : ∃ D, D = A.map V := ⟨_, rfl⟩
  obtain ⟨E, hE⟩ : ∃ E, E = B.map V := ⟨_, rfl⟩
  obtain ⟨C, hC⟩ : ∃ C, C = (flip1 A q r).map V := ⟨_, rfl⟩
  obtain ⟨X, hX⟩ : ∃ X, X = (perm A).map V := ⟨_, rfl⟩
  obtain ⟨Y, hY⟩ : ∃ Y, Y = (perm (flip1 A q r)).map V := ⟨_, rfl⟩
  obtain ⟨Z, hZ⟩ : ∃ Z, Z = (perm B).map V := ⟨_, rfl⟩
  have uS := Tryd.underlying25
  have io : ∀ {K : List Wd}, K.length = 25 → (Tryd.prog.info? 25).map (·.size) = some (K.map V).length := fun h => by rw [List.length_map, h]; kernel_rfl
  have iD : (Tryd.prog.info? 25).map (·.size) = some D.length := by rw [hD]; exact io hA
  have iE : (Tryd.prog.info? 25).map (·.size) = some E.length := by rw [hE]; exact io hB
  have iC : (Tryd.prog.info? 25).map (·.size) = some C.length := by rw [hC]; exact io (len_flip1 hA q r)
  have iX : (Tryd.prog.info? 25).map (·.size) = some X.length := by rw [hX]; exact io (len_perm hA)
  have HDi := Lib.hid (show (Tryd.prog.info? 25).map (·.size) = some D.toArray.size by rw [List.size_toArray]; exact iD)
  have HXi := Lib.hid (show (Tryd.prog.info? 25).map (·.size) = some X.toArray.size by rw [List.size_toArray]; exact iX)
  have HDo := Lib.hid (all_oneCell_toArray (cs := D) (by rw [hD]; exact ints1 _))
  have HXo := Lib.hid (all_oneCell_toArray (cs := X) (by rw [hX]; exact ints1 _))
  have HDl := Lib.hid (show D.length = 25 by rw [hD, List.length_map, hA])
  have HXl := Lib.hid (show X.length = 25 by rw [hX, List.length_map, len_perm hA])
  have HCl := Lib.hid (show C.length = 25 by rw [hC, List.length_map, len_flip1 hA])
  have PA := Lib.hid (show ∀ w, Tn w → Calls Tryd.prog 22 #[.agg D.toArray] w fun e w' => e = .returned (.agg X.toArray) ∧ Bel w w' by rw [hD, hX]; exact fun w => permute A w hA)
  have PB := Lib.hid (show ∀ w, Tn w → Calls Tryd.prog 22 #[.agg E.toArray] w fun e w' => e = .returned (.agg Z.toArray) ∧ Bel w w' by rw [hE, hZ]; exact fun w => permute B w hB)
  have PC := Lib.hid (show ∀ w, Tn w → Calls Tryd.prog 22 #[.agg C.toArray] w fun e w' => e = .returned (.agg Y.toArray) ∧ Bel w w' by rw [hC, hY]; exact fun w => permute (flip1 A q r) w (len_flip1 hA q r))
  have eAB : ∀ w, (binOp .eql 25 (.agg D.toArray) (.agg E.toArray)).run Tryd.prog w = .ok (.bool (A == B)) w := fun w => by
    rw [hD, hE, eql_st A B hA hB w]
  have eXZ : ∀ w, (binOp .eql 25 (.agg X.toArray) (.agg Z.toArray)).run Tryd.prog w = .ok (.bool (A == B)) w := fun w => by
    rw [hX, hZ, eql_st _ _ (len_perm hA) (len_perm hB) w]
    congr 2
    rw [Bool.eq_iff_iff, beq_iff_eq, beq_iff_eq]
    exact ⟨perm_inj hA hB, fun h => by rw [h]⟩
  have eXX : ∀ w, (binOp .eql 25 (.agg X.toArray) (.agg X.toArray)).run Tryd.prog w = .ok (.bool true) w := fun w => by
    rw [hX, eql_st _ _ (len_perm hA) (len_perm hA) w, beq_self_eq_true]
  have nXY : ∀ w, (binOp .neq 25 (.agg X.toArray) (.agg Y.toArray)).run Tryd.prog w = .ok (.bool true) w := fun w => by
    rw [hX, hY, neq_st _ _ (len_perm hA) (len_perm (len_flip1 hA q r)) w]
    have : ¬ perm A = perm (flip1 A q r) := fun h => hne (perm_inj hA (len_flip1 hA q r) h).symm
    rw [beq_eq_false_iff_ne.2 this]
    rfl
  have HDq := Lib.hid (show D[q]? = some (.int .u64 (U (g A q))) by
    unfold g
    rw [hD, List.getElem?_map, List.getD_eq_getElem?_getD, List.getElem?_eq_getElem (by omega)]; rfl)
  have HCs := Lib.hid (show C = D.set q (.int .u64 (U (g A q ^^^ 1#64 <<< r))) by rw [hC, hD, flip1, List.map_set])
  have HX := Lib.hid (show bits .xor .u64 (U (g A q)) (IntKind.u64.wrap (2 ^ r)) = U (g A q ^^^ 1#64 <<< r) by
    rw [← xor_u, ← shl_u, show U 1#64 = 1 from rfl, Int.one_mul])
  rw [← hD, ← hE]
  have PK := Lib.hid (show ∀ w, Calls Tryd.prog 26 #[.int .i64 t, .int .i64 1600] w fun e w' => e = .returned (.int .i64 (m : Int)) ∧ w = w' from fun w => by rw [hm]; exact pick t 1600 w t0 t1 (by decide) (by decide))
  clear hD hE hC hX hY hZ hT hne hm t0 t1
  go_enter Tryd.func9, Tryd.ntmps9
  go_wp2_with fail
  have b1 := blk_range ((Blk.new w D.toArray 25).alloc (.cells E.toArray 25))
  have b2 := blk_range (Blk.new (w.alloc (.cells D.toArray 25)) E.toArray 25)
  rw [World.size_alloc] at b2
  have l1 : w.heap.size + 1 < ((w.alloc (.cells D.toArray 25)).alloc (.cells E.toArray 25)).heap.size := by simp
  have hbw := ((Bel.refl w).alloc (.cells D.toArray 25)).alloc (.cells E.toArray 25)
  obtain ⟨a, ha⟩ : ∃ a, a = w.heap.size := ⟨_, rfl⟩
  have HA := Lib.hid ha
  obtain ⟨w1, hw1⟩ : ∃ w1, (w.alloc (.cells D.toArray 25)).alloc (.cells E.toArray 25) = w1 := ⟨_, rfl⟩
  rw [hw1] at b1 b2 l1 hbw ⊢
  rw [← ha] at b1 b2 l1 ⊢
  obtain ⟨b, hb⟩ : ∃ b, b = a + 1 := ⟨_, rfl⟩
  have HAB := Lib.hid hb
  rw [← hb] at b2 l1 ⊢
  have BA := Lib.hid b1
  have BB := Lib.hid b2
  have LB := Lib.hid l1
  have HW1 := Lib.hid hbw
  clear b1 b2 l1 hbw hw1 ha hb
  refine (knownLaw _ (HT.out.bel HW1.out)).mono ?_
  rintro e w2 ⟨rfl, k2⟩
  have HW2 := Lib.hid (HW1.out.trans k2)
  have RA2 := Lib.hid (range_bel BA.out k2 (by have := LB.out; have := HAB.out; omega))
  have RB2 := Lib.hid (range_bel BB.out k2 LB.out)
  have LB2 := Lib.hid (show b < w2.heap.size from Nat.lt_of_lt_of_le LB.out (Below.size k2))
  obtain ⟨p1, p2, p3, p4, p5⟩ := put25 w2 D HDl.out
  have TH := Lib.hid p1
  have HW3 := Lib.hid (HW2.out.trans p2)
  have RA3 := Lib.hid (range_bel RA2.out p2 (by have := LB2.out; have := HAB.out; omega))
  have RB3 := Lib.hid (range_bel RB2.out p2 LB2.out)
  have RC3 := Lib.hid p3
  have LC3 := Lib.hid p4
  have TC3 := Lib.hid p5
  clear k2 p1 p2 p3 p4 p5
  go_wp2_with (first | (refine wpList_load_mid rfl 25 (.tmp 3) rfl a 0 rfl D _ RA2.out uS rfl iD ?_) | (refine wpList_store_mid rfl 25 (.tmp 8) (.tmp 11) rfl w2.heap.size 0 D.toArray rfl rfl TH.out HDi.out HDo.out ?_))
  refine (PK.out _).mono ?_
  rintro e w' ⟨rfl, rfl⟩
  obtain ⟨c, hc⟩ : ∃ c, c = w2.heap.size := ⟨_, rfl⟩
  obtain ⟨w3, hw3⟩ : ∃ w3, (w2.alloc Z25w).setCells w2.heap.size 0 D = w3 := ⟨_, rfl⟩
  have HCB := Lib.hid (show b < c by rw [hc]; exact LB2.out)
  rw [hw3] at HW3 RA3 RB3 RC3 LC3 TC3 ⊢
  rw [← hc] at RC3 LC3 TC3 ⊢
  clear hw3 hc TH
  have d64 : ((m : Int)).tdiv 64 = (q : Int) := by rw [Int.tdiv_eq_ediv_of_nonneg (by omega)]; omega
  have m64 : ((m : Int)).tmod 64 = (r : Int) := by rw [Int.tmod_eq_emod_of_nonneg (by omega)]; omega
  have d64' : ((m : Int)) / 64 = (q : Int) := by omega
  have m64' : ((m : Int)) % 64 = (r : Int) := by omega
  have wq : IntKind.i64.wrap (q : Int) = q := IntWalk.i64_in _ (by omega)
  have wr : IntKind.i64.wrap (r : Int) = r := IntWalk.i64_in _ (by omega)
  have cq : w3.cell? ⟨c, q, none⟩ = some (.int .u64 (U (g A q))) := by have := RC3.out q _ HDq.out; rwa [Nat.zero_add] at this
  have fq : w3.frozen? ⟨c, q, none⟩ = false := by have := (TC3.out q q25).2; rwa [Nat.zero_add] at this
  have xq := HX.out
  clear hq hr
  go_upto_region 4 with fail
  go_region
  have K4 : Kep (fun i => i = c) w3 (w3.setCell ⟨c, q, none⟩ (.int .u64 (U (g A q ^^^ 1#64 <<< r)))).drew := ((Kep.refl _ w3).set_self _ _).drew
  have RC4 := Lib.hid (show (w3.setCell ⟨c, q, none⟩ (.int .u64 (U (g A q ^^^ 1#64 <<< r)))).drew.rangeAt c 0 C by rw [HCs.out]; exact range_set RC3.out fq cq)
  have RA4 := Lib.hid (range_kep2 RA3.out K4 (show ¬ a = c by have := HCB.out; have := HAB.out; omega))
  have RB4 := Lib.hid (range_kep2 RB3.out K4 (show ¬ b = c by have := HCB.out; omega))
  have HW4 := Lib.hid (Kep.bel HW3.out K4 (fun i hi => by rw [hi]; have := HCB.out; have := HAB.out; have := HA.out; omega))
  have LC4 := Lib.hid (Nat.lt_of_lt_of_le LC3.out K4.size)
  clear K4 cq fq xq
  obtain ⟨w4, hw4⟩ : ∃ w4, (w3.setCell ⟨c, q, none⟩ (.int .u64 (U (g A q ^^^ 1#64 <<< r)))).drew = w4 := ⟨_, rfl⟩
  rw [hw4] at RC4 RA4 RB4 HW4 LC4 ⊢
  clear hw4 d64 m64 d64' m64' wq wr
  go_wp2_with (refine wpList_load_mid rfl 25 (.tmp 3) rfl a 0 rfl D _ RA4.out uS rfl iD ?_)
  refine (PA.out _ (HT.out.bel HW4.out)).mono ?_
  rintro e w5 ⟨rfl, k5⟩
  have HW5 := Lib.hid (HW4.out.trans k5)
  have LB4 := Lib.hid (show a < w4.heap.size ∧ b < w4.heap.size by have := LC4.out; have := HCB.out; have := HAB.out; omega)
  have RA5 := range_bel RA4.out k5 LB4.out.1
  have RB5 := range_bel RB4.out k5 LB4.out.2
  have RC5 := range_bel RC4.out k5 LC4.out
  have LC5 : c < w5.heap.size := Nat.lt_of_lt_of_le LC4.out (Below.size k5)
  obtain ⟨p1, p2, p3, p4, p5⟩ := put25 w5 X HXl.out
  have TH := Lib.hid p1
  have F6 := Lib.hid (show Four a b c w5.heap.size D E C X w ((w5.alloc Z25w).setCells w5.heap.size 0 X) by
    have := HCB.out
    have := HAB.out
    exact ⟨range_bel RA5 p2 (by omega), range_bel RB5 p2 (by omega), range_bel RC5 p2 LC5, p3, ⟨by omega, by omega, by omega, p4⟩, HW5.out.trans p2⟩)
  clear p1 p2 p3 p4 p5 k5 RA5 RB5 RC5 LC5
  go_upto_region 6 with (refine wpList_store_mid rfl 25 (.tmp 9) (.tmp 26) rfl w5.heap.size 0 X.toArray rfl rfl TH.out HXi.out HXo.out ?_)
  obtain ⟨x, hx⟩ : ∃ x, x = w5.heap.size := ⟨_, rfl⟩
  obtain ⟨w6, hw6⟩ : ∃ w6, (w5.alloc Z25w).setCells w5.heap.size 0 X = w6 := ⟨_, rfl⟩
  rw [hw6] at F6 ⊢
  rw [← hx] at F6 ⊢
  clear hw6 hx TH
  refine wp_region_held_drew (S := fun w' => Four a b c x D E C X w w') (by kernel_rfl) (Four.bel F6.out (Bel.refl _).drew) (fun hS0 => ?_)
  refine wpAnyH_take (i := 0) (oi := { dst := some 27, op := .move (.tmp 7), type := 4, pos := "outright.go:92", after := #[], guard := none }) (v := .bool true) rfl (by kernel_rfl) (by kernel_rfl) (by kernel_rfl) (fun _ _ _ h => h) (Or.inl ⟨by rfl, by intro w hSw; clear hSw; go_simp⟩) hS0 ?_
  try simp only [Act.put, List.setIfInBounds_toArray, List.set_cons_zero, List.set_cons_succ]
  refine wpAnyH_take (i := 1) (oi := { dst := some 28, op := .move (.tmp 27), type := 4, pos := "outright.go:92", after := #[{ on := 0, ground := .data }], guard := none }) (v := .bool true) rfl (by kernel_rfl) (by kernel_rfl) (by kernel_rfl) (fun _ _ _ h => h) (Or.inl ⟨by rfl, by intro w hSw; clear hSw; go_simp⟩) hS0 ?_
  try simp only [Act.put, List.setIfInBounds_toArray, List.set_cons_zero, List.set_cons_succ]
  refine wpAnyH_take (i := 2) (oi := { dst := some 29, op := .load 25 (.tmp 9), type := 25, pos := "outright.go:92", after := #[{ on := 1, ground := .guard }], guard := some (1, true) }) (v := .agg X.toArray) rfl (by kernel_rfl) (by kernel_rfl) (by kernel_rfl) (fun _ _ _ h => h) (yieldsIf_load_mid (by rfl) _ _ rfl _ _ rfl _ _ (fun w h => h.2.2.2.1) uS rfl iX) hS0 ?_
  try simp only [Act.put, List.setIfInBounds_toArray, List.set_cons_zero, List.set_cons_succ]
  refine wpAnyH_take (i := 3) (oi := { dst := some 30, op := .load 25 (.tmp 8), type := 25, pos := "outright.go:92", after := #[{ on := 1, ground := .guard }], guard := some (1, true) }) (v := .agg C.toArray) rfl (by kernel_rfl) (by kernel_rfl) (by kernel_rfl) (fun _ _ _ h => h) (yieldsIf_load_mid (by rfl) _ _ rfl _ _ rfl _ _ (fun w h => h.2.2.1) uS rfl iC) hS0 ?_
  try simp only [Act.put, List.setIfInBounds_toArray, List.set_cons_zero, List.set_cons_succ]
  refine wpAnyH_ready (rs := [4]) (by kernel_rfl) (by simp) ?_
  refine AllReadyH.cons (o := { dst := some 31, op := .call { callee := .value (.func 22), args := #[.tmp 30], argTypes := #[25] }, type := 25, pos := "outright.go:92", after := #[{ on := 3, ground := .data }, { on := 1, ground := .chain }, { on := 1, ground := .guard }], guard := some (1, true) }) rfl (fun K hK => ?_) AllReadyH.nil
  go_simp
  refine (PC.out _ (HT.out.bel hS0.2.2.2.2.2)).mono ?_
  rintro e v1 ⟨rfl, kk1⟩
  go_wp2_with fail
  refine hK.out _ _ (Four.bel hS0 kk1) (fun hS1 => ?_)
  clear hK K
  try simp only [Act.put, List.setIfInBounds_toArray, List.set_cons_zero, List.set_cons_succ]
  refine wpAnyH_take (i := 5) (oi := { dst := some 32, op := .binOp .neq 25 (.tmp 29) (.tmp 31) 25, type := 4, pos := "outright.go:92", after := #[{ on := 2, ground := .data }, { on := 4, ground := .data }, { on := 1, ground := .guard }], guard := some (1, true) }) (v := .bool true) rfl (by kernel_rfl) (by kernel_rfl) (by kernel_rfl) (fun _ _ _ h => h) (Or.inl ⟨by rfl, by intro w hSw; clear hSw; go_simp⟩) hS1 ?_
  try simp only [Act.put, List.setIfInBounds_toArray, List.set_cons_zero, List.set_cons_succ]
  refine wpAnyH_take (i := 6) (oi := { dst := some 33, op := .pick (.tmp 28) (.tmp 32) (.const (Value.bool false)), type := 4, pos := "outright.go:92", after := #[{ on := 1, ground := .data }, { on := 5, ground := .data }], guard := none }) (v := .bool true) rfl (by kernel_rfl) (by kernel_rfl) (by kernel_rfl) (fun _ _ _ h => h) (Or.inl ⟨by rfl, by intro w hSw; clear hSw; go_simp⟩) hS1 ?_
  try simp only [Act.put, List.setIfInBounds_toArray, List.set_cons_zero, List.set_cons_succ]
  refine wpAnyH_take (i := 7) (oi := { dst := some 34, op := .move (.tmp 33), type := 4, pos := "outright.go:92", after := #[{ on := 6, ground := .data }, { on := 4, ground := .chain }], guard := none }) (v := .bool true) rfl (by kernel_rfl) (by kernel_rfl) (by kernel_rfl) (fun _ _ _ h => h) (Or.inl ⟨by rfl, by intro w hSw; clear hSw; go_simp⟩) hS1 ?_
  try simp only [Act.put, List.setIfInBounds_toArray, List.set_cons_zero, List.set_cons_succ]
  refine wpAnyH_take (i := 8) (oi := { dst := some 35, op := .load 25 (.tmp 9), type := 25, pos := "outright.go:92", after := #[{ on := 7, ground := .guard }], guard := some (7, true) }) (v := .agg X.toArray) rfl (by kernel_rfl) (by kernel_rfl) (by kernel_rfl) (fun _ _ _ h => h) (yieldsIf_load_mid (by rfl) _ _ rfl _ _ rfl _ _ (fun w h => h.2.2.2.1) uS rfl iX) hS1 ?_
  try simp only [Act.put, List.setIfInBounds_toArray, List.set_cons_zero, List.set_cons_succ]
  refine wpAnyH_take (i := 9) (oi := { dst := some 36, op := .load 25 (.tmp 4), type := 25, pos := "outright.go:92", after := #[{ on := 7, ground := .guard }], guard := some (7, true) }) (v := .agg E.toArray) rfl (by kernel_rfl) (by kernel_rfl) (by kernel_rfl) (fun _ _ _ h => h) (yieldsIf_load_mid (by rfl) _ _ rfl _ _ rfl _ _ (fun w h => h.2.1) uS rfl iE) hS1 ?_
  try simp only [Act.put, List.setIfInBounds_toArray, List.set_cons_zero, List.set_cons_succ]
  refine wpAnyH_take (i := 12) (oi := { dst := some 39, op := .load 25 (.tmp 3), type := 25, pos := "outright.go:92", after := #[{ on := 7, ground := .guard }], guard := some (7, true) }) (v := .agg D.toArray) rfl (by kernel_rfl) (by kernel_rfl) (by kernel_rfl) (fun _ _ _ h => h) (yieldsIf_load_mid (by rfl) _ _ rfl _ _ rfl _ _ (fun w h => h.1) uS rfl iD) hS1 ?_
  try simp only [Act.put, List.setIfInBounds_toArray, List.set_cons_zero, List.set_cons_succ]
  refine wpAnyH_take (i := 13) (oi := { dst := some 40, op := .load 25 (.tmp 4), type := 25, pos := "outright.go:92", after := #[{ on := 7, ground := .guard }], guard := some (7, true) }) (v := .agg E.toArray) rfl (by kernel_rfl) (by kernel_rfl) (by kernel_rfl) (fun _ _ _ h => h) (yieldsIf_load_mid (by rfl) _ _ rfl _ _ rfl _ _ (fun w h => h.2.1) uS rfl iE) hS1 ?_
  try simp only [Act.put, List.setIfInBounds_toArray, List.set_cons_zero, List.set_cons_succ]
  refine wpAnyH_take (i := 14) (oi := { dst := some 41, op := .binOp .eql 25 (.tmp 39) (.tmp 40) 25, type := 4, pos := "outright.go:92", after := #[{ on := 12, ground := .data }, { on := 13, ground := .data }, { on := 7, ground := .guard }], guard := some (7, true) }) (v := .bool (A == B)) rfl (by kernel_rfl) (by kernel_rfl) (by kernel_rfl) (fun _ _ _ h => h) (Or.inl ⟨by rfl, by intro w hSw; clear hSw; go_simp⟩) hS1 ?_
  try simp only [Act.put, List.setIfInBounds_toArray, List.set_cons_zero, List.set_cons_succ]
  refine wpAnyH_ready (rs := [10]) (by kernel_rfl) (by simp) ?_
  refine AllReadyH.cons (o := { dst := some 37, op := .call { callee := .value (.func 22), args := #[.tmp 36], argTypes := #[25] }, type := 25, pos := "outright.go:92", after := #[{ on := 9, ground := .data }, { on := 7, ground := .chain }, { on := 7, ground := .guard }], guard := some (7, true) }) rfl (fun K hK => ?_) AllReadyH.nil
  go_simp
  refine (PB.out _ (HT.out.bel hS1.2.2.2.2.2)).mono ?_
  rintro e v2 ⟨rfl, kk2⟩
  go_wp2_with fail
  refine hK.out _ _ (Four.bel hS1 kk2) (fun hS2 => ?_)
  clear hK K
  try simp only [Act.put, List.setIfInBounds_toArray, List.set_cons_zero, List.set_cons_succ]
  refine wpAnyH_take (i := 11) (oi := { dst := some 38, op := .binOp .eql 25 (.tmp 35) (.tmp 37) 25, type := 4, pos := "outright.go:92", after := #[{ on := 8, ground := .data }, { on := 10, ground := .data }, { on := 7, ground := .guard }], guard := some (7, true) }) (v := .bool (A == B)) rfl (by kernel_rfl) (by kernel_rfl) (by kernel_rfl) (fun _ _ _ h => h) (Or.inl ⟨by rfl, by intro w hSw; clear hSw; go_simp⟩) hS2 ?_
  try simp only [Act.put, List.setIfInBounds_toArray, List.set_cons_zero, List.set_cons_succ]
  refine wpAnyH_take (i := 15) (oi := { dst := some 42, op := .binOp .eql 4 (.tmp 38) (.tmp 41) 4, type := 4, pos := "outright.go:92", after := #[{ on := 11, ground := .data }, { on := 14, ground := .data }, { on := 7, ground := .guard }], guard := some (7, true) }) (v := .bool true) rfl (by kernel_rfl) (by kernel_rfl) (by kernel_rfl) (fun _ _ _ h => h) (Or.inl ⟨by rfl, by intro w hSw; clear hSw; go_simp⟩) hS2 ?_
  try simp only [Act.put, List.setIfInBounds_toArray, List.set_cons_zero, List.set_cons_succ]
  refine wpAnyH_take (i := 16) (oi := { dst := some 43, op := .pick (.tmp 34) (.tmp 42) (.const (Value.bool false)), type := 4, pos := "outright.go:92", after := #[{ on := 7, ground := .data }, { on := 15, ground := .data }], guard := none }) (v := .bool true) rfl (by kernel_rfl) (by kernel_rfl) (by kernel_rfl) (fun _ _ _ h => h) (Or.inl ⟨by rfl, by intro w hSw; clear hSw; go_simp⟩) hS2 ?_
  try simp only [Act.put, List.setIfInBounds_toArray, List.set_cons_zero, List.set_cons_succ]
  refine wpAnyH_take (i := 17) (oi := { dst := some 44, op := .move (.tmp 43), type := 4, pos := "outright.go:92", after := #[{ on := 16, ground := .data }, { on := 10, ground := .chain }], guard := none }) (v := .bool true) rfl (by kernel_rfl) (by kernel_rfl) (by kernel_rfl) (fun _ _ _ h => h) (Or.inl ⟨by rfl, by intro w hSw; clear hSw; go_simp⟩) hS2 ?_
  try simp only [Act.put, List.setIfInBounds_toArray, List.set_cons_zero, List.set_cons_succ]
  refine wpAnyH_take (i := 18) (oi := { dst := some 45, op := .load 25 (.tmp 9), type := 25, pos := "outright.go:92", after := #[{ on := 17, ground := .guard }], guard := some (17, true) }) (v := .agg X.toArray) rfl (by kernel_rfl) (by kernel_rfl) (by kernel_rfl) (fun _ _ _ h => h) (yieldsIf_load_mid (by rfl) _ _ rfl _ _ rfl _ _ (fun w h => h.2.2.2.1) uS rfl iX) hS2 ?_
  try simp only [Act.put, List.setIfInBounds_toArray, List.set_cons_zero, List.set_cons_succ]
  refine wpAnyH_take (i := 19) (oi := { dst := some 46, op := .load 25 (.tmp 3), type := 25, pos := "outright.go:92", after := #[{ on := 17, ground := .guard }], guard := some (17, true) }) (v := .agg D.toArray) rfl (by kernel_rfl) (by kernel_rfl) (by kernel_rfl) (fun _ _ _ h => h) (yieldsIf_load_mid (by rfl) _ _ rfl _ _ rfl _ _ (fun w h => h.1) uS rfl iD) hS2 ?_
  try simp only [Act.put, List.setIfInBounds_toArray, List.set_cons_zero, List.set_cons_succ]
  refine wpAnyH_ready (rs := [20]) (by kernel_rfl) (by simp) ?_
  refine AllReadyH.cons (o := { dst := some 47, op := .call { callee := .value (.func 22), args := #[.tmp 46], argTypes := #[25] }, type := 25, pos := "outright.go:92", after := #[{ on := 19, ground := .data }, { on := 17, ground := .chain }, { on := 17, ground := .guard }], guard := some (17, true) }) rfl (fun K hK => ?_) AllReadyH.nil
  go_simp
  refine (PA.out _ (HT.out.bel hS2.2.2.2.2.2)).mono ?_
  rintro e v3 ⟨rfl, kk3⟩
  go_wp2_with fail
  refine hK.out _ _ (Four.bel hS2 kk3) (fun hS3 => ?_)
  clear hK K
  try simp only [Act.put, List.setIfInBounds_toArray, List.set_cons_zero, List.set_cons_succ]
  refine wpAnyH_take (i := 21) (oi := { dst := some 48, op := .binOp .eql 25 (.tmp 45) (.tmp 47) 25, type := 4, pos := "outright.go:92", after := #[{ on := 18, ground := .data }, { on := 20, ground := .data }, { on := 17, ground := .guard }], guard := some (17, true) }) (v := .bool true) rfl (by kernel_rfl) (by kernel_rfl) (by kernel_rfl) (fun _ _ _ h => h) (Or.inl ⟨by rfl, by intro w hSw; clear hSw; go_simp⟩) hS3 ?_
  try simp only [Act.put, List.setIfInBounds_toArray, List.set_cons_zero, List.set_cons_succ]
  refine wpAnyH_take (i := 22) (oi := { dst := some 49, op := .pick (.tmp 44) (.tmp 48) (.const (Value.bool false)), type := 4, pos := "outright.go:92", after := #[{ on := 17, ground := .data }, { on := 21, ground := .data }], guard := none }) (v := .bool true) rfl (by kernel_rfl) (by kernel_rfl) (by kernel_rfl) (fun _ _ _ h => h) (Or.inl ⟨by rfl, by intro w hSw; clear hSw; go_simp⟩) hS3 ?_
  try simp only [Act.put, List.setIfInBounds_toArray, List.set_cons_zero, List.set_cons_succ]
  refine wpAnyH_take (i := 23) (oi := { dst := some 6, op := .assign (.tmp 49), type := 4, pos := "outright.go:92", after := #[{ on := 22, ground := .data }, { on := 20, ground := .chain }, { on := 0, ground := .phase }, { on := 1, ground := .phase }, { on := 2, ground := .phase }, { on := 3, ground := .phase }, { on := 4, ground := .phase }, { on := 5, ground := .phase }, { on := 6, ground := .phase }, { on := 7, ground := .phase }, { on := 8, ground := .phase }, { on := 9, ground := .phase }, { on := 10, ground := .phase }, { on := 11, ground := .phase }, { on := 12, ground := .phase }, { on := 13, ground := .phase }, { on := 14, ground := .phase }, { on := 15, ground := .phase }, { on := 16, ground := .phase }, { on := 17, ground := .phase }, { on := 18, ground := .phase }, { on := 19, ground := .phase }, { on := 20, ground := .phase }, { on := 21, ground := .phase }, { on := 22, ground := .phase }], guard := none }) (v := .bool true) rfl (by kernel_rfl) (by kernel_rfl) (by kernel_rfl) (fun _ _ _ h => h) (Or.inl ⟨by rfl, by intro w hSw; clear hSw; go_simp⟩) hS3 ?_
  try simp only [Act.put, List.setIfInBounds_toArray, List.set_cons_zero, List.set_cons_succ]
  refine wpAnyH_done (by kernel_rfl) ?_ _
  go_wp2
  go_ret
  exact ⟨rfl, hS3.2.2.2.2.2⟩

theorem turnsLaw2 (A B : List Wd) (t : Int) (w : World) (hA : A.length = 25) (hB : B.length = 25) (ht : (Lit.int .i64 t).wf = true) (hT : Tn w) :
    Calls Tryd.prog 9 #[.agg (A.map V).toArray, .agg (B.map V).toArray, .int .i64 t] w fun e w' => e = .returned (.bool true) ∧ Bel w w' := by
  simp [Lit.wf, IntKind.min, IntKind.max, IntKind.signed, IntKind.bits] at ht
  exact turnsLaw A B t w hA hB hT (by omega) (by omega)
end Kk
end Go.Proofs.YtaniijpppmipbaaDoor
