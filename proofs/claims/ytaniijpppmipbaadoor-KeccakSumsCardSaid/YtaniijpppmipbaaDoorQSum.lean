/-
  What the reference's Sum answers: the hash of bytes. Condition: a slice of at most 10^9 bytes.
-/
import Derived.Test.YtaniijpppmipbaaDoorQSum0
namespace Go.Proofs.YtaniijpppmipbaaDoor
open Go.RowKit Go.Shelf
set_option linter.unusedVariables false
namespace Kk

theorem own_form {w : World} {base : Nat} {e : TypeId} {v : Value} {n : Nat} {xs : List Value} (h : w.ownsRow base e 1 v n xs) (hn : 0 < n) : ∃ g cap, v = .slice (some ⟨g, 0, none⟩) n cap ∧ n ≤ cap ∧ base ≤ g ∧ g < w.heap.size := by
  rcases h.2 with ⟨rfl, rfl⟩ | ⟨g, cap, cur, rfl, hb, hg, hnc, hm, r⟩
  · omega
  · exact ⟨g, cap, rfl, hnc, hb, (Array.getElem?_eq_some_iff.1 hg).1⟩
theorem own_cap {w : World} {base : Nat} {e : TypeId} {g n cap : Nat} {xs : List Value} (h : w.ownsRow base e 1 (.slice (some ⟨g, 0, none⟩) n cap) n xs) : n ≤ cap ∧ cap ≤ maxLen := by
  rcases h.2 with ⟨h1, _⟩ | ⟨g', cap', cur, h1, hb, hg, hnc, hm, r⟩
  · cases h1
  · injection h1 with _ _ h1
    subst h1
    exact ⟨hnc, hm⟩
theorem own_cell {w : World} {base g n cap : Nat} {zs : List Int} (h : w.ownsRow base 5 1 (.slice (some ⟨g, 0, none⟩) n cap) n (zs.map (Value.int .u8))) {i : Nat} (hi : i < n) : w.cell? ⟨g, i, none⟩ = some (.int .u8 (zs.getD i 0)) := by
  have hl : zs.length = n := by simpa using h.1
  rw [h.cellAt i (by omega), List.getElem?_map, List.getElem?_eq_getElem (by omega), getD_eq _ _ (by omega)]
  rfl
theorem part_get (P : List Int) (j k i : Nat) (hk : k < 17) (hi : i < 8) : (((P.drop (136 * j)).take 136).drop (k * 8)).getD i 0 = P.getD (136 * j + 8 * k + i) 0 := by
  simp only [List.getD_eq_getElem?_getD, List.getElem?_drop, List.getElem?_take]
  rw [if_pos (by omega), show 136 * j + (k * 8 + i) = 136 * j + 8 * k + i by omega]

set_option maxRecDepth 100000 in
set_option maxHeartbeats 4000000 in
theorem refSum (A : Option Addr) (n c : Nat) (zs : List Int) (w : World) (hz : Sl w A n c zs) (hby : By zs) (hn : n ≤ 1000000000) :
    Calls Tryd.prog 16 #[.slice A n c] w fun e w' => e = .returned (hsV (sumOf zs)) ∧ Bel w w' := by
  obtain ⟨h, hh⟩ : ∃ h, h = w.heap.size := ⟨_, rfl⟩
  have HZL := Lib.hid hz.len
  obtain ⟨w1, hw1⟩ : ∃ w1, w.alloc (.cells #[.int .u8 0, .int .u8 0, .int .u8 0, .int .u8 0, .int .u8 0, .int .u8 0, .int .u8 0, .int .u8 0, .int .u8 0, .int .u8 0, .int .u8 0, .int .u8 0, .int .u8 0, .int .u8 0, .int .u8 0, .int .u8 0, .int .u8 0, .int .u8 0, .int .u8 0, .int .u8 0, .int .u8 0, .int .u8 0, .int .u8 0, .int .u8 0, .int .u8 0, .int .u8 0, .int .u8 0, .int .u8 0, .int .u8 0, .int .u8 0, .int .u8 0, .int .u8 0] 31) = w1 := ⟨_, rfl⟩
  have TH := Lib.hid (show w1.there h 0 32 by rw [← hw1, hh]; exact there_newK (by decide))
  have HB := Lib.hid (show Bel w w1 by rw [← hw1]; exact (Bel.refl w).alloc _)
  have HS1 := Lib.hid (show w1.heap.size = h + 1 by rw [← hw1, hh]; simp)
  have SL := Lib.hid ((hz.bel HB.out).bel ((Bel.refl w1).alloc (.cells #[] 5)))
  have OE := Lib.hid (own_empty w1)
  have HW1 := Lib.hid hw1
  have HH := Lib.hid hh
  have HBY := Lib.hid hby
  clear hw1 hh hz hby
  go_enter Tryd.func16, Tryd.ntmps16
  go_upto_region 1 with fail
  rw [HW1.out, ← HH.out]
  go_wp2_with (at_builtin; first
    | (refine wpList_append_sl rfl _ _ rfl w1.heap.size _ (0 + n) _ rfl (owns_bel OV.out ((Bel.refl w2).alloc _)) (some ⟨w2.heap.size, 0, none⟩) 1 1 [6] rfl S6.out (by omega) (by have := Below.size HB2.out; rw [World.size_alloc]; omega) ?_
       intro v' w3 hown' hgrow)
    | (refine wpList_append_sl rfl _ _ rfl w1.heap.size _ 0 [] rfl OE.out A n c zs rfl SL.out (by omega) (by rw [World.size_alloc]; omega) ?_
       intro v1 w2 hown1 hgrow1
       have OV := Lib.hid hown1
       have HB2 := Lib.hid (show Bel w1 w2 from Bel.grown ((Bel.refl w1).alloc _) hgrow1 (fun k hk => (OE.out.lt k hk).1))
       have S6 := Lib.hid (sl_lit w2 [6])
       clear hown1 hgrow1))
  have HB3 := Lib.hid (show Bel w1 w3 from Bel.grown (HB2.out.alloc _) hgrow (fun k hk => (OV.out.lt k hk).1))
  have O3 := Lib.hid (show w3.ownsRow w1.heap.size 5 1 v' (n + 1 + 0) ((full zs 0).map (Value.int .u8)) by
    rw [List.nil_append] at hown'
    rw [show n + 1 + 0 = 0 + n + 1 by omega, full, List.map_append]
    exact hown')
  clear hown' hgrow OV HB2 S6 OE SL
  have T3 := Lib.hid (there_bel TH.out HB3.out)
  have HB13 := Lib.hid (HB.out.trans HB3.out)
  obtain ⟨m, hm⟩ : ∃ m, n / 136 = m := ⟨_, rfl⟩
  have HM := Lib.hid hm
  have hm1 : 136 * m ≤ n := by omega
  have hm2 : n < 136 * m + 136 := by omega
  have hm9 : m ≤ 10000000 := by omega
  have h1w : h + 1 ≤ w3.heap.size := by rw [← HS1.out]; exact Below.size HB3.out
  clear hm HW1
  go_loopw [3] (fun v wr => ∃ z : Nat, n + 1 + z ≤ 136 * m + 136 ∧ wr.ownsRow w1.heap.size 5 1 v (n + 1 + z) ((full zs z).map (Value.int .u8)) ∧ Bel w1 wr) (fun v _ => 136 * m + 136 - sizeOfV v)
  case atStart => exact ⟨0, by omega, O3.out, HB3.out⟩
  case round =>
    obtain ⟨z, hz, hown, hb⟩ := hrel
    obtain ⟨g, cap, rfl, hcap, hgb, hgl⟩ := own_form hown (by omega)
    have OV := Lib.hid hown
    have HBV := Lib.hid hb
    obtain ⟨L, hL⟩ : ∃ L, n + 1 + z = L := ⟨_, rfl⟩
    have HL := Lib.hid hL
    clear hown hb
    rw [hL] at hz OV hcap ⊢
    have hL1 : n < L := by omega
    have hz2 : z = L - n - 1 := by omega
    clear hL
    have t1 : ((L : Int)).tmod 136 = ((L % 136 : Nat) : Int) := by rw [Int.tmod_eq_emod_of_nonneg (by omega)]; omega
    by_cases hr : L % 136 = 0
    · obtain rfl : L = 136 * m + 136 := by omega
      have t3 : (((136 * m + 136 : Nat) : Int)).tmod 136 = 0 := by rw [Int.tmod_eq_emod_of_nonneg (by omega)]; omega
      have hcm := own_cap OV.out
      have c0 := own_cell OV.out (i := 136 * m + 135) (by omega)
      have f0 := OV.out.frozenAt (136 * m + 135)
      have ez : z = 135 - zs.length % 136 := by rw [HZL.out]; have := HM.out; omega
      have PA := Lib.hid (show ((full zs z).map (Value.int .u8)).set (136 * m + 135) (.int .u8 (bits .xor .u8 ((full zs z).getD (136 * m + 135) 0) 128)) = (padAll zs).map (Value.int .u8) by
        rw [← List.map_set, ez, ← HM.out, ← HZL.out]; rfl)
      obtain ⟨x, hx⟩ : ∃ x, (full zs z).getD (136 * m + 135) 0 = x := ⟨_, rfl⟩
      rw [hx] at c0 PA
      have ST := Lib.hid (by
        have h := (OV.out.stored (136 * m + 135) (.int .u8 (bits .xor .u8 x 128))).1
        rw [PA.out] at h
        exact h)
      have hgh : g < wr.heap.size := hgl
      clear hx hz2 t1
      have e1 : ((136 * m + 136 : Nat) : Int) - 1 = 136 * (m : Int) + 135 := by omega
      have w1' : IntKind.i64.wrap (136 * (m : Int) + 135) = 136 * (m : Int) + 135 := IntWalk.i64_in _ (by omega)
      have i1 : ((136 * (m : Int) + 135)).toNat = 136 * m + 135 := by omega
      go_upto_region 5 with fail
      obtain ⟨w4, hw4⟩ : ∃ w4, wr.setCell ⟨g, 136 * m + 135, none⟩ (.int .u8 (bits .xor .u8 x 128)) = w4 := ⟨_, rfl⟩
      have B4 : Bel w1 w4 := by rw [← hw4]; exact HBV.out.set hgb _
      have O4 := ST.out
      have g4 : g < w4.heap.size := by rw [← hw4, World.size_setCell]; exact hgh
      rw [hw4] at O4 ⊢
      obtain ⟨P, hP⟩ : ∃ P, P = padAll zs := ⟨_, rfl⟩
      have lP : P.length = 136 * m + 136 := by rw [hP, len_padAll, HZL.out]; have := HM.out; omega
      have HPB := Lib.hid (show By P by rw [hP]; exact by_padAll HBY.out)
      have HPS := Lib.hid (show hashOf (stN P (m + 1)) = sumOf zs by rw [hP, ← HM.out, ← HZL.out, stN_pad]; rfl)
      rw [← hP] at O4
      clear hw4 hP ST PA c0 f0 OV HBV
      obtain ⟨hs, hhs⟩ : ∃ hs, hs = w4.heap.size := ⟨_, rfl⟩
      obtain ⟨w5, hw5⟩ : ∃ w5, w4.alloc Z25w = w5 := ⟨_, rfl⟩
      have B5 : Bel w4 w5 := by rw [← hw5]; exact (Bel.refl w4).alloc _
      have S5 := Lib.hid (show Blk w5 hs ((stN P 0).map V).toArray 25 by rw [← hw5, hhs]; exact Blk.new w4 _ _)
      have s5 : hs < w5.heap.size := by rw [← hw5, hhs]; simp
      have CP := Lib.hid (show ∀ i, i < 136 * m + 136 → w5.cell? ⟨g, i, none⟩ = some (.int .u8 (P.getD i 0)) from fun i hi =>
        (Below.cell (p := ⟨g, i, none⟩) B5 g4).trans (own_cell O4 hi))
      have g5 : g < w5.heap.size := Nat.lt_of_lt_of_le g4 (Below.size B5)
      have gs : g ≠ hs := by rw [hhs]; exact Nat.ne_of_lt g4
      have hhs2 : h + 1 ≤ hs := by rw [hhs, ← HS1.out]; exact Below.size B4
      have T5 := Lib.hid (there_bel (there_bel TH.out B4) B5)
      have BB5 := Lib.hid ((HB.out.trans B4).trans B5)
      go_wp2_with fail
      rw [← hhs]
      have HHS := Lib.hid hhs
      clear hhs hw5 B5 B4 O4 hr t3 e1 w1' i1 hcm hz
      generalize ((136 * (m : Int) + 136) % 136) = q0
      rw [show 136 * m + 136 - 1 = 136 * m + 135 by omega]
      go_loopw [5] (fun i wr => ∃ j : Nat, i = .int .i64 (136 * (j : Int)) ∧ j ≤ m + 1 ∧ Blk wr hs ((stN P j).map V).toArray 25 ∧ Kep (fun i => i = hs) w5 wr) (fun i _ => 136 * m + 136 - (intOf i).toNat)
      case atStart => exact ⟨0, rfl, by omega, S5.out, Kep.refl _ _⟩
      case round =>
        obtain ⟨j, rfl, hj, hst, hk⟩ := hrel
        have HST := Lib.hid hst
        have HK := Lib.hid hk
        by_cases hlj : j < m + 1
        · clear hst hk
          have hlj2 : 136 * (j : Int) < 136 * (m : Int) + 136 := by omega
          go_wp2
          obtain ⟨B, hB⟩ : ∃ B, B = (P.drop (136 * j)).take 136 := ⟨_, rfl⟩
          obtain ⟨S0, hS0⟩ : ∃ S0, S0 = stN P j := ⟨_, rfl⟩
          have lS : S0.length = 25 := by rw [hS0]; exact len_stN _ _
          have HNX := Lib.hid (show perm (xored S0 B 17) = stN P (j + 1) by rw [hB, hS0]; rfl)
          have HBK := Lib.hid (show ∀ k i, k < 17 → i < 8 → (B.drop (k * 8)).getD i 0 = P.getD (136 * j + 8 * k + i) 0 from fun k i hk hi => by rw [hB]; exact part_get P j k i hk hi)
          have HST0 := Lib.hid (show Blk wr hs ((xored S0 B 0).map V).toArray 25 by rw [xored0 lS, hS0]; exact HST.out)
          clear hB hS0 HST
          go_loopw [6] (fun i wr => ∃ k : Nat, i = .int .i64 k ∧ k ≤ 17 ∧ Blk wr hs ((xored S0 B k).map V).toArray 25 ∧ Kep (fun i => i = hs) w5 wr) (fun i _ => 17 - (intOf i).toNat)
          case atStart => exact ⟨0, rfl, by omega, HST0.out, HK.out⟩
          case round =>
            obtain ⟨k, rfl, hk17, hst, hk⟩ := hrel
            have HST := Lib.hid hst
            have HK := Lib.hid hk
            by_cases hlk : k < 17
            · have k0 := hst.cell k (word_at (len_xored _ _ _) (by omega))
              rw [xored_at S0 B (by omega)] at k0
              have f0 := hst.frozen k
              have sl := fun w => slice_l (some ⟨g, 0, none⟩) (136 * m + 136) cap (136 * (j : Int) + 8 * (k : Int)) w (by omega) (by omega)
              rw [show (136 * (j : Int) + 8 * (k : Int)).toNat = 136 * j + 8 * k by omega, if_neg (by omega), show (some (⟨g, 0, none⟩ : Addr)).map (·.add ((136 * j + 8 * k) * 1)) = some ⟨g, 136 * j + 8 * k, none⟩ by rw [Nat.mul_one, Option.map_some, Addr.add_mid, Nat.zero_add]] at sl
              have WD := Lib.hid (fun W (hW : Bel wr W) => refWord g (136 * j + 8 * k) (136 * m + 136 - (136 * j + 8 * k)) (cap - (136 * j + 8 * k)) (B.drop (k * 8)) W (by omega) (by omega)
                (fun i hi => by
                  rw [HBK.out k i hlk hi]
                  exact (Below.cell (p := ⟨g, 136 * j + 8 * k + i, none⟩) hW (Nat.lt_of_lt_of_le g5 hk.size)).trans (hk.cell gs (CP.out _ (by omega))))
                (fun i hi => by rw [HBK.out k i hlk hi]; exact HPB.out.at _))
              have WD1 := Lib.hid (WD.out wr.drew (Bel.refl wr).drew)
              have qx := xor_u (Kk.g S0 k) (wordOf (B.drop (k * 8)))
              have w8 : IntKind.i64.wrap (8 * (k : Int)) = 8 * (k : Int) := IntWalk.i64_in _ (by omega)
              have w9 : IntKind.i64.wrap (136 * (j : Int) + 8 * (k : Int)) = 136 * (j : Int) + 8 * (k : Int) := IntWalk.i64_in _ (by omega)
              clear hst hk
              have hk25 : (k : Int) < 25 := by omega
              go_wp2
              go_still_tail 13, (by kernel_rfl)
              still_call (WD1.out)
              repeat still_step
              refine wpStill_nil ?_
              change wpList _ _ _ _ _ wr.drew
              go_wp2
              go_roundw
              case rel =>
                refine ⟨k + 1, by go_num, by omega, ?_, (HK.out.drew).set_self _ _⟩
                have h2 := (HST.out.bel (Bel.refl wr).drew).set k (.int .u64 (U (Kk.g S0 k ^^^ wd B k)))
                rw [key_set, xored_succ] at h2
                exact h2
              case measure => simp [intOf] <;> omega
            · obtain rfl : k = 17 := by omega
              obtain ⟨X, hX⟩ : ∃ X, X = xored S0 B 17 := ⟨_, rfl⟩
              have lX : X.length = 25 := by rw [hX]; exact len_xored _ _ _
              rw [← hX] at hst
              have CP2 := Lib.hid (fun W => refPermute X W lX)
              have NX := Lib.hid (show perm X = stN P (j + 1) by rw [hX]; exact HNX.out)
              obtain ⟨D, hD⟩ : ∃ D, D = X.map V := ⟨_, rfl⟩
              rw [← hD] at hst CP2
              have HDl := Lib.hid (show D.length = 25 by rw [hD, List.length_map]; exact lX)
              have HDi := Lib.hid (show (Tryd.prog.info? 25).map (·.size) = some D.length by rw [HDl.out]; kernel_rfl)
              have RD := Lib.hid (blk_range hst)
              have HSD := Lib.hid hst
              obtain ⟨Y, hY⟩ : ∃ Y, Y = (perm X).map V := ⟨_, rfl⟩
              rw [← hY] at CP2
              have HYl := Lib.hid (show Y.length = 25 by rw [hY, List.length_map]; exact len_perm lX)
              have YS := Lib.hid (show Y.toArray.size = Y.length from List.size_toArray)
              have YI2 := Lib.hid (show (Tryd.prog.info? 25).map (·.size) = some Y.toArray.size by rw [YS.out, HYl.out]; kernel_rfl)
              have YO := Lib.hid (all_oneCell_toArray (cs := Y) (by rw [hY]; exact ints1 _))
              have HY := Lib.hid hY
              clear hst hk hX hD hY HST
              go_wp2_with (refine wpList_load_mid rfl 25 (.tmp 4) rfl hs 0 rfl D _ RD.out Tryd.underlying25 rfl HDi.out ?_)
              refine (CP2.out _).mono ?_
              rintro e w6 ⟨rfl, h6⟩
              have H6 : Bel wr w6 := h6
              clear h6
              have S6 := HSD.out.bel H6
              have TY := Lib.hid (show w6.there hs 0 Y.toArray.size by
                rw [YS.out, HYl.out]
                exact S6.there 0 25 (by rw [List.size_toArray, HDl.out]; omega))
              have W6 := Lib.hid (show Blk (w6.setCells hs 0 Y) hs Y.toArray 25 from Blk.whole S6 (by rw [HYl.out, List.size_toArray, HDl.out]))
              have K6 := Lib.hid ((HK.out.trans (Kep.of_bel H6)).trans (kep_setCellsK hs Y 0 w6))
              clear S6 H6
              go_wp2_with (refine wpList_store_mid rfl 25 (.tmp 4) (.tmp 59) rfl hs 0 Y.toArray rfl rfl TY.out YI2.out YO.out ?_)
              go_roundw
              case rel => exact ⟨j + 1, by go_num, by omega, by rw [← NX.out, ← HY.out]; exact W6.out, K6.out⟩
              case measure => simp [intOf] <;> omega
        · obtain rfl : j = m + 1 := by omega
          obtain ⟨S, hS⟩ : ∃ S, S = stN P (m + 1) := ⟨_, rfl⟩
          rw [← hS] at hst
          have lS : S.length = 25 := by rw [hS]; exact len_stN _ _
          obtain ⟨H, hH⟩ : ∃ H, H = hashOf S := ⟨_, rfl⟩
          have HHS2 := Lib.hid (show H = sumOf zs by rw [hH, hS]; exact HPS.out)
          have lH : H.length = 32 := by rw [hH]; exact len_hashOf _
          have HAT := Lib.hid (show ∀ k i, k < 4 → i < 8 → H.getD (8 * k + i) 0 = (bytesOf (Kk.g S k)).getD i 0 from fun k i hk hi => by rw [hH]; exact hash_at S hk hi)
          obtain ⟨ho, hho⟩ : ∃ ho, ho = wr.heap.size := ⟨_, rfl⟩
          have HST := Lib.hid hst
          obtain ⟨w6, hw6⟩ : ∃ w6, wr.alloc (.cells Z32l.toArray 31) = w6 := ⟨_, rfl⟩
          have B6 : Bel wr w6 := by rw [← hw6]; exact (Bel.refl wr).alloc _
          have S6 := Lib.hid (hst.bel B6)
          have N6 := Lib.hid (show Blk w6 ho (outN H (8 * 0)).toArray 31 by rw [outN_0, ← hw6, hho]; exact Blk.new wr _ _)
          have hso : hs < ho := by rw [hho]; exact hst.lt
          have T6 := Lib.hid (there_bel (there_kep T5.out hk (by omega)) B6)
          have BB6 := Lib.hid ((Kep.bel BB5.out hk (fun i hi => by rw [hi]; have := HH.out; omega)).trans B6)
          have HW6 := Lib.hid (show wr.alloc (.cells #[.int .u8 0, .int .u8 0, .int .u8 0, .int .u8 0, .int .u8 0, .int .u8 0, .int .u8 0, .int .u8 0, .int .u8 0, .int .u8 0, .int .u8 0, .int .u8 0, .int .u8 0, .int .u8 0, .int .u8 0, .int .u8 0, .int .u8 0, .int .u8 0, .int .u8 0, .int .u8 0, .int .u8 0, .int .u8 0, .int .u8 0, .int .u8 0, .int .u8 0, .int .u8 0, .int .u8 0, .int .u8 0, .int .u8 0, .int .u8 0, .int .u8 0, .int .u8 0] 31) = w6 from hw6)
          have HHO := Lib.hid hho
          have hw6s : w6.heap.size = ho + 1 := by rw [← hw6, hho]; simp
          clear hst hk hS hH hho hw6 B6 HST HK S5
          have hj9 : ¬ 136 * ((m : Int) + 1) < 136 * (m : Int) + 136 := by omega
          go_upto_region 15 with fail
          rw [HW6.out, ← HHO.out]
          go_wp2_with fail
          go_loopw [8] (fun i wr => ∃ k : Nat, i = .int .i64 k ∧ k ≤ 4 ∧ Blk wr ho (outN H (8 * k)).toArray 31 ∧ Kep (fun i => i = ho) w6 wr) (fun i _ => 4 - (intOf i).toNat)
          case atStart => exact ⟨0, rfl, by omega, N6.out, Kep.refl _ _⟩
          case round =>
            obtain ⟨k, rfl, hk4, hst, hk⟩ := hrel
            have HST := Lib.hid hst
            have HK := Lib.hid hk
            by_cases hlk : k < 4
            · have k0 := (S6.out.kep hk (by omega)).cell k (word_at lS (by omega))
              have hk25 : (k : Int) < 25 := by omega
              have hsz := hk.size
              clear hst hk
              go_wp2_with fail
              refine (refBytes _ _).mono ?_
              rintro e w7 ⟨v, rfl, hf⟩
              have H7 : Bel wr w7 := hf.2
              obtain ⟨gb, cb, rfl, hcb, hgb1, hgb2⟩ := own_form hf.1 (by rw [len_bytesOf]; omega)
              have CB := Lib.hid (show ∀ i, i < 8 → w7.cell? ⟨gb, i, none⟩ = some (.int .u8 ((bytesOf (Kk.g S k)).getD i 0)) from fun i hi => own_cell hf.1 (by rw [len_bytesOf]; exact hi))
              have hgo : gb ≠ ho := by omega
              rw [len_bytesOf]
              rw [len_bytesOf] at hcb
              have ST7 := Lib.hid (show Blk w7 ho (outN H (8 * k + 0)).toArray 31 from HST.out.bel H7)
              have K7 := Lib.hid (HK.out.trans (Kep.of_bel H7))
              clear hf H7 HST HK k0
              go_wp2_with fail
              go_loopw [10] (fun i wr => ∃ t : Nat, i = .int .i64 t ∧ t ≤ 8 ∧ Blk wr ho (outN H (8 * k + t)).toArray 31 ∧ Kep (fun i => i = ho) w6 wr ∧ Kep (fun i => i = ho) w7 wr) (fun i _ => 8 - (intOf i).toNat)
              case atStart => exact ⟨0, rfl, by omega, ST7.out, K7.out, Kep.refl _ _⟩
              case round =>
                obtain ⟨t, rfl, ht8, hst, hk, hk7⟩ := hrel
                have HST := Lib.hid hst
                have HK := Lib.hid hk
                have HK7 := Lib.hid hk7
                by_cases hlt : t < 8
                · have b0 : wr.cell? ⟨gb, t, none⟩ = some (.int .u8 ((bytesOf (Kk.g S k)).getD t 0)) := hk7.cell hgo (CB.out t hlt)
                  rw [← HAT.out k t hlk hlt] at b0
                  obtain ⟨x0, hx0⟩ := outN_at H (8 * k + t) (i := 8 * k + t) (by omega)
                  have o0 := hst.cell (8 * k + t) hx0
                  have f0 := hst.frozen (8 * k + t)
                  have w8 : IntKind.i64.wrap (8 * (k : Int)) = 8 * (k : Int) := IntWalk.i64_in _ (by omega)
                  have w9 : IntKind.i64.wrap (8 * (k : Int) + (t : Int)) = 8 * (k : Int) + (t : Int) := IntWalk.i64_in _ (by omega)
                  have i32 : 8 * (k : Int) + (t : Int) < 32 := by omega
                  have i00 : 0 ≤ 8 * (k : Int) + (t : Int) := by omega
                  have it : (8 * (k : Int) + (t : Int)).toNat = 8 * k + t := by omega
                  have ht8' : (t : Int) < 8 := by omega
                  clear hst hk hk7 hx0
                  go_wp2
                  go_roundw
                  case rel =>
                    have h2 := HST.out.set (8 * k + t) (.int .u8 (H.getD (8 * k + t) 0))
                    rw [outN_set H (by omega)] at h2
                    exact ⟨t + 1, by go_num, by omega, h2, HK.out.set_self _ _, HK7.out.set_self _ _⟩
                  case measure => simp [intOf] <;> omega
                · obtain rfl : t = 8 := by omega
                  clear hst hk hk7
                  go_wp2
                  go_roundw
                  case rel => exact ⟨k + 1, by go_num, by omega, by rw [show 8 * (k + 1) = 8 * k + 8 by omega]; exact HST.out, HK.out⟩
                  case measure => simp [intOf] <;> omega
            · obtain rfl : k = 4 := by omega
              rw [show 8 * 4 = 32 from rfl, outN_32 lH] at hst
              obtain ⟨Y, hY⟩ : ∃ Y, Y = H.map B8 := ⟨_, rfl⟩
              rw [← hY] at hst
              have HYl := Lib.hid (show Y.length = 32 by rw [hY, List.length_map]; exact lH)
              have YI := Lib.hid (show (Tryd.prog.info? 31).map (·.size) = some Y.length by rw [HYl.out]; exact info_hash)
              have YS := Lib.hid (show Y.toArray.size = Y.length from List.size_toArray)
              have YI2 := Lib.hid (show (Tryd.prog.info? 31).map (·.size) = some Y.toArray.size by rw [YS.out]; exact YI.out)
              have YO := Lib.hid (all_oneCell_toArray (cs := Y) (by rw [hY]; exact ints_b8 _))
              have RY := Lib.hid (blk_range hst)
              have T9 := Lib.hid (show wr.there h 0 Y.toArray.size by
                rw [YS.out, HYl.out]
                exact there_kep T6.out hk (by omega))
              have K9 := Lib.hid (Kep.bel BB6.out hk (fun i hi => by rw [hi]; have := HH.out; omega))
              have HY := Lib.hid (show hsV (sumOf zs) = .agg Y.toArray by rw [hY, HHS2.out])
              clear hst hk hY HST HK
              go_wp2_with (first | (refine wpList_load_mid rfl 31 (.tmp 7) rfl ho 0 rfl Y _ RY.out Tryd.underlying31 rfl YI.out ?_) | (refine wpList_store_mid rfl 31 (.tmp 2) (.tmp 81) rfl h 0 Y.toArray rfl rfl T9.out YI2.out YO.out ?_))
              have RE : (wr.setCells h 0 Y).rangeAt h 0 Y := World.rangeAt_setCells_same _ _ _ _ (by have e := YS.out; have e2 := T9.out; rw [e] at e2; exact e2)
              refine bodyPost_ret (results_c1 Tryd.results16 _ _ ⟨h, 0, none⟩ _ rfl (run_loadVar_mid (P := Tryd.prog) _ h 0 31 Y _ RE Tryd.underlying31 rfl YI.out)) rfl ⟨by rw [HY.out], ?_⟩
              exact Kep.bel K9.out (kep_setCellsK h Y 0 _) (fun i hi => by rw [hi, HH.out]; exact Nat.le_refl _)
    · have t2 : ¬ ((L : Int)) % 136 = 0 := by omega
      have t3 : ¬ ((L : Int)).tmod 136 = 0 := by rw [Int.tmod_eq_emod_of_nonneg (by omega)]; omega
      have S0 := Lib.hid (sl_lit wr [0])
      go_wp2_with (at_builtin; refine wpList_append_sl rfl _ _ rfl w1.heap.size _ L _ rfl (owns_bel OV.out ((Bel.refl wr).alloc _)) (some ⟨wr.heap.size, 0, none⟩) 1 1 [0] rfl S0.out (by omega) (by have := Below.size HBV.out; rw [World.size_alloc]; omega) ?_; intro v' w4 hown' hgrow)
      have HB4 := Lib.hid (show Bel w1 w4 from Bel.grown (HBV.out.alloc _) hgrow (fun k hk => (OV.out.lt k hk).1))
      have O4 := Lib.hid hown'
      clear hown' hgrow OV HBV S0
      go_wp2
      go_roundw
      case rel =>
        refine ⟨z + 1, by omega, ?_, HB4.out⟩
        have h := O4.out
        rw [← List.map_append, full_snoc] at h
        rw [show n + 1 + (z + 1) = L + 1 by omega]
        exact h
      case measure =>
        obtain ⟨g', cap', rfl, _⟩ := own_form O4.out (by omega)
        show 136 * m + 136 - (L + 1) < 136 * m + 136 - L
        omega
end Kk
end Go.Proofs.YtaniijpppmipbaaDoor
