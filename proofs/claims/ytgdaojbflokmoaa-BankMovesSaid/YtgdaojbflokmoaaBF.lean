/-
  Texts of this claim, put together: Bk5AA, Bk5PA, Bk5AP, Bk5PP. What each one says, and under which conditions, stands ahead of it.
-/
import Derived.LaidEqlPtr
import Derived.Test.YtgdaojbflokmoaaBE

section
/-
  What bank.transfer answers, for the four kinds of places. Conditions: the amounts are words.
-/
namespace Go.Proofs.Ytgdaojbflokmoaa
open Go.RowKit Go.Shelf
set_option linter.unusedVariables false
namespace Bk
open Pm


set_option maxRecDepth 10000 in
set_option maxHeartbeats 4000000 in
theorem transferAA (f t m least : Int) (A : Option Addr) (n c : Nat) (zs : List Int) (p0 p1 p2 p3 : Int) (w : World) (hi : SU w A n c zs) (hn : n ≤ 1000000000) (hz : Words zs) (hps : Words [p0, p1, p2, p3]) (m0 : 0 ≤ m) (m1 : m ≤ 18446744073709551615) (l0 : 0 ≤ least) (l1 : least ≤ 18446744073709551615) :
    Calls Try.prog 92 #[.agg #[.slice A n c, .int .u64 p0, .int .u64 p1, .int .u64 p2, .int .u64 p3], .iface 74 (.int .i64 f), .iface 74 (.int .i64 t), .int .u64 m, .int .u64 least] w fun e w' => ∃ V, e = .returned (.tuple #[V, .int .i64 (xE zs [p0, p1, p2, p3] false false f t m least)]) ∧ FB w w' V (xZ zs [p0, p1, p2, p3] false false f t m least) (xP zs [p0, p1, p2, p3] false false f t m least) := by
  obtain ⟨W0, hW0⟩ : ∃ W0, w.alloc (.cells #[.slice A n c, .int .u64 p0, .int .u64 p1, .int .u64 p2, .int .u64 p3] 26) = W0 := ⟨_, rfl⟩
  have B0 := Lib.hid (show Kk.Bel w W0 by rw [← hW0]; exact (Kk.Bel.refl w).alloc _)
  have R0 := Lib.hid (show W0.rangeAt w.heap.size 0 [.slice A n c, .int .u64 p0, .int .u64 p1, .int .u64 p2, .int .u64 p3] by rw [← hW0]; exact rngB (C := [.slice A n c, .int .u64 p0, .int .u64 p1, .int .u64 p2, .int .u64 p3]) (Kk.Blk.new w _ 26))
  obtain ⟨p, hp⟩ : ∃ p, w.heap.size = p := ⟨_, rfl⟩
  rw [hp] at R0
  have c0 : W0.cell? ⟨p, 0, none⟩ = some (.slice A n c) := R0.out 0 _ rfl
  have PSU := Lib.hid (fun V (h : Kk.Bel W0 V) => pools_su (v := .slice A n c) (ps := [p0, p1, p2, p3]) (rng_bel R0.out h) rfl)
  have ZS := Lib.hid (fun V (h : Kk.Bel W0 V) => (hi.bel B0.out).bel h)
  have CK := Lib.hid (fun V (h : Kk.Bel W0 V) => checkC A n c zs p0 p1 p2 p3 V (ZS.out V h) hn hz hps)
  have HZ := Lib.hid hz
  have HPS := Lib.hid hps
  have HP := Lib.hid hp
  have HW := Lib.hid hW0
  have HLEN := Lib.hid hi.len
  have uB := Try.underlying26
  have iB := Lib.hid (show (Try.prog.info? 26).map (·.size) = some ([.slice A n c, .int .u64 p0, .int .u64 p1, .int .u64 p2, .int .u64 p3] : List Value).length from info_bank)
  clear hi hz hps hp hW0
  obtain ⟨W1, hW1⟩ : ∃ W1, W0.alloc (.cells #[.slice none 0 0, .int .u64 0, .int .u64 0, .int .u64 0, .int .u64 0] 26) = W1 := ⟨_, rfl⟩
  obtain ⟨W2, hW2⟩ : ∃ W2, W1.alloc (.cells #[.int .i64 0] 30) = W2 := ⟨_, rfl⟩
  have hs0 : W0.heap.size = p + 1 := by rw [← HW.out, ← HP.out, World.size_alloc]
  have hs1 : W1.heap.size = p + 2 := by rw [← hW1, World.size_alloc, hs0]
  have B02 := Lib.hid (show Kk.Bel W0 W2 by rw [← hW2, ← hW1]; exact ((Kk.Bel.refl W0).alloc _).alloc _)
  have Q2 := Lib.hid (show Kk.Blk W2 (p + 1) [.slice none 0 0, .int .u64 0, .int .u64 0, .int .u64 0, .int .u64 0].toArray 26 by rw [← hW2, ← hW1, ← hs0]; exact (Kk.Blk.new W0 _ _).alloc _)
  have E2 := Lib.hid (show Kk.Blk W2 (p + 2) [.int .i64 0].toArray 30 by rw [← hW2, ← hs1]; exact Kk.Blk.new W1 _ _)
  have R2 := Lib.hid (rng_bel R0.out B02.out)
  have HW1 := Lib.hid hW1
  have HW2 := Lib.hid hW2
  have HS0 := Lib.hid hs0
  have HS1 := Lib.hid hs1
  clear hW1 hW2 hs0 hs1
  have CL := Lib.hid (fun V (h : Kk.Bel W0 V) => clone A n c zs p0 p1 p2 p3 V (ZS.out V h) hn)
  have hmf : ∀ (fn : Fn) (first cap : Array Value) (w : World), (Instr.makeFunc fn first cap).run Try.prog w = .ok (.func fn first cap) w := fun _ _ _ _ => rfl
  have hmA : ∀ (x : Int) (w : World), (method 132 74 (.int .i64 x) "distraint/bank.in").run Try.prog w = .ok (46, .int .i64 x) w := fun _ _ => by kernel_rfl
  have hmg : ∀ (x : Int) (w : World), (method 132 74 (.int .i64 x) "distraint/bank.gives").run Try.prog w = .ok (152, .int .i64 x) w := fun _ _ => by kernel_rfl
  go_enter_defers Try.func92, Try.ntmps92
  go_upto_region 1 with fail
  rw [HW.out, HP.out, HW1.out, HW2.out]
  go_wp2_with ((with_reducible refine wpList_load_mid ?_ 26 (.tmp 5) ?_ p 0 ?_ [.slice A n c, .int .u64 p0, .int .u64 p1, .int .u64 p2, .int .u64 p3] _ R2.out uB ?_ iB.out ?_); rfl; rfl; rfl; rfl)
  refine (CK.out _ B02.out).mono ?_
  rintro e w1 ⟨rfl, k1⟩
  have B1 := Lib.hid k1
  have E3 := Lib.hid (E2.out.bel k1)
  have Q3 := Lib.hid (Q2.out.bel k1)
  have R3 := Lib.hid (rng_bel R2.out k1)
  have hE := E3.out.cell 0 (v := .int .i64 0) rfl
  have hEf := E3.out.frozen 0
  clear CK k1
  obtain ⟨q, hq⟩ : ∃ q, chk zs [p0, p1, p2, p3] = q := ⟨_, rfl⟩
  rw [hq]
  have HQ := Lib.hid hq
  clear hq
  by_cases hq0 : q = 0
  · subst hq0
    go_upto_region 2 with fail
    obtain ⟨w2, hw2⟩ : ∃ w2, w1.setCell ⟨p + 1 + 1, 0, none⟩ (.int .i64 0) = w2 := ⟨_, rfl⟩
    rw [hw2]
    have K2 := Lib.hid (show Kk.Bel W0 w2 by rw [← hw2]; exact Kk.Bel.set (B02.out.trans B1.out) (by rw [HS0.out]; show p + 1 ≤ p + 1 + 1; omega) _)
    have E4 := Lib.hid (show Kk.Blk w2 (p + 2) [.int .i64 0].toArray 30 by rw [← hw2]; exact E3.out.set 0 (.int .i64 0))
    have Q4 := Lib.hid (show Kk.Blk w2 (p + 1) [.slice none 0 0, .int .u64 0, .int .u64 0, .int .u64 0, .int .u64 0].toArray 26 by rw [← hw2]; exact Q3.out.other (by omega) 0 _)
    have R4 := Lib.hid (rng_bel R0.out K2.out)
    clear hw2 hE hEf E3 Q3 R3 R2 E2 Q2
    have hE := E4.out.cell 0 (v := .int .i64 0) rfl
    go_wp2_with ((with_reducible refine wpList_load_mid ?_ 26 (.tmp 5) ?_ p 0 ?_ [.slice A n c, .int .u64 p0, .int .u64 p1, .int .u64 p2, .int .u64 p3] _ R4.out uB ?_ iB.out ?_); rfl; rfl; rfl; rfl)
    refine (CL.out w2 K2.out).mono ?_
    rintro e w3 ⟨V, rfl, v, rfl, hfr⟩
    obtain ⟨A', cv, hv, hsu⟩ := hfr.su
    subst hv
    rw [show bkC (.slice A' zs.length cv) [p0, p1, p2, p3] = [.slice A' zs.length cv, .int .u64 p0, .int .u64 p1, .int .u64 p2, .int .u64 p3] from rfl]
    have hzl := (chk_ok HQ.out).1
    obtain ⟨g, o, rfl, hg, _⟩ := hsu.ints.cell (i := 0) hzl
    have hg0 : g ≠ p + 1 ∧ g ≠ p + 2 ∧ o = 0 := by
      refine ⟨?_, ?_, ?_⟩
      · rintro rfl; exact (Q4.out.bel hfr.2).not_row (by decide) hfr.1 rfl
      · rintro rfl; exact (E4.out.bel hfr.2).not_row (by decide) hfr.1 rfl
      · rcases hfr.1.2 with ⟨h1, _⟩ | ⟨_, _, _, h1, _⟩
        · cases h1
        · injection h1 with h1; injection h1 with h1; injection h1
    obtain ⟨hg1, hg2, rfl⟩ := hg0
    obtain ⟨Y, hY⟩ : ∃ Y, Y = ([.slice (some ⟨g, 0, none⟩) zs.length cv, .int .u64 p0, .int .u64 p1, .int .u64 p2, .int .u64 p3] : List Value) := ⟨_, rfl⟩
    rw [← hY]
    have YL := Lib.hid (show Y.length = 5 by rw [hY]; rfl)
    have YO := Lib.hid (show Y.toArray.all (·.oneCell') = true by rw [hY]; exact one5 rfl)
    have HY := Lib.hid (show Y = bkC (.slice (some ⟨g, 0, none⟩) zs.length cv) [p0, p1, p2, p3] from hY)
    clear hY
    have E5 := Lib.hid (E4.out.bel hfr.2)
    have Q5 := Lib.hid (Q4.out.bel hfr.2)
    have FR := Lib.hid hfr
    have TH := Lib.hid (show w3.there (p + 1) 0 Y.toArray.size from bthere Q5.out 0 _ (by rw [List.size_toArray, YL.out]; exact Nat.le_refl 5))
    have YI := Lib.hid (show (Try.prog.info? 26).map (·.size) = some Y.toArray.size by rw [List.size_toArray, YL.out]; exact info_bank)
    clear hfr hsu hE
    go_upto_region 4 with ((with_reducible refine wpList_store_mid ?_ 26 (.tmp 10) (.tmp 19) ?_ (p + 1) 0 Y.toArray ?_ ?_ TH.out YI.out YO.out ?_); rfl; rfl; rfl; rfl)
    have S4 : Hid (St w (p + 1) g cv zs (bkC (.slice (some ⟨g, 0, none⟩) zs.length cv) [p0, p1, p2, p3]) 0 (w3.setCells (p + 1) 0 Y)) := by
      rw [← HY.out]
      refine ⟨bel_setCells (B0.out.trans (K2.out.trans FR.out.2)) (by rw [HP.out]; omega) 0 _, blk5 Q5.out rfl _ YL.out, E5.out.kep (kep_setCells (p + 1) Y 0 w3) (by omega), ?_, by rw [HP.out]; omega⟩
      exact Kk.Kep.owns (kep_setCells (p + 1) Y 0 w3) (fun k hk e => hg1 ((Option.some.inj hk).trans e)) (Kk.owns_mono FR.out.1 (Below.size (B0.out.trans K2.out)))
    obtain ⟨w4, hw4⟩ : ∃ w4, w3.setCells (p + 1) 0 Y = w4 := ⟨_, rfl⟩
    rw [hw4] at S4 ⊢
    clear hw4 TH FR E5 Q5 Q4 E4 R4 K2 HW HW1 HW2 B0 B1 B02 R0 PSU ZS HLEN uB iB HS0 HS1 YL YO HY YI c0
    have hE := S4.out.cellE
    have hEf := S4.out.frozenE
    have hS := S4.out.cellS
    have HNL := Lib.hid hzl
    clear hzl hg hg1 hg2
    by_cases hpf : plE zs false f = 0
    · obtain ⟨j, hj, hj2⟩ := plA_ok hpf
      subst hj
      have HPF := Lib.hid hpf
      have CI := Lib.hid (accIn0 (p + 1) g _ cv j w4 hS hj2)
      clear hpf
      go_wp2_with fail
      refine CI.out.mono ?_
      rintro e w5 ⟨rfl, rfl⟩
      go_upto_region 6 with fail
      have S5 := Lib.hid (S4.out.err 0)
      obtain ⟨w5, hw5⟩ : ∃ w5, w4.setCell ⟨p + 1 + 1, 0, none⟩ (.int .i64 0) = w5 := ⟨_, rfl⟩
      rw [hw5] at S5 ⊢
      clear hw5 S4 hE hEf hS CI
      have hE := S5.out.cellE
      have hEf := S5.out.frozenE
      have hS := S5.out.cellS
      by_cases hpt : plE zs false t = 0
      · obtain ⟨i, hi, hi2⟩ := plA_ok hpt
        subst hi
        have HPT := Lib.hid hpt
        have CI := Lib.hid (accIn0 (p + 1) g _ cv i w5 hS hi2)
        clear hpt
        go_wp2_with fail
        refine CI.out.mono ?_
        rintro e w6 ⟨rfl, rfl⟩
        go_upto_region 8 with fail
        have S6 := Lib.hid (S5.out.err 0)
        obtain ⟨w6, hw6⟩ : ∃ w6, w5.setCell ⟨p + 1 + 1, 0, none⟩ (.int .i64 0) = w6 := ⟨_, rfl⟩
        rw [hw6] at S6 ⊢
        clear hw6 S5 hE hEf hS CI
        have hE := S6.out.cellE
        have hEf := S6.out.frozenE
        have hS := S6.out.cellS
        by_cases hji : j = i
        · subst hji
          have hpe := ptr_same ⟨g, j, none⟩ w6
          have HX := Lib.hid (show xE zs [p0, p1, p2, p3] false false j j m least = 2 by unfold xE; rw [if_pos HQ.out, if_pos HPF.out, if_pos HPT.out, if_pos (.inl ⟨rfl, rfl⟩)])
          go_wp2_with fail
          have S7 := S6.out.err 2
          show Leaves _ _ _ _ _ _ _
          refine leave_no _ _ (p + 1) (p + 1 + 1) 2 _ _ ?_ ?_ (by omega) S7.cellE (by decide) S7.q (by simp [bkC]) ?_
          · rfl
          · rfl
          have hx : ¬ xE zs [p0, p1, p2, p3] false false j j m least = 0 := by rw [HX.out]; decide
          refine ⟨_, by rw [HX.out], ?_⟩
          rw [xZ_no hx, xP_no hx]
          exact fb_zero (bel_setCells S7.bel S7.le 0 _)
        · have hpe := S6.out.ptr_other (s := ⟨g, j, none⟩) (d := ⟨g, i, none⟩) (.inl rfl) (.inl rfl) (by intro e; injection e; omega)
          have CG := Lib.hid (fun V => givesA j V)
          by_cases hml : m < least
          · skip
            have HX := Lib.hid (show xE zs [p0, p1, p2, p3] false false j i m least = 2 by unfold xE; rw [if_pos HQ.out, if_pos HPF.out, if_pos HPT.out, if_pos (.inr (.inr hml))])
            go_wp2_with fail
            refine (CG.out _).mono ?_
            rintro e w7 ⟨rfl, rfl⟩
            go_wp2_with fail
            have S7 := S6.out.err 2
            show Leaves _ _ _ _ _ _ _
            refine leave_no _ _ (p + 1) (p + 1 + 1) 2 _ _ ?_ ?_ (by omega) S7.cellE (by decide) S7.q (by simp [bkC]) ?_
            · rfl
            · rfl
            have hx : ¬ xE zs [p0, p1, p2, p3] false false j i m least = 0 := by rw [HX.out]; decide
            refine ⟨_, by rw [HX.out], ?_⟩
            rw [xZ_no hx, xP_no hx]
            exact fb_zero (bel_setCells S7.bel S7.le 0 _)
          · skip
            obtain ⟨v, hv⟩ : ∃ v, List.getD zs j 0 = v := ⟨_, rfl⟩
            obtain ⟨u, hu⟩ : ∃ u, List.getD zs i 0 = u := ⟨_, rfl⟩
            have hv0 := (HZ.out j)
            have hu0 := (HZ.out i)
            rw [hv] at hv0
            rw [hu] at hu0
            have cF := (S6.out.cellZ hj2).1
            have cFf := (S6.out.cellZ hj2).2
            rw [hv] at cF
            have hno : ¬ ((false = false ∧ (j : Int) = i) ∨ (false = true ∧ (j : Int) = 2) ∨ m < least) := by
              rintro (h | h | h)
              · exact hji (by omega)
              · exact absurd h.1 (by decide)
              · exact hml h
            have hbal : bal zs [p0, p1, p2, p3] false j = v := by unfold bal; rw [if_neg (by decide), Int.toNat_natCast, hv]
            have hbal2 : bal zs [p0, p1, p2, p3] false i = u := by unfold bal; rw [if_neg (by decide), Int.toNat_natCast, hu]
            by_cases hpoor : v < m
            · skip
              have HX := Lib.hid (show xE zs [p0, p1, p2, p3] false false j i m least = 13 by unfold xE; rw [if_pos HQ.out, if_pos HPF.out, if_pos HPT.out, if_neg hno, hbal, if_pos hpoor])
              have CS := Lib.hid (fun V => subN v m V hpoor)
              clear hno hbal hbal2 hv hu
              go_wp2_with fail
              refine (CG.out _).mono ?_
              rintro e w7 ⟨rfl, rfl⟩
              go_wp2_with fail
              refine (CS.out _).mono ?_
              rintro e w8 ⟨rfl, rfl⟩
              have S7 := (S6.out.setZ j 0).err 13
              have hE8 := (S6.out.setZ j 0).cellE
              have hEf8 := (S6.out.setZ j 0).frozenE
              go_wp2_with fail
              show Leaves _ _ _ _ _ _ _
              refine leave_no _ _ (p + 1) (p + 1 + 1) 13 _ _ ?_ ?_ (by omega) S7.cellE (by decide) S7.q (by simp [bkC]) ?_
              · rfl
              · rfl
              have hx : ¬ xE zs [p0, p1, p2, p3] false false j i m least = 0 := by rw [HX.out]; decide
              refine ⟨_, by rw [HX.out], ?_⟩
              rw [xZ_no hx, xP_no hx]
              exact fb_zero (bel_setCells S7.bel S7.le 0 _)
            · skip
              have hle := (chk_ok HQ.out).2.2
              have hz0 := sum0 HZ.out
              have hp0 := sum0 HPS.out
              have hub := get_le_sum HZ.out i
              rw [hu] at hub
              have hvb := get_le_sum HZ.out j
              rw [hv] at hvb
              have CS := Lib.hid (fun V => subW v m V hv0.1 hv0.2 m0 (by omega))
              have CA := Lib.hid (fun V => addS u m V hu0.1 hu0.2 m0 m1 (by omega))
              have HX := Lib.hid (show xE zs [p0, p1, p2, p3] false false j i m least = 0 by unfold xE; rw [if_pos HQ.out, if_pos HPF.out, if_pos HPT.out, if_neg hno, hbal, if_neg hpoor])
              have HXZ := Lib.hid (show xZ zs [p0, p1, p2, p3] false false j i m least = ((zs.set j (v - m)).set i (u + m)) by unfold xZ; rw [HX.out]; unfold okZ xZ'; rw [if_pos rfl, hbal, hbal2]; simp [putZ])
              have HXP := Lib.hid (show xP zs [p0, p1, p2, p3] false false j i m least = [p0, p1, p2, p3] by unfold xP; rw [HX.out]; unfold okP xP'; rw [if_pos rfl, hbal, hbal2]; unfold putP; simp only [Int.toNat_natCast]; rfl)
              have S7 := Lib.hid ((S6.out.setZ j (v - m)).err 0)
              have hE8 := (S6.out.setZ j (v - m)).cellE
              have hEf8 := (S6.out.setZ j (v - m)).frozenE
              have cT := Lib.hid (((S6.out.setZ j (v - m)).err 0).cellZ (k := i) (by simpa using hi2))
              have cT := Lib.hid (show _ ∧ _ from by have h := cT.out; rw [getD_set_ne _ _ hji, hu] at h; exact h)
              have HU := Lib.hid hu
              clear hno hbal hbal2 hv hu hub hvb hle hz0 hp0
              go_wp2_with fail
              refine (CG.out _).mono ?_
              rintro e w7 ⟨rfl, rfl⟩
              go_wp2_with fail
              refine (CS.out _).mono ?_
              rintro e w8 ⟨rfl, rfl⟩
              go_upto_region 12 with fail
              obtain ⟨w8, hw8⟩ : ∃ w8, (w6.setCell ⟨g, j, none⟩ (.int .u64 (v - m))).setCell ⟨p + 1 + 1, 0, none⟩ (.int .i64 0) = w8 := ⟨_, rfl⟩
              rw [hw8] at S7 cT ⊢
              clear hw8 hE hEf hS cF cFf hE8 hEf8 hpe S6
              have hE := S7.out.cellE
              have hTf := cT.out.2
              have hT := cT.out.1
              go_wp2_with fail
              refine (CA.out _).mono ?_
              rintro e w9 ⟨rfl, k9⟩
              have S9 := Lib.hid (S7.out.kept k9)
              have S10 := S9.out.setZ i (u + m)
              have hE9 := S10.cellE
              have hEf9 := S10.frozenE
              have hT9 := (S9.out.cellZ (k := i) (by simpa using hi2)).1
              have hTf9 := (S9.out.cellZ (k := i) (by simpa using hi2)).2
              rw [getD_set_ne _ _ hji, HU.out] at hT9
              have S10 := Lib.hid (S10.err 0)
              clear hE hT hTf cT
              go_wp2_with fail
              show Leaves _ _ _ _ _ _ _
              have S11 := S10.out
              refine leave_ok _ _ (p + 1) (p + 1 + 1) _ _ ?_ ?_ S11.cellE S11.q (by simp [bkC]) ?_
              · rfl
              · rfl
              refine ⟨_, by rw [HX.out], ?_⟩
              rw [HXZ.out, HXP.out]
              exact S11.fb' (by simp)
      · obtain ⟨e1, e2⟩ := plA_no hpt
        have HX := Lib.hid (show xE zs [p0, p1, p2, p3] false false j t m least = 10 by unfold xE; rw [if_pos HQ.out, if_pos HPF.out, if_neg hpt, e1])
        have CI := Lib.hid (accIn_no (p + 1) _ _ _ t w5 hS e2)
        clear hpt e1 e2
        go_wp2_with fail
        refine CI.out.mono ?_
        rintro e w6 ⟨rfl, rfl⟩
        go_wp2_with fail
        have S6 := S5.out.err 10
        show Leaves _ _ _ _ _ _ _
        refine leave_no _ _ (p + 1) (p + 1 + 1) 10 _ _ ?_ ?_ (by omega) S6.cellE (by decide) S6.q rfl ?_
        · rfl
        · rfl
        have hx : ¬ xE zs [p0, p1, p2, p3] false false j t m least = 0 := by rw [HX.out]; decide
        refine ⟨_, by rw [HX.out], ?_⟩
        rw [xZ_no hx, xP_no hx]
        exact fb_zero (bel_setCells S6.bel S6.le 0 _)
    · obtain ⟨e1, e2⟩ := plA_no hpf
      have HX := Lib.hid (show xE zs [p0, p1, p2, p3] false false f t m least = 10 by unfold xE; rw [if_pos HQ.out, if_neg hpf, e1])
      have CI := Lib.hid (accIn_no (p + 1) _ _ _ f w4 hS e2)
      clear hpf e1 e2
      go_wp2_with fail
      refine CI.out.mono ?_
      rintro e w5 ⟨rfl, rfl⟩
      go_wp2_with fail
      have S5 := S4.out.err 10
      show Leaves _ _ _ _ _ _ _
      refine leave_no _ _ (p + 1) (p + 1 + 1) 10 _ _ ?_ ?_ (by omega) S5.cellE (by decide) S5.q rfl ?_
      · rfl
      · rfl
      have hx : ¬ xE zs [p0, p1, p2, p3] false false f t m least = 0 := by rw [HX.out]; decide
      refine ⟨_, by rw [HX.out], ?_⟩
      rw [xZ_no hx, xP_no hx]
      exact fb_zero (bel_setCells S5.bel S5.le 0 _)
  · have hq1 : (q != 0) = true := by simpa using hq0
    go_wp2_with fail
    have QE := Q3.out.other (b' := p + 1 + 1) (by omega) 0 (.int .i64 q)
    have CE := cell_set E3.out (.int .i64 q)
    show Leaves _ _ _ _ _ _ _
    refine leave_chk _ _ (p + 1) (p + 1 + 1) q _ _ ?_ ?_ CE QE rfl ?_
    · rfl
    · rfl
    refine ⟨_, by rw [xE_chk HQ.out hq0], ?_⟩
    rw [xZ_chk HQ.out hq0, xP_chk HQ.out hq0]
    exact fb_zero (Kk.Bel.set (B0.out.trans (B02.out.trans B1.out)) (by rw [HP.out]; show p ≤ p + 1 + 1; omega) _)
end Bk
end Go.Proofs.Ytgdaojbflokmoaa
end

section
/-
  What bank.transfer answers, for the four kinds of places. Conditions: the amounts are words.
-/
namespace Go.Proofs.Ytgdaojbflokmoaa
open Go.RowKit Go.Shelf
set_option linter.unusedVariables false
namespace Bk
open Pm


set_option maxRecDepth 10000 in
set_option maxHeartbeats 4000000 in
theorem transferPA (f t m least : Int) (A : Option Addr) (n c : Nat) (zs : List Int) (p0 p1 p2 p3 : Int) (w : World) (hi : SU w A n c zs) (hn : n ≤ 1000000000) (hz : Words zs) (hps : Words [p0, p1, p2, p3]) (m0 : 0 ≤ m) (m1 : m ≤ 18446744073709551615) (l0 : 0 ≤ least) (l1 : least ≤ 18446744073709551615) :
    Calls Try.prog 92 #[.agg #[.slice A n c, .int .u64 p0, .int .u64 p1, .int .u64 p2, .int .u64 p3], .iface 111 (.int .i64 f), .iface 74 (.int .i64 t), .int .u64 m, .int .u64 least] w fun e w' => ∃ V, e = .returned (.tuple #[V, .int .i64 (xE zs [p0, p1, p2, p3] true false f t m least)]) ∧ FB w w' V (xZ zs [p0, p1, p2, p3] true false f t m least) (xP zs [p0, p1, p2, p3] true false f t m least) := by
  obtain ⟨W0, hW0⟩ : ∃ W0, w.alloc (.cells #[.slice A n c, .int .u64 p0, .int .u64 p1, .int .u64 p2, .int .u64 p3] 26) = W0 := ⟨_, rfl⟩
  have B0 := Lib.hid (show Kk.Bel w W0 by rw [← hW0]; exact (Kk.Bel.refl w).alloc _)
  have R0 := Lib.hid (show W0.rangeAt w.heap.size 0 [.slice A n c, .int .u64 p0, .int .u64 p1, .int .u64 p2, .int .u64 p3] by rw [← hW0]; exact rngB (C := [.slice A n c, .int .u64 p0, .int .u64 p1, .int .u64 p2, .int .u64 p3]) (Kk.Blk.new w _ 26))
  obtain ⟨p, hp⟩ : ∃ p, w.heap.size = p := ⟨_, rfl⟩
  rw [hp] at R0
  have c0 : W0.cell? ⟨p, 0, none⟩ = some (.slice A n c) := R0.out 0 _ rfl
  have PSU := Lib.hid (fun V (h : Kk.Bel W0 V) => pools_su (v := .slice A n c) (ps := [p0, p1, p2, p3]) (rng_bel R0.out h) rfl)
  have ZS := Lib.hid (fun V (h : Kk.Bel W0 V) => (hi.bel B0.out).bel h)
  have CK := Lib.hid (fun V (h : Kk.Bel W0 V) => checkC A n c zs p0 p1 p2 p3 V (ZS.out V h) hn hz hps)
  have HZ := Lib.hid hz
  have HPS := Lib.hid hps
  have HP := Lib.hid hp
  have HW := Lib.hid hW0
  have HLEN := Lib.hid hi.len
  have uB := Try.underlying26
  have iB := Lib.hid (show (Try.prog.info? 26).map (·.size) = some ([.slice A n c, .int .u64 p0, .int .u64 p1, .int .u64 p2, .int .u64 p3] : List Value).length from info_bank)
  clear hi hz hps hp hW0
  obtain ⟨W1, hW1⟩ : ∃ W1, W0.alloc (.cells #[.slice none 0 0, .int .u64 0, .int .u64 0, .int .u64 0, .int .u64 0] 26) = W1 := ⟨_, rfl⟩
  obtain ⟨W2, hW2⟩ : ∃ W2, W1.alloc (.cells #[.int .i64 0] 30) = W2 := ⟨_, rfl⟩
  have hs0 : W0.heap.size = p + 1 := by rw [← HW.out, ← HP.out, World.size_alloc]
  have hs1 : W1.heap.size = p + 2 := by rw [← hW1, World.size_alloc, hs0]
  have B02 := Lib.hid (show Kk.Bel W0 W2 by rw [← hW2, ← hW1]; exact ((Kk.Bel.refl W0).alloc _).alloc _)
  have Q2 := Lib.hid (show Kk.Blk W2 (p + 1) [.slice none 0 0, .int .u64 0, .int .u64 0, .int .u64 0, .int .u64 0].toArray 26 by rw [← hW2, ← hW1, ← hs0]; exact (Kk.Blk.new W0 _ _).alloc _)
  have E2 := Lib.hid (show Kk.Blk W2 (p + 2) [.int .i64 0].toArray 30 by rw [← hW2, ← hs1]; exact Kk.Blk.new W1 _ _)
  have R2 := Lib.hid (rng_bel R0.out B02.out)
  have HW1 := Lib.hid hW1
  have HW2 := Lib.hid hW2
  have HS0 := Lib.hid hs0
  have HS1 := Lib.hid hs1
  clear hW1 hW2 hs0 hs1
  have CL := Lib.hid (fun V (h : Kk.Bel W0 V) => clone A n c zs p0 p1 p2 p3 V (ZS.out V h) hn)
  have hmf : ∀ (fn : Fn) (first cap : Array Value) (w : World), (Instr.makeFunc fn first cap).run Try.prog w = .ok (.func fn first cap) w := fun _ _ _ _ => rfl
  have hmA : ∀ (x : Int) (w : World), (method 132 74 (.int .i64 x) "distraint/bank.in").run Try.prog w = .ok (46, .int .i64 x) w := fun _ _ => by kernel_rfl
  have hmP : ∀ (x : Int) (w : World), (method 132 111 (.int .i64 x) "distraint/bank.in").run Try.prog w = .ok (154, .int .i64 x) w := fun _ _ => by kernel_rfl
  have hmg : ∀ (x : Int) (w : World), (method 132 111 (.int .i64 x) "distraint/bank.gives").run Try.prog w = .ok (153, .int .i64 x) w := fun _ _ => by kernel_rfl
  go_enter_defers Try.func92, Try.ntmps92
  go_upto_region 1 with fail
  rw [HW.out, HP.out, HW1.out, HW2.out]
  go_wp2_with ((with_reducible refine wpList_load_mid ?_ 26 (.tmp 5) ?_ p 0 ?_ [.slice A n c, .int .u64 p0, .int .u64 p1, .int .u64 p2, .int .u64 p3] _ R2.out uB ?_ iB.out ?_); rfl; rfl; rfl; rfl)
  refine (CK.out _ B02.out).mono ?_
  rintro e w1 ⟨rfl, k1⟩
  have B1 := Lib.hid k1
  have E3 := Lib.hid (E2.out.bel k1)
  have Q3 := Lib.hid (Q2.out.bel k1)
  have R3 := Lib.hid (rng_bel R2.out k1)
  have hE := E3.out.cell 0 (v := .int .i64 0) rfl
  have hEf := E3.out.frozen 0
  clear CK k1
  obtain ⟨q, hq⟩ : ∃ q, chk zs [p0, p1, p2, p3] = q := ⟨_, rfl⟩
  rw [hq]
  have HQ := Lib.hid hq
  clear hq
  by_cases hq0 : q = 0
  · subst hq0
    go_upto_region 2 with fail
    obtain ⟨w2, hw2⟩ : ∃ w2, w1.setCell ⟨p + 1 + 1, 0, none⟩ (.int .i64 0) = w2 := ⟨_, rfl⟩
    rw [hw2]
    have K2 := Lib.hid (show Kk.Bel W0 w2 by rw [← hw2]; exact Kk.Bel.set (B02.out.trans B1.out) (by rw [HS0.out]; show p + 1 ≤ p + 1 + 1; omega) _)
    have E4 := Lib.hid (show Kk.Blk w2 (p + 2) [.int .i64 0].toArray 30 by rw [← hw2]; exact E3.out.set 0 (.int .i64 0))
    have Q4 := Lib.hid (show Kk.Blk w2 (p + 1) [.slice none 0 0, .int .u64 0, .int .u64 0, .int .u64 0, .int .u64 0].toArray 26 by rw [← hw2]; exact Q3.out.other (by omega) 0 _)
    have R4 := Lib.hid (rng_bel R0.out K2.out)
    clear hw2 hE hEf E3 Q3 R3 R2 E2 Q2
    have hE := E4.out.cell 0 (v := .int .i64 0) rfl
    go_wp2_with ((with_reducible refine wpList_load_mid ?_ 26 (.tmp 5) ?_ p 0 ?_ [.slice A n c, .int .u64 p0, .int .u64 p1, .int .u64 p2, .int .u64 p3] _ R4.out uB ?_ iB.out ?_); rfl; rfl; rfl; rfl)
    refine (CL.out w2 K2.out).mono ?_
    rintro e w3 ⟨V, rfl, v, rfl, hfr⟩
    obtain ⟨A', cv, hv, hsu⟩ := hfr.su
    subst hv
    rw [show bkC (.slice A' zs.length cv) [p0, p1, p2, p3] = [.slice A' zs.length cv, .int .u64 p0, .int .u64 p1, .int .u64 p2, .int .u64 p3] from rfl]
    have hzl := (chk_ok HQ.out).1
    obtain ⟨g, o, rfl, hg, _⟩ := hsu.ints.cell (i := 0) hzl
    have hg0 : g ≠ p + 1 ∧ g ≠ p + 2 ∧ o = 0 := by
      refine ⟨?_, ?_, ?_⟩
      · rintro rfl; exact (Q4.out.bel hfr.2).not_row (by decide) hfr.1 rfl
      · rintro rfl; exact (E4.out.bel hfr.2).not_row (by decide) hfr.1 rfl
      · rcases hfr.1.2 with ⟨h1, _⟩ | ⟨_, _, _, h1, _⟩
        · cases h1
        · injection h1 with h1; injection h1 with h1; injection h1
    obtain ⟨hg1, hg2, rfl⟩ := hg0
    obtain ⟨Y, hY⟩ : ∃ Y, Y = ([.slice (some ⟨g, 0, none⟩) zs.length cv, .int .u64 p0, .int .u64 p1, .int .u64 p2, .int .u64 p3] : List Value) := ⟨_, rfl⟩
    rw [← hY]
    have YL := Lib.hid (show Y.length = 5 by rw [hY]; rfl)
    have YO := Lib.hid (show Y.toArray.all (·.oneCell') = true by rw [hY]; exact one5 rfl)
    have HY := Lib.hid (show Y = bkC (.slice (some ⟨g, 0, none⟩) zs.length cv) [p0, p1, p2, p3] from hY)
    clear hY
    have E5 := Lib.hid (E4.out.bel hfr.2)
    have Q5 := Lib.hid (Q4.out.bel hfr.2)
    have FR := Lib.hid hfr
    have TH := Lib.hid (show w3.there (p + 1) 0 Y.toArray.size from bthere Q5.out 0 _ (by rw [List.size_toArray, YL.out]; exact Nat.le_refl 5))
    have YI := Lib.hid (show (Try.prog.info? 26).map (·.size) = some Y.toArray.size by rw [List.size_toArray, YL.out]; exact info_bank)
    clear hfr hsu hE
    go_upto_region 4 with ((with_reducible refine wpList_store_mid ?_ 26 (.tmp 10) (.tmp 19) ?_ (p + 1) 0 Y.toArray ?_ ?_ TH.out YI.out YO.out ?_); rfl; rfl; rfl; rfl)
    have S4 : Hid (St w (p + 1) g cv zs (bkC (.slice (some ⟨g, 0, none⟩) zs.length cv) [p0, p1, p2, p3]) 0 (w3.setCells (p + 1) 0 Y)) := by
      rw [← HY.out]
      refine ⟨bel_setCells (B0.out.trans (K2.out.trans FR.out.2)) (by rw [HP.out]; omega) 0 _, blk5 Q5.out rfl _ YL.out, E5.out.kep (kep_setCells (p + 1) Y 0 w3) (by omega), ?_, by rw [HP.out]; omega⟩
      exact Kk.Kep.owns (kep_setCells (p + 1) Y 0 w3) (fun k hk e => hg1 ((Option.some.inj hk).trans e)) (Kk.owns_mono FR.out.1 (Below.size (B0.out.trans K2.out)))
    obtain ⟨w4, hw4⟩ : ∃ w4, w3.setCells (p + 1) 0 Y = w4 := ⟨_, rfl⟩
    rw [hw4] at S4 ⊢
    clear hw4 TH FR E5 Q5 Q4 E4 R4 K2 HW HW1 HW2 B0 B1 B02 R0 PSU ZS HLEN uB iB HS0 HS1 YL YO HY YI c0
    have hE := S4.out.cellE
    have hEf := S4.out.frozenE
    have hS := S4.out.cellS
    have HNL := Lib.hid hzl
    clear hzl hg hg1 hg2
    by_cases hpf : plE zs true f = 0
    · obtain ⟨j, hj, hj2⟩ := plP_ok hpf
      subst hj
      have HPF := Lib.hid hpf
      have CI := Lib.hid (poolIn (p + 1) j w4 hj2)
      clear hpf
      go_wp2_with fail
      refine CI.out.mono ?_
      rintro e w5 ⟨rfl, rfl⟩
      go_upto_region 6 with fail
      have S5 := Lib.hid (S4.out.err 0)
      obtain ⟨w5, hw5⟩ : ∃ w5, w4.setCell ⟨p + 1 + 1, 0, none⟩ (.int .i64 0) = w5 := ⟨_, rfl⟩
      rw [hw5] at S5 ⊢
      clear hw5 S4 hE hEf hS CI
      have hE := S5.out.cellE
      have hEf := S5.out.frozenE
      have hS := S5.out.cellS
      by_cases hpt : plE zs false t = 0
      · obtain ⟨i, hi, hi2⟩ := plA_ok hpt
        subst hi
        have HPT := Lib.hid hpt
        have CI := Lib.hid (accIn0 (p + 1) g _ cv i w5 hS hi2)
        clear hpt
        go_wp2_with fail
        refine CI.out.mono ?_
        rintro e w6 ⟨rfl, rfl⟩
        go_upto_region 8 with fail
        have S6 := Lib.hid (S5.out.err 0)
        obtain ⟨w6, hw6⟩ : ∃ w6, w5.setCell ⟨p + 1 + 1, 0, none⟩ (.int .i64 0) = w6 := ⟨_, rfl⟩
        rw [hw6] at S6 ⊢
        clear hw6 S5 hE hEf hS CI
        have hE := S6.out.cellE
        have hEf := S6.out.frozenE
        have hS := S6.out.cellS
        have hpe := S6.out.ptr_other (s := ⟨p + 1, 1 + j, none⟩) (d := ⟨g, i, none⟩) (.inr rfl) (.inl rfl) (by intro e; injection e with e; exact S6.out.ga.1 e.symm)
        have CG := Lib.hid (fun V => givesP j V)
        by_cases hj2x : j = 2
        · have hjb : ((j : Int) != 2) = false := by subst hj2x; rfl
          have CG := Lib.hid (fun V => hjb ▸ CG.out V)
          clear hjb
          have HX := Lib.hid (show xE zs [p0, p1, p2, p3] true false j i m least = 2 by unfold xE; rw [if_pos HQ.out, if_pos HPF.out, if_pos HPT.out, if_pos (.inr (.inl ⟨rfl, by omega⟩))])
          clear hj2x
          go_wp2_with fail
          refine (CG.out _).mono ?_
          rintro e w7 ⟨rfl, rfl⟩
          go_wp2_with fail
          have S7 := S6.out.err 2
          show Leaves _ _ _ _ _ _ _
          refine leave_no _ _ (p + 1) (p + 1 + 1) 2 _ _ ?_ ?_ (by omega) S7.cellE (by decide) S7.q (by simp [bkC]) ?_
          · rfl
          · rfl
          have hx : ¬ xE zs [p0, p1, p2, p3] true false j i m least = 0 := by rw [HX.out]; decide
          refine ⟨_, by rw [HX.out], ?_⟩
          rw [xZ_no hx, xP_no hx]
          exact fb_zero (bel_setCells S7.bel S7.le 0 _)
        · have hjb : ((j : Int) != 2) = true := by simp; omega
          have CG := Lib.hid (fun V => hjb ▸ CG.out V)
          clear hjb
          by_cases hml : m < least
          · skip
            have HX := Lib.hid (show xE zs [p0, p1, p2, p3] true false j i m least = 2 by unfold xE; rw [if_pos HQ.out, if_pos HPF.out, if_pos HPT.out, if_pos (.inr (.inr hml))])
            go_wp2_with fail
            refine (CG.out _).mono ?_
            rintro e w7 ⟨rfl, rfl⟩
            go_wp2_with fail
            have S7 := S6.out.err 2
            show Leaves _ _ _ _ _ _ _
            refine leave_no _ _ (p + 1) (p + 1 + 1) 2 _ _ ?_ ?_ (by omega) S7.cellE (by decide) S7.q (by simp [bkC]) ?_
            · rfl
            · rfl
            have hx : ¬ xE zs [p0, p1, p2, p3] true false j i m least = 0 := by rw [HX.out]; decide
            refine ⟨_, by rw [HX.out], ?_⟩
            rw [xZ_no hx, xP_no hx]
            exact fb_zero (bel_setCells S7.bel S7.le 0 _)
          · skip
            obtain ⟨v, hv⟩ : ∃ v, List.getD [p0, p1, p2, p3] j 0 = v := ⟨_, rfl⟩
            obtain ⟨u, hu⟩ : ∃ u, List.getD zs i 0 = u := ⟨_, rfl⟩
            have hv0 := (HPS.out j)
            have hu0 := (HZ.out i)
            rw [hv] at hv0
            rw [hu] at hu0
            have cF := (S6.out.cellP (k := j) hj2).1
            have cFf := (S6.out.cellP (k := j) hj2).2
            rw [hv] at cF
            have hno : ¬ ((true = false ∧ (j : Int) = i) ∨ (true = true ∧ (j : Int) = 2) ∨ m < least) := by
              rintro (h | h | h)
              · exact absurd h.1 (by decide)
              · exact hj2x (by omega)
              · exact hml h
            have hbal : bal zs [p0, p1, p2, p3] true j = v := by unfold bal; rw [if_pos rfl, Int.toNat_natCast, hv]
            have hbal2 : bal zs [p0, p1, p2, p3] false i = u := by unfold bal; rw [if_neg (by decide), Int.toNat_natCast, hu]
            by_cases hpoor : v < m
            · skip
              have HX := Lib.hid (show xE zs [p0, p1, p2, p3] true false j i m least = 13 by unfold xE; rw [if_pos HQ.out, if_pos HPF.out, if_pos HPT.out, if_neg hno, hbal, if_pos hpoor])
              have CS := Lib.hid (fun V => subN v m V hpoor)
              clear hno hbal hbal2 hv hu
              go_wp2_with fail
              refine (CG.out _).mono ?_
              rintro e w7 ⟨rfl, rfl⟩
              go_wp2_with fail
              refine (CS.out _).mono ?_
              rintro e w8 ⟨rfl, rfl⟩
              have S7 := (S6.out.setP j 0).err 13
              have hE8 := (S6.out.setP j 0).cellE
              have hEf8 := (S6.out.setP j 0).frozenE
              go_wp2_with fail
              show Leaves _ _ _ _ _ _ _
              refine leave_no _ _ (p + 1) (p + 1 + 1) 13 _ _ ?_ ?_ (by omega) S7.cellE (by decide) S7.q (by simp [bkC]) ?_
              · rfl
              · rfl
              have hx : ¬ xE zs [p0, p1, p2, p3] true false j i m least = 0 := by rw [HX.out]; decide
              refine ⟨_, by rw [HX.out], ?_⟩
              rw [xZ_no hx, xP_no hx]
              exact fb_zero (bel_setCells S7.bel S7.le 0 _)
            · skip
              have hle := (chk_ok HQ.out).2.2
              have hz0 := sum0 HZ.out
              have hp0 := sum0 HPS.out
              have hub := get_le_sum HZ.out i
              rw [hu] at hub
              have hvb := get_le_sum HPS.out j
              rw [hv] at hvb
              have CS := Lib.hid (fun V => subW v m V hv0.1 hv0.2 m0 (by omega))
              have CA := Lib.hid (fun V => addS u m V hu0.1 hu0.2 m0 m1 (by omega))
              have HX := Lib.hid (show xE zs [p0, p1, p2, p3] true false j i m least = 0 by unfold xE; rw [if_pos HQ.out, if_pos HPF.out, if_pos HPT.out, if_neg hno, hbal, if_neg hpoor])
              have HXZ := Lib.hid (show xZ zs [p0, p1, p2, p3] true false j i m least = (zs.set i (u + m)) by unfold xZ; rw [HX.out]; unfold okZ xZ'; rw [if_pos rfl, hbal, hbal2]; simp [putZ])
              have HXP := Lib.hid (show xP zs [p0, p1, p2, p3] true false j i m least = ([p0, p1, p2, p3].set j (v - m)) by unfold xP; rw [HX.out]; unfold okP xP'; rw [if_pos rfl, hbal, hbal2]; unfold putP; simp only [Int.toNat_natCast]; rfl)
              have S7 := Lib.hid ((S6.out.setP j (v - m)).err 0)
              have hE8 := (S6.out.setP j (v - m)).cellE
              have hEf8 := (S6.out.setP j (v - m)).frozenE
              have cT := Lib.hid (((S6.out.setP j (v - m)).err 0).cellZ (k := i) (by exact hi2))
              have cT := Lib.hid (show _ ∧ _ from by have h := cT.out; rw [hu] at h; exact h)
              have HU := Lib.hid hu
              clear hno hbal hbal2 hv hu hub hvb hle hz0 hp0
              go_wp2_with fail
              refine (CG.out _).mono ?_
              rintro e w7 ⟨rfl, rfl⟩
              go_wp2_with fail
              refine (CS.out _).mono ?_
              rintro e w8 ⟨rfl, rfl⟩
              go_upto_region 12 with fail
              obtain ⟨w8, hw8⟩ : ∃ w8, (w6.setCell ⟨p + 1, 1 + j, none⟩ (.int .u64 (v - m))).setCell ⟨p + 1 + 1, 0, none⟩ (.int .i64 0) = w8 := ⟨_, rfl⟩
              rw [hw8] at S7 cT ⊢
              clear hw8 hE hEf hS cF cFf hE8 hEf8 hpe S6
              have hE := S7.out.cellE
              have hTf := cT.out.2
              have hT := cT.out.1
              go_wp2_with fail
              refine (CA.out _).mono ?_
              rintro e w9 ⟨rfl, k9⟩
              have S9 := Lib.hid (S7.out.kept k9)
              have S10 := S9.out.setZ i (u + m)
              have hE9 := S10.cellE
              have hEf9 := S10.frozenE
              have hT9 := (S9.out.cellZ (k := i) (by exact hi2)).1
              have hTf9 := (S9.out.cellZ (k := i) (by exact hi2)).2
              rw [HU.out] at hT9
              have S10 := Lib.hid (S10.err 0)
              clear hE hT hTf cT
              go_wp2_with fail
              show Leaves _ _ _ _ _ _ _
              have S11 := S10.out
              refine leave_ok _ _ (p + 1) (p + 1 + 1) _ _ ?_ ?_ S11.cellE S11.q (by simp [bkC]) ?_
              · rfl
              · rfl
              refine ⟨_, by rw [HX.out], ?_⟩
              rw [HXZ.out, HXP.out]
              exact S11.fb' (by simp)
      · obtain ⟨e1, e2⟩ := plA_no hpt
        have HX := Lib.hid (show xE zs [p0, p1, p2, p3] true false j t m least = 10 by unfold xE; rw [if_pos HQ.out, if_pos HPF.out, if_neg hpt, e1])
        have CI := Lib.hid (accIn_no (p + 1) _ _ _ t w5 hS e2)
        clear hpt e1 e2
        go_wp2_with fail
        refine CI.out.mono ?_
        rintro e w6 ⟨rfl, rfl⟩
        go_wp2_with fail
        have S6 := S5.out.err 10
        show Leaves _ _ _ _ _ _ _
        refine leave_no _ _ (p + 1) (p + 1 + 1) 10 _ _ ?_ ?_ (by omega) S6.cellE (by decide) S6.q rfl ?_
        · rfl
        · rfl
        have hx : ¬ xE zs [p0, p1, p2, p3] true false j t m least = 0 := by rw [HX.out]; decide
        refine ⟨_, by rw [HX.out], ?_⟩
        rw [xZ_no hx, xP_no hx]
        exact fb_zero (bel_setCells S6.bel S6.le 0 _)
    · obtain ⟨e1, e2⟩ := plP_no hpf
      have HX := Lib.hid (show xE zs [p0, p1, p2, p3] true false f t m least = 3 by unfold xE; rw [if_pos HQ.out, if_neg hpf, e1])
      have CI := Lib.hid (poolIn_no (p + 1) f w4 e2)
      clear hpf e1 e2
      go_wp2_with fail
      refine CI.out.mono ?_
      rintro e w5 ⟨rfl, rfl⟩
      go_wp2_with fail
      have S5 := S4.out.err 3
      show Leaves _ _ _ _ _ _ _
      refine leave_no _ _ (p + 1) (p + 1 + 1) 3 _ _ ?_ ?_ (by omega) S5.cellE (by decide) S5.q rfl ?_
      · rfl
      · rfl
      have hx : ¬ xE zs [p0, p1, p2, p3] true false f t m least = 0 := by rw [HX.out]; decide
      refine ⟨_, by rw [HX.out], ?_⟩
      rw [xZ_no hx, xP_no hx]
      exact fb_zero (bel_setCells S5.bel S5.le 0 _)
  · have hq1 : (q != 0) = true := by simpa using hq0
    go_wp2_with fail
    have QE := Q3.out.other (b' := p + 1 + 1) (by omega) 0 (.int .i64 q)
    have CE := cell_set E3.out (.int .i64 q)
    show Leaves _ _ _ _ _ _ _
    refine leave_chk _ _ (p + 1) (p + 1 + 1) q _ _ ?_ ?_ CE QE rfl ?_
    · rfl
    · rfl
    refine ⟨_, by rw [xE_chk HQ.out hq0], ?_⟩
    rw [xZ_chk HQ.out hq0, xP_chk HQ.out hq0]
    exact fb_zero (Kk.Bel.set (B0.out.trans (B02.out.trans B1.out)) (by rw [HP.out]; show p ≤ p + 1 + 1; omega) _)
end Bk
end Go.Proofs.Ytgdaojbflokmoaa
end

section
/-
  What bank.transfer answers, for the four kinds of places. Conditions: the amounts are words.
-/
namespace Go.Proofs.Ytgdaojbflokmoaa
open Go.RowKit Go.Shelf
set_option linter.unusedVariables false
namespace Bk
open Pm


set_option maxRecDepth 10000 in
set_option maxHeartbeats 4000000 in
theorem transferAP (f t m least : Int) (A : Option Addr) (n c : Nat) (zs : List Int) (p0 p1 p2 p3 : Int) (w : World) (hi : SU w A n c zs) (hn : n ≤ 1000000000) (hz : Words zs) (hps : Words [p0, p1, p2, p3]) (m0 : 0 ≤ m) (m1 : m ≤ 18446744073709551615) (l0 : 0 ≤ least) (l1 : least ≤ 18446744073709551615) :
    Calls Try.prog 92 #[.agg #[.slice A n c, .int .u64 p0, .int .u64 p1, .int .u64 p2, .int .u64 p3], .iface 74 (.int .i64 f), .iface 111 (.int .i64 t), .int .u64 m, .int .u64 least] w fun e w' => ∃ V, e = .returned (.tuple #[V, .int .i64 (xE zs [p0, p1, p2, p3] false true f t m least)]) ∧ FB w w' V (xZ zs [p0, p1, p2, p3] false true f t m least) (xP zs [p0, p1, p2, p3] false true f t m least) := by
  obtain ⟨W0, hW0⟩ : ∃ W0, w.alloc (.cells #[.slice A n c, .int .u64 p0, .int .u64 p1, .int .u64 p2, .int .u64 p3] 26) = W0 := ⟨_, rfl⟩
  have B0 := Lib.hid (show Kk.Bel w W0 by rw [← hW0]; exact (Kk.Bel.refl w).alloc _)
  have R0 := Lib.hid (show W0.rangeAt w.heap.size 0 [.slice A n c, .int .u64 p0, .int .u64 p1, .int .u64 p2, .int .u64 p3] by rw [← hW0]; exact rngB (C := [.slice A n c, .int .u64 p0, .int .u64 p1, .int .u64 p2, .int .u64 p3]) (Kk.Blk.new w _ 26))
  obtain ⟨p, hp⟩ : ∃ p, w.heap.size = p := ⟨_, rfl⟩
  rw [hp] at R0
  have c0 : W0.cell? ⟨p, 0, none⟩ = some (.slice A n c) := R0.out 0 _ rfl
  have PSU := Lib.hid (fun V (h : Kk.Bel W0 V) => pools_su (v := .slice A n c) (ps := [p0, p1, p2, p3]) (rng_bel R0.out h) rfl)
  have ZS := Lib.hid (fun V (h : Kk.Bel W0 V) => (hi.bel B0.out).bel h)
  have CK := Lib.hid (fun V (h : Kk.Bel W0 V) => checkC A n c zs p0 p1 p2 p3 V (ZS.out V h) hn hz hps)
  have HZ := Lib.hid hz
  have HPS := Lib.hid hps
  have HP := Lib.hid hp
  have HW := Lib.hid hW0
  have HLEN := Lib.hid hi.len
  have uB := Try.underlying26
  have iB := Lib.hid (show (Try.prog.info? 26).map (·.size) = some ([.slice A n c, .int .u64 p0, .int .u64 p1, .int .u64 p2, .int .u64 p3] : List Value).length from info_bank)
  clear hi hz hps hp hW0
  obtain ⟨W1, hW1⟩ : ∃ W1, W0.alloc (.cells #[.slice none 0 0, .int .u64 0, .int .u64 0, .int .u64 0, .int .u64 0] 26) = W1 := ⟨_, rfl⟩
  obtain ⟨W2, hW2⟩ : ∃ W2, W1.alloc (.cells #[.int .i64 0] 30) = W2 := ⟨_, rfl⟩
  have hs0 : W0.heap.size = p + 1 := by rw [← HW.out, ← HP.out, World.size_alloc]
  have hs1 : W1.heap.size = p + 2 := by rw [← hW1, World.size_alloc, hs0]
  have B02 := Lib.hid (show Kk.Bel W0 W2 by rw [← hW2, ← hW1]; exact ((Kk.Bel.refl W0).alloc _).alloc _)
  have Q2 := Lib.hid (show Kk.Blk W2 (p + 1) [.slice none 0 0, .int .u64 0, .int .u64 0, .int .u64 0, .int .u64 0].toArray 26 by rw [← hW2, ← hW1, ← hs0]; exact (Kk.Blk.new W0 _ _).alloc _)
  have E2 := Lib.hid (show Kk.Blk W2 (p + 2) [.int .i64 0].toArray 30 by rw [← hW2, ← hs1]; exact Kk.Blk.new W1 _ _)
  have R2 := Lib.hid (rng_bel R0.out B02.out)
  have HW1 := Lib.hid hW1
  have HW2 := Lib.hid hW2
  have HS0 := Lib.hid hs0
  have HS1 := Lib.hid hs1
  clear hW1 hW2 hs0 hs1
  have CL := Lib.hid (fun V (h : Kk.Bel W0 V) => clone A n c zs p0 p1 p2 p3 V (ZS.out V h) hn)
  have hmf : ∀ (fn : Fn) (first cap : Array Value) (w : World), (Instr.makeFunc fn first cap).run Try.prog w = .ok (.func fn first cap) w := fun _ _ _ _ => rfl
  have hmA : ∀ (x : Int) (w : World), (method 132 74 (.int .i64 x) "distraint/bank.in").run Try.prog w = .ok (46, .int .i64 x) w := fun _ _ => by kernel_rfl
  have hmP : ∀ (x : Int) (w : World), (method 132 111 (.int .i64 x) "distraint/bank.in").run Try.prog w = .ok (154, .int .i64 x) w := fun _ _ => by kernel_rfl
  have hmg : ∀ (x : Int) (w : World), (method 132 74 (.int .i64 x) "distraint/bank.gives").run Try.prog w = .ok (152, .int .i64 x) w := fun _ _ => by kernel_rfl
  go_enter_defers Try.func92, Try.ntmps92
  go_upto_region 1 with fail
  rw [HW.out, HP.out, HW1.out, HW2.out]
  go_wp2_with ((with_reducible refine wpList_load_mid ?_ 26 (.tmp 5) ?_ p 0 ?_ [.slice A n c, .int .u64 p0, .int .u64 p1, .int .u64 p2, .int .u64 p3] _ R2.out uB ?_ iB.out ?_); rfl; rfl; rfl; rfl)
  refine (CK.out _ B02.out).mono ?_
  rintro e w1 ⟨rfl, k1⟩
  have B1 := Lib.hid k1
  have E3 := Lib.hid (E2.out.bel k1)
  have Q3 := Lib.hid (Q2.out.bel k1)
  have R3 := Lib.hid (rng_bel R2.out k1)
  have hE := E3.out.cell 0 (v := .int .i64 0) rfl
  have hEf := E3.out.frozen 0
  clear CK k1
  obtain ⟨q, hq⟩ : ∃ q, chk zs [p0, p1, p2, p3] = q := ⟨_, rfl⟩
  rw [hq]
  have HQ := Lib.hid hq
  clear hq
  by_cases hq0 : q = 0
  · subst hq0
    go_upto_region 2 with fail
    obtain ⟨w2, hw2⟩ : ∃ w2, w1.setCell ⟨p + 1 + 1, 0, none⟩ (.int .i64 0) = w2 := ⟨_, rfl⟩
    rw [hw2]
    have K2 := Lib.hid (show Kk.Bel W0 w2 by rw [← hw2]; exact Kk.Bel.set (B02.out.trans B1.out) (by rw [HS0.out]; show p + 1 ≤ p + 1 + 1; omega) _)
    have E4 := Lib.hid (show Kk.Blk w2 (p + 2) [.int .i64 0].toArray 30 by rw [← hw2]; exact E3.out.set 0 (.int .i64 0))
    have Q4 := Lib.hid (show Kk.Blk w2 (p + 1) [.slice none 0 0, .int .u64 0, .int .u64 0, .int .u64 0, .int .u64 0].toArray 26 by rw [← hw2]; exact Q3.out.other (by omega) 0 _)
    have R4 := Lib.hid (rng_bel R0.out K2.out)
    clear hw2 hE hEf E3 Q3 R3 R2 E2 Q2
    have hE := E4.out.cell 0 (v := .int .i64 0) rfl
    go_wp2_with ((with_reducible refine wpList_load_mid ?_ 26 (.tmp 5) ?_ p 0 ?_ [.slice A n c, .int .u64 p0, .int .u64 p1, .int .u64 p2, .int .u64 p3] _ R4.out uB ?_ iB.out ?_); rfl; rfl; rfl; rfl)
    refine (CL.out w2 K2.out).mono ?_
    rintro e w3 ⟨V, rfl, v, rfl, hfr⟩
    obtain ⟨A', cv, hv, hsu⟩ := hfr.su
    subst hv
    rw [show bkC (.slice A' zs.length cv) [p0, p1, p2, p3] = [.slice A' zs.length cv, .int .u64 p0, .int .u64 p1, .int .u64 p2, .int .u64 p3] from rfl]
    have hzl := (chk_ok HQ.out).1
    obtain ⟨g, o, rfl, hg, _⟩ := hsu.ints.cell (i := 0) hzl
    have hg0 : g ≠ p + 1 ∧ g ≠ p + 2 ∧ o = 0 := by
      refine ⟨?_, ?_, ?_⟩
      · rintro rfl; exact (Q4.out.bel hfr.2).not_row (by decide) hfr.1 rfl
      · rintro rfl; exact (E4.out.bel hfr.2).not_row (by decide) hfr.1 rfl
      · rcases hfr.1.2 with ⟨h1, _⟩ | ⟨_, _, _, h1, _⟩
        · cases h1
        · injection h1 with h1; injection h1 with h1; injection h1
    obtain ⟨hg1, hg2, rfl⟩ := hg0
    obtain ⟨Y, hY⟩ : ∃ Y, Y = ([.slice (some ⟨g, 0, none⟩) zs.length cv, .int .u64 p0, .int .u64 p1, .int .u64 p2, .int .u64 p3] : List Value) := ⟨_, rfl⟩
    rw [← hY]
    have YL := Lib.hid (show Y.length = 5 by rw [hY]; rfl)
    have YO := Lib.hid (show Y.toArray.all (·.oneCell') = true by rw [hY]; exact one5 rfl)
    have HY := Lib.hid (show Y = bkC (.slice (some ⟨g, 0, none⟩) zs.length cv) [p0, p1, p2, p3] from hY)
    clear hY
    have E5 := Lib.hid (E4.out.bel hfr.2)
    have Q5 := Lib.hid (Q4.out.bel hfr.2)
    have FR := Lib.hid hfr
    have TH := Lib.hid (show w3.there (p + 1) 0 Y.toArray.size from bthere Q5.out 0 _ (by rw [List.size_toArray, YL.out]; exact Nat.le_refl 5))
    have YI := Lib.hid (show (Try.prog.info? 26).map (·.size) = some Y.toArray.size by rw [List.size_toArray, YL.out]; exact info_bank)
    clear hfr hsu hE
    go_upto_region 4 with ((with_reducible refine wpList_store_mid ?_ 26 (.tmp 10) (.tmp 19) ?_ (p + 1) 0 Y.toArray ?_ ?_ TH.out YI.out YO.out ?_); rfl; rfl; rfl; rfl)
    have S4 : Hid (St w (p + 1) g cv zs (bkC (.slice (some ⟨g, 0, none⟩) zs.length cv) [p0, p1, p2, p3]) 0 (w3.setCells (p + 1) 0 Y)) := by
      rw [← HY.out]
      refine ⟨bel_setCells (B0.out.trans (K2.out.trans FR.out.2)) (by rw [HP.out]; omega) 0 _, blk5 Q5.out rfl _ YL.out, E5.out.kep (kep_setCells (p + 1) Y 0 w3) (by omega), ?_, by rw [HP.out]; omega⟩
      exact Kk.Kep.owns (kep_setCells (p + 1) Y 0 w3) (fun k hk e => hg1 ((Option.some.inj hk).trans e)) (Kk.owns_mono FR.out.1 (Below.size (B0.out.trans K2.out)))
    obtain ⟨w4, hw4⟩ : ∃ w4, w3.setCells (p + 1) 0 Y = w4 := ⟨_, rfl⟩
    rw [hw4] at S4 ⊢
    clear hw4 TH FR E5 Q5 Q4 E4 R4 K2 HW HW1 HW2 B0 B1 B02 R0 PSU ZS HLEN uB iB HS0 HS1 YL YO HY YI c0
    have hE := S4.out.cellE
    have hEf := S4.out.frozenE
    have hS := S4.out.cellS
    have HNL := Lib.hid hzl
    clear hzl hg hg1 hg2
    by_cases hpf : plE zs false f = 0
    · obtain ⟨j, hj, hj2⟩ := plA_ok hpf
      subst hj
      have HPF := Lib.hid hpf
      have CI := Lib.hid (accIn0 (p + 1) g _ cv j w4 hS hj2)
      clear hpf
      go_wp2_with fail
      refine CI.out.mono ?_
      rintro e w5 ⟨rfl, rfl⟩
      go_upto_region 6 with fail
      have S5 := Lib.hid (S4.out.err 0)
      obtain ⟨w5, hw5⟩ : ∃ w5, w4.setCell ⟨p + 1 + 1, 0, none⟩ (.int .i64 0) = w5 := ⟨_, rfl⟩
      rw [hw5] at S5 ⊢
      clear hw5 S4 hE hEf hS CI
      have hE := S5.out.cellE
      have hEf := S5.out.frozenE
      have hS := S5.out.cellS
      by_cases hpt : plE zs true t = 0
      · obtain ⟨i, hi, hi2⟩ := plP_ok hpt
        subst hi
        have HPT := Lib.hid hpt
        have CI := Lib.hid (poolIn (p + 1) i w5 hi2)
        clear hpt
        go_wp2_with fail
        refine CI.out.mono ?_
        rintro e w6 ⟨rfl, rfl⟩
        go_upto_region 8 with fail
        have S6 := Lib.hid (S5.out.err 0)
        obtain ⟨w6, hw6⟩ : ∃ w6, w5.setCell ⟨p + 1 + 1, 0, none⟩ (.int .i64 0) = w6 := ⟨_, rfl⟩
        rw [hw6] at S6 ⊢
        clear hw6 S5 hE hEf hS CI
        have hE := S6.out.cellE
        have hEf := S6.out.frozenE
        have hS := S6.out.cellS
        have hpe := S6.out.ptr_other (s := ⟨g, j, none⟩) (d := ⟨p + 1, 1 + i, none⟩) (.inl rfl) (.inr rfl) (by intro e; injection e with e; exact S6.out.ga.1 e)
        have CG := Lib.hid (fun V => givesA j V)
        by_cases hml : m < least
        · skip
          have HX := Lib.hid (show xE zs [p0, p1, p2, p3] false true j i m least = 2 by unfold xE; rw [if_pos HQ.out, if_pos HPF.out, if_pos HPT.out, if_pos (.inr (.inr hml))])
          go_wp2_with fail
          refine (CG.out _).mono ?_
          rintro e w7 ⟨rfl, rfl⟩
          go_wp2_with fail
          have S7 := S6.out.err 2
          show Leaves _ _ _ _ _ _ _
          refine leave_no _ _ (p + 1) (p + 1 + 1) 2 _ _ ?_ ?_ (by omega) S7.cellE (by decide) S7.q (by simp [bkC]) ?_
          · rfl
          · rfl
          have hx : ¬ xE zs [p0, p1, p2, p3] false true j i m least = 0 := by rw [HX.out]; decide
          refine ⟨_, by rw [HX.out], ?_⟩
          rw [xZ_no hx, xP_no hx]
          exact fb_zero (bel_setCells S7.bel S7.le 0 _)
        · skip
          obtain ⟨v, hv⟩ : ∃ v, List.getD zs j 0 = v := ⟨_, rfl⟩
          obtain ⟨u, hu⟩ : ∃ u, List.getD [p0, p1, p2, p3] i 0 = u := ⟨_, rfl⟩
          have hv0 := (HZ.out j)
          have hu0 := (HPS.out i)
          rw [hv] at hv0
          rw [hu] at hu0
          have cF := (S6.out.cellZ hj2).1
          have cFf := (S6.out.cellZ hj2).2
          rw [hv] at cF
          have hno : ¬ ((false = true ∧ (j : Int) = i) ∨ (false = true ∧ (j : Int) = 2) ∨ m < least) := by
            rintro (h | h | h)
            · exact absurd h.1 (by decide)
            · exact absurd h.1 (by decide)
            · exact hml h
          have hbal : bal zs [p0, p1, p2, p3] false j = v := by unfold bal; rw [if_neg (by decide), Int.toNat_natCast, hv]
          have hbal2 : bal zs [p0, p1, p2, p3] true i = u := by unfold bal; rw [if_pos rfl, Int.toNat_natCast, hu]
          by_cases hpoor : v < m
          · skip
            have HX := Lib.hid (show xE zs [p0, p1, p2, p3] false true j i m least = 13 by unfold xE; rw [if_pos HQ.out, if_pos HPF.out, if_pos HPT.out, if_neg hno, hbal, if_pos hpoor])
            have CS := Lib.hid (fun V => subN v m V hpoor)
            clear hno hbal hbal2 hv hu
            go_wp2_with fail
            refine (CG.out _).mono ?_
            rintro e w7 ⟨rfl, rfl⟩
            go_wp2_with fail
            refine (CS.out _).mono ?_
            rintro e w8 ⟨rfl, rfl⟩
            have S7 := (S6.out.setZ j 0).err 13
            have hE8 := (S6.out.setZ j 0).cellE
            have hEf8 := (S6.out.setZ j 0).frozenE
            go_wp2_with fail
            show Leaves _ _ _ _ _ _ _
            refine leave_no _ _ (p + 1) (p + 1 + 1) 13 _ _ ?_ ?_ (by omega) S7.cellE (by decide) S7.q (by simp [bkC]) ?_
            · rfl
            · rfl
            have hx : ¬ xE zs [p0, p1, p2, p3] false true j i m least = 0 := by rw [HX.out]; decide
            refine ⟨_, by rw [HX.out], ?_⟩
            rw [xZ_no hx, xP_no hx]
            exact fb_zero (bel_setCells S7.bel S7.le 0 _)
          · skip
            have hle := (chk_ok HQ.out).2.2
            have hz0 := sum0 HZ.out
            have hp0 := sum0 HPS.out
            have hub := get_le_sum HPS.out i
            rw [hu] at hub
            have hvb := get_le_sum HZ.out j
            rw [hv] at hvb
            have CS := Lib.hid (fun V => subW v m V hv0.1 hv0.2 m0 (by omega))
            have CA := Lib.hid (fun V => addS u m V hu0.1 hu0.2 m0 m1 (by omega))
            have HX := Lib.hid (show xE zs [p0, p1, p2, p3] false true j i m least = 0 by unfold xE; rw [if_pos HQ.out, if_pos HPF.out, if_pos HPT.out, if_neg hno, hbal, if_neg hpoor])
            have HXZ := Lib.hid (show xZ zs [p0, p1, p2, p3] false true j i m least = (zs.set j (v - m)) by unfold xZ; rw [HX.out]; unfold okZ xZ'; rw [if_pos rfl, hbal, hbal2]; simp [putZ])
            have HXP := Lib.hid (show xP zs [p0, p1, p2, p3] false true j i m least = ([p0, p1, p2, p3].set i (u + m)) by unfold xP; rw [HX.out]; unfold okP xP'; rw [if_pos rfl, hbal, hbal2]; unfold putP; simp only [Int.toNat_natCast]; rfl)
            have S7 := Lib.hid ((S6.out.setZ j (v - m)).err 0)
            have hE8 := (S6.out.setZ j (v - m)).cellE
            have hEf8 := (S6.out.setZ j (v - m)).frozenE
            have cT := Lib.hid (((S6.out.setZ j (v - m)).err 0).cellP (k := i) (by exact hi2))
            have cT := Lib.hid (show _ ∧ _ from by have h := cT.out; rw [hu] at h; exact h)
            have HU := Lib.hid hu
            clear hno hbal hbal2 hv hu hub hvb hle hz0 hp0
            go_wp2_with fail
            refine (CG.out _).mono ?_
            rintro e w7 ⟨rfl, rfl⟩
            go_wp2_with fail
            refine (CS.out _).mono ?_
            rintro e w8 ⟨rfl, rfl⟩
            go_upto_region 12 with fail
            obtain ⟨w8, hw8⟩ : ∃ w8, (w6.setCell ⟨g, j, none⟩ (.int .u64 (v - m))).setCell ⟨p + 1 + 1, 0, none⟩ (.int .i64 0) = w8 := ⟨_, rfl⟩
            rw [hw8] at S7 cT ⊢
            clear hw8 hE hEf hS cF cFf hE8 hEf8 hpe S6
            have hE := S7.out.cellE
            have hTf := cT.out.2
            have hT := cT.out.1
            go_wp2_with fail
            refine (CA.out _).mono ?_
            rintro e w9 ⟨rfl, k9⟩
            have S9 := Lib.hid (S7.out.kept k9)
            have S10 := S9.out.setP i (u + m)
            have hE9 := S10.cellE
            have hEf9 := S10.frozenE
            have hT9 := (S9.out.cellP (k := i) (by exact hi2)).1
            have hTf9 := (S9.out.cellP (k := i) (by exact hi2)).2
            rw [HU.out] at hT9
            have S10 := Lib.hid (S10.err 0)
            clear hE hT hTf cT
            go_wp2_with fail
            show Leaves _ _ _ _ _ _ _
            have S11 := S10.out
            refine leave_ok _ _ (p + 1) (p + 1 + 1) _ _ ?_ ?_ S11.cellE S11.q (by simp [bkC]) ?_
            · rfl
            · rfl
            refine ⟨_, by rw [HX.out], ?_⟩
            rw [HXZ.out, HXP.out]
            exact S11.fb' (by simp)
      · obtain ⟨e1, e2⟩ := plP_no hpt
        have HX := Lib.hid (show xE zs [p0, p1, p2, p3] false true j t m least = 3 by unfold xE; rw [if_pos HQ.out, if_pos HPF.out, if_neg hpt, e1])
        have CI := Lib.hid (poolIn_no (p + 1) t w5 e2)
        clear hpt e1 e2
        go_wp2_with fail
        refine CI.out.mono ?_
        rintro e w6 ⟨rfl, rfl⟩
        go_wp2_with fail
        have S6 := S5.out.err 3
        show Leaves _ _ _ _ _ _ _
        refine leave_no _ _ (p + 1) (p + 1 + 1) 3 _ _ ?_ ?_ (by omega) S6.cellE (by decide) S6.q rfl ?_
        · rfl
        · rfl
        have hx : ¬ xE zs [p0, p1, p2, p3] false true j t m least = 0 := by rw [HX.out]; decide
        refine ⟨_, by rw [HX.out], ?_⟩
        rw [xZ_no hx, xP_no hx]
        exact fb_zero (bel_setCells S6.bel S6.le 0 _)
    · obtain ⟨e1, e2⟩ := plA_no hpf
      have HX := Lib.hid (show xE zs [p0, p1, p2, p3] false true f t m least = 10 by unfold xE; rw [if_pos HQ.out, if_neg hpf, e1])
      have CI := Lib.hid (accIn_no (p + 1) _ _ _ f w4 hS e2)
      clear hpf e1 e2
      go_wp2_with fail
      refine CI.out.mono ?_
      rintro e w5 ⟨rfl, rfl⟩
      go_wp2_with fail
      have S5 := S4.out.err 10
      show Leaves _ _ _ _ _ _ _
      refine leave_no _ _ (p + 1) (p + 1 + 1) 10 _ _ ?_ ?_ (by omega) S5.cellE (by decide) S5.q rfl ?_
      · rfl
      · rfl
      have hx : ¬ xE zs [p0, p1, p2, p3] false true f t m least = 0 := by rw [HX.out]; decide
      refine ⟨_, by rw [HX.out], ?_⟩
      rw [xZ_no hx, xP_no hx]
      exact fb_zero (bel_setCells S5.bel S5.le 0 _)
  · have hq1 : (q != 0) = true := by simpa using hq0
    go_wp2_with fail
    have QE := Q3.out.other (b' := p + 1 + 1) (by omega) 0 (.int .i64 q)
    have CE := cell_set E3.out (.int .i64 q)
    show Leaves _ _ _ _ _ _ _
    refine leave_chk _ _ (p + 1) (p + 1 + 1) q _ _ ?_ ?_ CE QE rfl ?_
    · rfl
    · rfl
    refine ⟨_, by rw [xE_chk HQ.out hq0], ?_⟩
    rw [xZ_chk HQ.out hq0, xP_chk HQ.out hq0]
    exact fb_zero (Kk.Bel.set (B0.out.trans (B02.out.trans B1.out)) (by rw [HP.out]; show p ≤ p + 1 + 1; omega) _)
end Bk
end Go.Proofs.Ytgdaojbflokmoaa
end

section
/-
  What bank.transfer answers, for the four kinds of places. Conditions: the amounts are words.
-/
namespace Go.Proofs.Ytgdaojbflokmoaa
open Go.RowKit Go.Shelf
set_option linter.unusedVariables false
namespace Bk
open Pm


set_option maxRecDepth 10000 in
set_option maxHeartbeats 4000000 in
theorem transferPP (f t m least : Int) (A : Option Addr) (n c : Nat) (zs : List Int) (p0 p1 p2 p3 : Int) (w : World) (hi : SU w A n c zs) (hn : n ≤ 1000000000) (hz : Words zs) (hps : Words [p0, p1, p2, p3]) (m0 : 0 ≤ m) (m1 : m ≤ 18446744073709551615) (l0 : 0 ≤ least) (l1 : least ≤ 18446744073709551615) :
    Calls Try.prog 92 #[.agg #[.slice A n c, .int .u64 p0, .int .u64 p1, .int .u64 p2, .int .u64 p3], .iface 111 (.int .i64 f), .iface 111 (.int .i64 t), .int .u64 m, .int .u64 least] w fun e w' => ∃ V, e = .returned (.tuple #[V, .int .i64 (xE zs [p0, p1, p2, p3] true true f t m least)]) ∧ FB w w' V (xZ zs [p0, p1, p2, p3] true true f t m least) (xP zs [p0, p1, p2, p3] true true f t m least) := by
  obtain ⟨W0, hW0⟩ : ∃ W0, w.alloc (.cells #[.slice A n c, .int .u64 p0, .int .u64 p1, .int .u64 p2, .int .u64 p3] 26) = W0 := ⟨_, rfl⟩
  have B0 := Lib.hid (show Kk.Bel w W0 by rw [← hW0]; exact (Kk.Bel.refl w).alloc _)
  have R0 := Lib.hid (show W0.rangeAt w.heap.size 0 [.slice A n c, .int .u64 p0, .int .u64 p1, .int .u64 p2, .int .u64 p3] by rw [← hW0]; exact rngB (C := [.slice A n c, .int .u64 p0, .int .u64 p1, .int .u64 p2, .int .u64 p3]) (Kk.Blk.new w _ 26))
  obtain ⟨p, hp⟩ : ∃ p, w.heap.size = p := ⟨_, rfl⟩
  rw [hp] at R0
  have c0 : W0.cell? ⟨p, 0, none⟩ = some (.slice A n c) := R0.out 0 _ rfl
  have PSU := Lib.hid (fun V (h : Kk.Bel W0 V) => pools_su (v := .slice A n c) (ps := [p0, p1, p2, p3]) (rng_bel R0.out h) rfl)
  have ZS := Lib.hid (fun V (h : Kk.Bel W0 V) => (hi.bel B0.out).bel h)
  have CK := Lib.hid (fun V (h : Kk.Bel W0 V) => checkC A n c zs p0 p1 p2 p3 V (ZS.out V h) hn hz hps)
  have HZ := Lib.hid hz
  have HPS := Lib.hid hps
  have HP := Lib.hid hp
  have HW := Lib.hid hW0
  have HLEN := Lib.hid hi.len
  have uB := Try.underlying26
  have iB := Lib.hid (show (Try.prog.info? 26).map (·.size) = some ([.slice A n c, .int .u64 p0, .int .u64 p1, .int .u64 p2, .int .u64 p3] : List Value).length from info_bank)
  clear hi hz hps hp hW0
  obtain ⟨W1, hW1⟩ : ∃ W1, W0.alloc (.cells #[.slice none 0 0, .int .u64 0, .int .u64 0, .int .u64 0, .int .u64 0] 26) = W1 := ⟨_, rfl⟩
  obtain ⟨W2, hW2⟩ : ∃ W2, W1.alloc (.cells #[.int .i64 0] 30) = W2 := ⟨_, rfl⟩
  have hs0 : W0.heap.size = p + 1 := by rw [← HW.out, ← HP.out, World.size_alloc]
  have hs1 : W1.heap.size = p + 2 := by rw [← hW1, World.size_alloc, hs0]
  have B02 := Lib.hid (show Kk.Bel W0 W2 by rw [← hW2, ← hW1]; exact ((Kk.Bel.refl W0).alloc _).alloc _)
  have Q2 := Lib.hid (show Kk.Blk W2 (p + 1) [.slice none 0 0, .int .u64 0, .int .u64 0, .int .u64 0, .int .u64 0].toArray 26 by rw [← hW2, ← hW1, ← hs0]; exact (Kk.Blk.new W0 _ _).alloc _)
  have E2 := Lib.hid (show Kk.Blk W2 (p + 2) [.int .i64 0].toArray 30 by rw [← hW2, ← hs1]; exact Kk.Blk.new W1 _ _)
  have R2 := Lib.hid (rng_bel R0.out B02.out)
  have HW1 := Lib.hid hW1
  have HW2 := Lib.hid hW2
  have HS0 := Lib.hid hs0
  have HS1 := Lib.hid hs1
  clear hW1 hW2 hs0 hs1
  have CL := Lib.hid (fun V (h : Kk.Bel W0 V) => clone A n c zs p0 p1 p2 p3 V (ZS.out V h) hn)
  have hmf : ∀ (fn : Fn) (first cap : Array Value) (w : World), (Instr.makeFunc fn first cap).run Try.prog w = .ok (.func fn first cap) w := fun _ _ _ _ => rfl
  have hmP : ∀ (x : Int) (w : World), (method 132 111 (.int .i64 x) "distraint/bank.in").run Try.prog w = .ok (154, .int .i64 x) w := fun _ _ => by kernel_rfl
  have hmg : ∀ (x : Int) (w : World), (method 132 111 (.int .i64 x) "distraint/bank.gives").run Try.prog w = .ok (153, .int .i64 x) w := fun _ _ => by kernel_rfl
  go_enter_defers Try.func92, Try.ntmps92
  go_upto_region 1 with fail
  rw [HW.out, HP.out, HW1.out, HW2.out]
  go_wp2_with ((with_reducible refine wpList_load_mid ?_ 26 (.tmp 5) ?_ p 0 ?_ [.slice A n c, .int .u64 p0, .int .u64 p1, .int .u64 p2, .int .u64 p3] _ R2.out uB ?_ iB.out ?_); rfl; rfl; rfl; rfl)
  refine (CK.out _ B02.out).mono ?_
  rintro e w1 ⟨rfl, k1⟩
  have B1 := Lib.hid k1
  have E3 := Lib.hid (E2.out.bel k1)
  have Q3 := Lib.hid (Q2.out.bel k1)
  have R3 := Lib.hid (rng_bel R2.out k1)
  have hE := E3.out.cell 0 (v := .int .i64 0) rfl
  have hEf := E3.out.frozen 0
  clear CK k1
  obtain ⟨q, hq⟩ : ∃ q, chk zs [p0, p1, p2, p3] = q := ⟨_, rfl⟩
  rw [hq]
  have HQ := Lib.hid hq
  clear hq
  by_cases hq0 : q = 0
  · subst hq0
    go_upto_region 2 with fail
    obtain ⟨w2, hw2⟩ : ∃ w2, w1.setCell ⟨p + 1 + 1, 0, none⟩ (.int .i64 0) = w2 := ⟨_, rfl⟩
    rw [hw2]
    have K2 := Lib.hid (show Kk.Bel W0 w2 by rw [← hw2]; exact Kk.Bel.set (B02.out.trans B1.out) (by rw [HS0.out]; show p + 1 ≤ p + 1 + 1; omega) _)
    have E4 := Lib.hid (show Kk.Blk w2 (p + 2) [.int .i64 0].toArray 30 by rw [← hw2]; exact E3.out.set 0 (.int .i64 0))
    have Q4 := Lib.hid (show Kk.Blk w2 (p + 1) [.slice none 0 0, .int .u64 0, .int .u64 0, .int .u64 0, .int .u64 0].toArray 26 by rw [← hw2]; exact Q3.out.other (by omega) 0 _)
    have R4 := Lib.hid (rng_bel R0.out K2.out)
    clear hw2 hE hEf E3 Q3 R3 R2 E2 Q2
    have hE := E4.out.cell 0 (v := .int .i64 0) rfl
    go_wp2_with ((with_reducible refine wpList_load_mid ?_ 26 (.tmp 5) ?_ p 0 ?_ [.slice A n c, .int .u64 p0, .int .u64 p1, .int .u64 p2, .int .u64 p3] _ R4.out uB ?_ iB.out ?_); rfl; rfl; rfl; rfl)
    refine (CL.out w2 K2.out).mono ?_
    rintro e w3 ⟨V, rfl, v, rfl, hfr⟩
    obtain ⟨A', cv, hv, hsu⟩ := hfr.su
    subst hv
    rw [show bkC (.slice A' zs.length cv) [p0, p1, p2, p3] = [.slice A' zs.length cv, .int .u64 p0, .int .u64 p1, .int .u64 p2, .int .u64 p3] from rfl]
    have hzl := (chk_ok HQ.out).1
    obtain ⟨g, o, rfl, hg, _⟩ := hsu.ints.cell (i := 0) hzl
    have hg0 : g ≠ p + 1 ∧ g ≠ p + 2 ∧ o = 0 := by
      refine ⟨?_, ?_, ?_⟩
      · rintro rfl; exact (Q4.out.bel hfr.2).not_row (by decide) hfr.1 rfl
      · rintro rfl; exact (E4.out.bel hfr.2).not_row (by decide) hfr.1 rfl
      · rcases hfr.1.2 with ⟨h1, _⟩ | ⟨_, _, _, h1, _⟩
        · cases h1
        · injection h1 with h1; injection h1 with h1; injection h1
    obtain ⟨hg1, hg2, rfl⟩ := hg0
    obtain ⟨Y, hY⟩ : ∃ Y, Y = ([.slice (some ⟨g, 0, none⟩) zs.length cv, .int .u64 p0, .int .u64 p1, .int .u64 p2, .int .u64 p3] : List Value) := ⟨_, rfl⟩
    rw [← hY]
    have YL := Lib.hid (show Y.length = 5 by rw [hY]; rfl)
    have YO := Lib.hid (show Y.toArray.all (·.oneCell') = true by rw [hY]; exact one5 rfl)
    have HY := Lib.hid (show Y = bkC (.slice (some ⟨g, 0, none⟩) zs.length cv) [p0, p1, p2, p3] from hY)
    clear hY
    have E5 := Lib.hid (E4.out.bel hfr.2)
    have Q5 := Lib.hid (Q4.out.bel hfr.2)
    have FR := Lib.hid hfr
    have TH := Lib.hid (show w3.there (p + 1) 0 Y.toArray.size from bthere Q5.out 0 _ (by rw [List.size_toArray, YL.out]; exact Nat.le_refl 5))
    have YI := Lib.hid (show (Try.prog.info? 26).map (·.size) = some Y.toArray.size by rw [List.size_toArray, YL.out]; exact info_bank)
    clear hfr hsu hE
    go_upto_region 4 with ((with_reducible refine wpList_store_mid ?_ 26 (.tmp 10) (.tmp 19) ?_ (p + 1) 0 Y.toArray ?_ ?_ TH.out YI.out YO.out ?_); rfl; rfl; rfl; rfl)
    have S4 : Hid (St w (p + 1) g cv zs (bkC (.slice (some ⟨g, 0, none⟩) zs.length cv) [p0, p1, p2, p3]) 0 (w3.setCells (p + 1) 0 Y)) := by
      rw [← HY.out]
      refine ⟨bel_setCells (B0.out.trans (K2.out.trans FR.out.2)) (by rw [HP.out]; omega) 0 _, blk5 Q5.out rfl _ YL.out, E5.out.kep (kep_setCells (p + 1) Y 0 w3) (by omega), ?_, by rw [HP.out]; omega⟩
      exact Kk.Kep.owns (kep_setCells (p + 1) Y 0 w3) (fun k hk e => hg1 ((Option.some.inj hk).trans e)) (Kk.owns_mono FR.out.1 (Below.size (B0.out.trans K2.out)))
    obtain ⟨w4, hw4⟩ : ∃ w4, w3.setCells (p + 1) 0 Y = w4 := ⟨_, rfl⟩
    rw [hw4] at S4 ⊢
    clear hw4 TH FR E5 Q5 Q4 E4 R4 K2 HW HW1 HW2 B0 B1 B02 R0 PSU ZS HLEN uB iB HS0 HS1 YL YO HY YI c0
    have hE := S4.out.cellE
    have hEf := S4.out.frozenE
    have hS := S4.out.cellS
    have HNL := Lib.hid hzl
    clear hzl hg hg1 hg2
    by_cases hpf : plE zs true f = 0
    · obtain ⟨j, hj, hj2⟩ := plP_ok hpf
      subst hj
      have HPF := Lib.hid hpf
      have CI := Lib.hid (poolIn (p + 1) j w4 hj2)
      clear hpf
      go_wp2_with fail
      refine CI.out.mono ?_
      rintro e w5 ⟨rfl, rfl⟩
      go_upto_region 6 with fail
      have S5 := Lib.hid (S4.out.err 0)
      obtain ⟨w5, hw5⟩ : ∃ w5, w4.setCell ⟨p + 1 + 1, 0, none⟩ (.int .i64 0) = w5 := ⟨_, rfl⟩
      rw [hw5] at S5 ⊢
      clear hw5 S4 hE hEf hS CI
      have hE := S5.out.cellE
      have hEf := S5.out.frozenE
      have hS := S5.out.cellS
      by_cases hpt : plE zs true t = 0
      · obtain ⟨i, hi, hi2⟩ := plP_ok hpt
        subst hi
        have HPT := Lib.hid hpt
        have CI := Lib.hid (poolIn (p + 1) i w5 hi2)
        clear hpt
        go_wp2_with fail
        refine CI.out.mono ?_
        rintro e w6 ⟨rfl, rfl⟩
        go_upto_region 8 with fail
        have S6 := Lib.hid (S5.out.err 0)
        obtain ⟨w6, hw6⟩ : ∃ w6, w5.setCell ⟨p + 1 + 1, 0, none⟩ (.int .i64 0) = w6 := ⟨_, rfl⟩
        rw [hw6] at S6 ⊢
        clear hw6 S5 hE hEf hS CI
        have hE := S6.out.cellE
        have hEf := S6.out.frozenE
        have hS := S6.out.cellS
        by_cases hji : j = i
        · subst hji
          have hpe := ptr_same ⟨p + 1, 1 + j, none⟩ w6
          have HX := Lib.hid (show xE zs [p0, p1, p2, p3] true true j j m least = 2 by unfold xE; rw [if_pos HQ.out, if_pos HPF.out, if_pos HPT.out, if_pos (.inl ⟨rfl, rfl⟩)])
          go_wp2_with fail
          have S7 := S6.out.err 2
          show Leaves _ _ _ _ _ _ _
          refine leave_no _ _ (p + 1) (p + 1 + 1) 2 _ _ ?_ ?_ (by omega) S7.cellE (by decide) S7.q (by simp [bkC]) ?_
          · rfl
          · rfl
          have hx : ¬ xE zs [p0, p1, p2, p3] true true j j m least = 0 := by rw [HX.out]; decide
          refine ⟨_, by rw [HX.out], ?_⟩
          rw [xZ_no hx, xP_no hx]
          exact fb_zero (bel_setCells S7.bel S7.le 0 _)
        · have hpe := S6.out.ptr_other (s := ⟨p + 1, 1 + j, none⟩) (d := ⟨p + 1, 1 + i, none⟩) (.inr rfl) (.inr rfl) (by intro e; injection e; omega)
          have CG := Lib.hid (fun V => givesP j V)
          by_cases hj2x : j = 2
          · have hjb : ((j : Int) != 2) = false := by subst hj2x; rfl
            have CG := Lib.hid (fun V => hjb ▸ CG.out V)
            clear hjb
            have HX := Lib.hid (show xE zs [p0, p1, p2, p3] true true j i m least = 2 by unfold xE; rw [if_pos HQ.out, if_pos HPF.out, if_pos HPT.out, if_pos (.inr (.inl ⟨rfl, by omega⟩))])
            clear hj2x
            go_wp2_with fail
            refine (CG.out _).mono ?_
            rintro e w7 ⟨rfl, rfl⟩
            go_wp2_with fail
            have S7 := S6.out.err 2
            show Leaves _ _ _ _ _ _ _
            refine leave_no _ _ (p + 1) (p + 1 + 1) 2 _ _ ?_ ?_ (by omega) S7.cellE (by decide) S7.q (by simp [bkC]) ?_
            · rfl
            · rfl
            have hx : ¬ xE zs [p0, p1, p2, p3] true true j i m least = 0 := by rw [HX.out]; decide
            refine ⟨_, by rw [HX.out], ?_⟩
            rw [xZ_no hx, xP_no hx]
            exact fb_zero (bel_setCells S7.bel S7.le 0 _)
          · have hjb : ((j : Int) != 2) = true := by simp; omega
            have CG := Lib.hid (fun V => hjb ▸ CG.out V)
            clear hjb
            by_cases hml : m < least
            · skip
              have HX := Lib.hid (show xE zs [p0, p1, p2, p3] true true j i m least = 2 by unfold xE; rw [if_pos HQ.out, if_pos HPF.out, if_pos HPT.out, if_pos (.inr (.inr hml))])
              go_wp2_with fail
              refine (CG.out _).mono ?_
              rintro e w7 ⟨rfl, rfl⟩
              go_wp2_with fail
              have S7 := S6.out.err 2
              show Leaves _ _ _ _ _ _ _
              refine leave_no _ _ (p + 1) (p + 1 + 1) 2 _ _ ?_ ?_ (by omega) S7.cellE (by decide) S7.q (by simp [bkC]) ?_
              · rfl
              · rfl
              have hx : ¬ xE zs [p0, p1, p2, p3] true true j i m least = 0 := by rw [HX.out]; decide
              refine ⟨_, by rw [HX.out], ?_⟩
              rw [xZ_no hx, xP_no hx]
              exact fb_zero (bel_setCells S7.bel S7.le 0 _)
            · skip
              obtain ⟨v, hv⟩ : ∃ v, List.getD [p0, p1, p2, p3] j 0 = v := ⟨_, rfl⟩
              obtain ⟨u, hu⟩ : ∃ u, List.getD [p0, p1, p2, p3] i 0 = u := ⟨_, rfl⟩
              have hv0 := (HPS.out j)
              have hu0 := (HPS.out i)
              rw [hv] at hv0
              rw [hu] at hu0
              have cF := (S6.out.cellP (k := j) hj2).1
              have cFf := (S6.out.cellP (k := j) hj2).2
              rw [hv] at cF
              have hno : ¬ ((true = true ∧ (j : Int) = i) ∨ (true = true ∧ (j : Int) = 2) ∨ m < least) := by
                rintro (h | h | h)
                · exact hji (by omega)
                · exact hj2x (by omega)
                · exact hml h
              have hbal : bal zs [p0, p1, p2, p3] true j = v := by unfold bal; rw [if_pos rfl, Int.toNat_natCast, hv]
              have hbal2 : bal zs [p0, p1, p2, p3] true i = u := by unfold bal; rw [if_pos rfl, Int.toNat_natCast, hu]
              by_cases hpoor : v < m
              · skip
                have HX := Lib.hid (show xE zs [p0, p1, p2, p3] true true j i m least = 13 by unfold xE; rw [if_pos HQ.out, if_pos HPF.out, if_pos HPT.out, if_neg hno, hbal, if_pos hpoor])
                have CS := Lib.hid (fun V => subN v m V hpoor)
                clear hno hbal hbal2 hv hu
                go_wp2_with fail
                refine (CG.out _).mono ?_
                rintro e w7 ⟨rfl, rfl⟩
                go_wp2_with fail
                refine (CS.out _).mono ?_
                rintro e w8 ⟨rfl, rfl⟩
                have S7 := (S6.out.setP j 0).err 13
                have hE8 := (S6.out.setP j 0).cellE
                have hEf8 := (S6.out.setP j 0).frozenE
                go_wp2_with fail
                show Leaves _ _ _ _ _ _ _
                refine leave_no _ _ (p + 1) (p + 1 + 1) 13 _ _ ?_ ?_ (by omega) S7.cellE (by decide) S7.q (by simp [bkC]) ?_
                · rfl
                · rfl
                have hx : ¬ xE zs [p0, p1, p2, p3] true true j i m least = 0 := by rw [HX.out]; decide
                refine ⟨_, by rw [HX.out], ?_⟩
                rw [xZ_no hx, xP_no hx]
                exact fb_zero (bel_setCells S7.bel S7.le 0 _)
              · skip
                have hle := (chk_ok HQ.out).2.2
                have hz0 := sum0 HZ.out
                have hp0 := sum0 HPS.out
                have hub := get_le_sum HPS.out i
                rw [hu] at hub
                have hvb := get_le_sum HPS.out j
                rw [hv] at hvb
                have CS := Lib.hid (fun V => subW v m V hv0.1 hv0.2 m0 (by omega))
                have CA := Lib.hid (fun V => addS u m V hu0.1 hu0.2 m0 m1 (by omega))
                have HX := Lib.hid (show xE zs [p0, p1, p2, p3] true true j i m least = 0 by unfold xE; rw [if_pos HQ.out, if_pos HPF.out, if_pos HPT.out, if_neg hno, hbal, if_neg hpoor])
                have HXZ := Lib.hid (show xZ zs [p0, p1, p2, p3] true true j i m least = zs by unfold xZ; rw [HX.out]; unfold okZ xZ'; rw [if_pos rfl, hbal, hbal2]; simp [putZ])
                have HXP := Lib.hid (show xP zs [p0, p1, p2, p3] true true j i m least = (([p0, p1, p2, p3].set j (v - m)).set i (u + m)) by unfold xP; rw [HX.out]; unfold okP xP'; rw [if_pos rfl, hbal, hbal2]; unfold putP; simp only [Int.toNat_natCast]; rfl)
                have S7 := Lib.hid ((S6.out.setP j (v - m)).err 0)
                have hE8 := (S6.out.setP j (v - m)).cellE
                have hEf8 := (S6.out.setP j (v - m)).frozenE
                have cT := Lib.hid (((S6.out.setP j (v - m)).err 0).cellP (k := i) (by simpa using hi2))
                have cT := Lib.hid (show _ ∧ _ from by have h := cT.out; rw [getD_set_ne _ _ hji, hu] at h; exact h)
                have HU := Lib.hid hu
                clear hno hbal hbal2 hv hu hub hvb hle hz0 hp0
                go_wp2_with fail
                refine (CG.out _).mono ?_
                rintro e w7 ⟨rfl, rfl⟩
                go_wp2_with fail
                refine (CS.out _).mono ?_
                rintro e w8 ⟨rfl, rfl⟩
                go_upto_region 12 with fail
                obtain ⟨w8, hw8⟩ : ∃ w8, (w6.setCell ⟨p + 1, 1 + j, none⟩ (.int .u64 (v - m))).setCell ⟨p + 1 + 1, 0, none⟩ (.int .i64 0) = w8 := ⟨_, rfl⟩
                rw [hw8] at S7 cT ⊢
                clear hw8 hE hEf hS cF cFf hE8 hEf8 hpe S6
                have hE := S7.out.cellE
                have hTf := cT.out.2
                have hT := cT.out.1
                go_wp2_with fail
                refine (CA.out _).mono ?_
                rintro e w9 ⟨rfl, k9⟩
                have S9 := Lib.hid (S7.out.kept k9)
                have S10 := S9.out.setP i (u + m)
                have hE9 := S10.cellE
                have hEf9 := S10.frozenE
                have hT9 := (S9.out.cellP (k := i) (by simpa using hi2)).1
                have hTf9 := (S9.out.cellP (k := i) (by simpa using hi2)).2
                rw [getD_set_ne _ _ hji, HU.out] at hT9
                have S10 := Lib.hid (S10.err 0)
                clear hE hT hTf cT
                go_wp2_with fail
                show Leaves _ _ _ _ _ _ _
                have S11 := S10.out
                refine leave_ok _ _ (p + 1) (p + 1 + 1) _ _ ?_ ?_ S11.cellE S11.q (by simp [bkC]) ?_
                · rfl
                · rfl
                refine ⟨_, by rw [HX.out], ?_⟩
                rw [HXZ.out, HXP.out]
                exact S11.fb' (by simp)
      · obtain ⟨e1, e2⟩ := plP_no hpt
        have HX := Lib.hid (show xE zs [p0, p1, p2, p3] true true j t m least = 3 by unfold xE; rw [if_pos HQ.out, if_pos HPF.out, if_neg hpt, e1])
        have CI := Lib.hid (poolIn_no (p + 1) t w5 e2)
        clear hpt e1 e2
        go_wp2_with fail
        refine CI.out.mono ?_
        rintro e w6 ⟨rfl, rfl⟩
        go_wp2_with fail
        have S6 := S5.out.err 3
        show Leaves _ _ _ _ _ _ _
        refine leave_no _ _ (p + 1) (p + 1 + 1) 3 _ _ ?_ ?_ (by omega) S6.cellE (by decide) S6.q rfl ?_
        · rfl
        · rfl
        have hx : ¬ xE zs [p0, p1, p2, p3] true true j t m least = 0 := by rw [HX.out]; decide
        refine ⟨_, by rw [HX.out], ?_⟩
        rw [xZ_no hx, xP_no hx]
        exact fb_zero (bel_setCells S6.bel S6.le 0 _)
    · obtain ⟨e1, e2⟩ := plP_no hpf
      have HX := Lib.hid (show xE zs [p0, p1, p2, p3] true true f t m least = 3 by unfold xE; rw [if_pos HQ.out, if_neg hpf, e1])
      have CI := Lib.hid (poolIn_no (p + 1) f w4 e2)
      clear hpf e1 e2
      go_wp2_with fail
      refine CI.out.mono ?_
      rintro e w5 ⟨rfl, rfl⟩
      go_wp2_with fail
      have S5 := S4.out.err 3
      show Leaves _ _ _ _ _ _ _
      refine leave_no _ _ (p + 1) (p + 1 + 1) 3 _ _ ?_ ?_ (by omega) S5.cellE (by decide) S5.q rfl ?_
      · rfl
      · rfl
      have hx : ¬ xE zs [p0, p1, p2, p3] true true f t m least = 0 := by rw [HX.out]; decide
      refine ⟨_, by rw [HX.out], ?_⟩
      rw [xZ_no hx, xP_no hx]
      exact fb_zero (bel_setCells S5.bel S5.le 0 _)
  · have hq1 : (q != 0) = true := by simpa using hq0
    go_wp2_with fail
    have QE := Q3.out.other (b' := p + 1 + 1) (by omega) 0 (.int .i64 q)
    have CE := cell_set E3.out (.int .i64 q)
    show Leaves _ _ _ _ _ _ _
    refine leave_chk _ _ (p + 1) (p + 1 + 1) q _ _ ?_ ?_ CE QE rfl ?_
    · rfl
    · rfl
    refine ⟨_, by rw [xE_chk HQ.out hq0], ?_⟩
    rw [xZ_chk HQ.out hq0, xP_chk HQ.out hq0]
    exact fb_zero (Kk.Bel.set (B0.out.trans (B02.out.trans B1.out)) (by rw [HP.out]; show p ≤ p + 1 + 1; omega) _)
end Bk
end Go.Proofs.Ytgdaojbflokmoaa
end
