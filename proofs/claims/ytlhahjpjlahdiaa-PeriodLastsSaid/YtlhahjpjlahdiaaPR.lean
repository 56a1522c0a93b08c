/-
  Texts of this claim, put together: Pr0, Pr1, Pr2, Pr3, PdV, PdK. What each one says, and under which conditions, stands ahead of it.
-/
import Derived.Test.YtlhahjpjlahdiaaPD
import Derived.Test.YtlhahjpjlahdiaaPE

section
/-
  What the reference's fine answer. Conditions: the eleven numbers are of their kinds.
-/
namespace Go.Proofs.Ytlhahjpjlahdiaa
open Go.RowKit Go.Shelf
set_option linter.unusedVariables false
namespace Pd
open Kk Pm

theorem fo_map {zs : List Int} {k : Nat} (h : ∀ j, j < k → wi (zs.getD j 0) = 0) (hk : k ≤ zs.length) : fo (zs.map wi) = fo ((zs.drop k).map wi) := by
  induction k with
  | zero => simp
  | succ k ih =>
    rw [ih (fun j hj => h j (by omega)) (by omega), List.drop_eq_getElem_cons (by omega)]
    have := h k (by omega)
    rw [getD_eq _ _ (by omega)] at this
    rw [List.map_cons, fo, if_pos this]
set_option maxRecDepth 100000 in
set_option maxHeartbeats 2000000 in
theorem fineR (x : Nat → Int) (hx : Kinds x) (A : Option Addr) (n c : Nat) (zs : List Int) (w : World) (hn : n ≤ 1000) (hi : Ints .i64 w A n zs) :
    Calls Try.prog 36 #[.agg (recC x).toArray, .slice A n c] w fun r w' => r = .returned (.int .i64 (er x (zs.map wi))) ∧ Bel w w' := by
  obtain ⟨D, hD⟩ : ∃ D, D = recC x := ⟨_, rfl⟩
  obtain ⟨W0, hW0⟩ : ∃ W0, w.alloc (.cells D.toArray 24) = W0 := ⟨_, rfl⟩
  have B0 := Lib.hid (show Bel w W0 by rw [← hW0]; exact (Bel.refl w).alloc _)
  have R0 := Lib.hid (show W0.rangeAt w.heap.size 0 D by rw [← hW0]; exact rngB (Blk.new w D.toArray 24))
  have RX := Lib.hid (show W0.rangeAt w.heap.size 0 (recC x) by rw [← hW0, hD]; exact rngB (Blk.new w (recC x).toArray 24))
  obtain ⟨p, hp⟩ : ∃ p, w.heap.size = p := ⟨_, rfl⟩
  rw [hp] at R0 RX
  have hDl : D.length = 11 := by rw [hD]; rfl
  have iD : (Try.prog.info? 24).map (·.size) = some D.length := by rw [hDl]; exact info_rec
  have CK := Lib.hid (checkR x hx)
  rw [← hD] at CK
  have HI := Lib.hid (hi.bel B0.out)
  have HL := Lib.hid hi.1
  rw [← hD]
  have HX := Lib.hid hx
  have HP := Lib.hid hp
  have HW0 := Lib.hid hW0
  clear hx hp hD hW0 hDl
  go_enter Try.func36, Try.ntmps36
  go_upto_region 1 with fail
  rw [HW0.out, HP.out]
  clear hi
  go_wp2_with (refine wpList_load_mid rfl 24 (.tmp 2) rfl p 0 rfl D _ R0.out Try.underlying24 rfl iD ?_)
  refine (CK.out W0).mono ?_
  rintro e w1 ⟨a, b, rfl, hC, k1⟩
  have HA := Lib.hid (ce_of hC)
  have B1 : Hid (Bel W0 w1) := Lib.hid k1
  have I1 := Lib.hid (HI.out.bel k1)
  clear k1 hC
  by_cases ha : a = 0
  · subst ha
    go_wp2_with fail
    go_loop [7] (fun u7 => ∃ k : Nat, u7 = .int .i64 k ∧ k ≤ n ∧ (∀ j, j < k → wi (zs.getD j 0) = 0)) (fun u7 => n - (intOf u7).toNat)
    case atStart => exact ⟨0, rfl, by omega, fun j hj => by omega⟩
    case round =>
      obtain ⟨k, rfl, hk, hall⟩ := hrel
      have HB := Lib.hid hall
      clear hall
      by_cases hlt : k < n
      · obtain ⟨b, o, rfl, _, hc⟩ := I1.out.cell hlt
        obtain ⟨v, hv⟩ : ∃ v, zs.getD k 0 = v := ⟨_, rfl⟩
        rw [hv] at hc
        have HV := Lib.hid hv
        have HE := Lib.hid (show wi v ≠ 0 → er x (zs.map wi) = 3 from fun h => by
          rw [er_rest HA.out.symm, fo_map HB.out (by rw [HL.out]; exact hk), List.drop_eq_getElem_cons (by rw [HL.out]; exact hlt)]
          have := HV.out
          rw [getD_eq _ _ (by rw [HL.out]; exact hlt)] at this
          rcases wi_cases v with h2 | h2
          · exact absurd h2.1 h
          · simp [fo, this, h2.1])
        clear hv
        rcases wi_cases v with ⟨h0, h1, h2⟩ | ⟨h0, h1⟩
        · have HZ := Lib.hid h0
          clear h0
          go_wp2_with fail
          refine ⟨⟨k + 1, by go_num, by omega, fun j hj => ?_⟩, ?_⟩
          · by_cases e : j = k
            · rw [e, HV.out]; exact HZ.out
            · exact HB.out j (by omega)
          · simp [intOf]; omega
        · have HR := Lib.hid (HE.out (by rw [h0]; decide))
          clear h0 HE
          by_cases hv1 : v < 1
          · go_wp2_with fail
            go_ret
            exact ⟨by rw [HR.out]; rfl, B0.out.trans B1.out⟩
          · have hv2 : 4294967296 < v := by omega
            go_wp2_with fail
            go_ret
            exact ⟨by rw [HR.out]; rfl, B0.out.trans B1.out⟩
      · obtain rfl : k = n := by omega
        have HR := Lib.hid (show er x (zs.map wi) = 0 by
          rw [er_rest HA.out.symm, fo_map HB.out (by rw [HL.out]; exact hk), List.drop_eq_nil_iff.2 (by rw [HL.out]; omega)]
          rfl)
        go_wp2_with fail
        go_ret
        exact ⟨by rw [HR.out]; rfl, B0.out.trans B1.out⟩
  · have HR := Lib.hid (show er x (zs.map wi) = a by rw [er_bad (by rw [← HA.out]; exact ha)]; exact HA.out.symm)
    go_wp2_with fail
    go_ret
    exact ⟨by rw [HR.out]; rfl, B0.out.trans B1.out⟩
end Pd
end Go.Proofs.Ytlhahjpjlahdiaa
end

section
/-
  What the reference's Epoch, Low, Floor and Until answer. Conditions: the eleven numbers are of their kinds.
-/
namespace Go.Proofs.Ytlhahjpjlahdiaa
open Go.RowKit Go.Shelf
set_option linter.unusedVariables false
namespace Pd
open Kk Pm

theorem lit1t (w : World) (a : Int) (t : TypeId) : Ints .i64 (w.alloc (.cells #[.int .i64 a] t)) (some ⟨w.heap.size, 0, none⟩) 1 [a] :=
  ⟨rfl, fun _ => ⟨w.heap.size, 0, rfl, by rw [World.size_alloc]; omega, fun i hi => by
    obtain rfl : i = 0 := by omega
    exact (Blk.new w _ _).cell 0 rfl⟩⟩

set_option maxRecDepth 100000 in
set_option maxHeartbeats 4000000 in
theorem epochR (x : Nat → Int) (hx : Kinds x) (h : Int) (w : World) :
    Calls Try.prog 9 #[.agg (recC x).toArray, .int .i64 h] w fun r w' => r = .returned (.tuple #[.int .i64 (epN x h), .int .i64 (e1 x h)]) ∧ Bel w w' := by
  obtain ⟨D, hD⟩ : ∃ D, D = recC x := ⟨_, rfl⟩
  obtain ⟨W0, hW0⟩ : ∃ W0, w.alloc (.cells D.toArray 24) = W0 := ⟨_, rfl⟩
  have B0 := Lib.hid (show Bel w W0 by rw [← hW0]; exact (Bel.refl w).alloc _)
  have R0 := Lib.hid (show W0.rangeAt w.heap.size 0 D by rw [← hW0]; exact rngB (Blk.new w D.toArray 24))
  have RX := Lib.hid (show W0.rangeAt w.heap.size 0 (recC x) by rw [← hW0, hD]; exact rngB (Blk.new w (recC x).toArray 24))
  obtain ⟨p, hp⟩ : ∃ p, w.heap.size = p := ⟨_, rfl⟩
  rw [hp] at R0 RX
  have hDl : D.length = 11 := by rw [hD]; rfl
  have iD : (Try.prog.info? 24).map (·.size) = some D.length := by rw [hDl]; exact info_rec
  obtain ⟨q, hq⟩ : ∃ q, er x [wi h] = q := ⟨_, rfl⟩
  have FC := Lib.hid (fun (V : World) (g : Nat) (hi : Ints .i64 V (some ⟨g, 0, none⟩) 1 [h]) => fineR x hx (some ⟨g, 0, none⟩) 1 1 [h] V (by omega) hi)
  rw [show er x (List.map wi [h]) = q from hq, ← hD] at FC
  have HQ := Lib.hid (show e1 x h = q from hq)
  clear hq
  rw [← hD]
  have HX := Lib.hid hx
  have HP := Lib.hid hp
  have HW0 := Lib.hid hW0
  clear hx hp hD hW0 hDl
  go_enter Try.func9, Try.ntmps9
  go_upto_region 1 with fail
  rw [HW0.out, HP.out]
  go_wp2_with (refine wpList_load_mid rfl 24 (.tmp 2) rfl p 0 rfl D _ R0.out Try.underlying24 rfl iD ?_)
  refine (FC.out _ _ (lit1t _ h _)).mono ?_
  rintro r w1 ⟨rfl, k1⟩
  have B1 := Lib.hid (((Bel.refl W0).alloc _).trans k1)
  have RY := Lib.hid (rng_bel RX.out B1.out)
  clear k1 FC
  by_cases h0 : q = 0
  · subst h0
    obtain ⟨hc, h1, h2⟩ := e1_zero HQ.out
    have HFt := Lib.hid (fit_of HX.out hc)
    have HV := Lib.hid (show epN x h = _ from if_pos HQ.out)
    clear hc
    have c2 := rec_cell RY.out 2 (by omega)
    rw [show kd 2 = .i64 from rfl] at c2
    obtain ⟨n, hn⟩ : ∃ n, x 2 = n := ⟨_, rfl⟩
    have b2 := HFt.out.len
    rw [hn] at c2 b2
    have HN := Lib.hid hn
    have q0 : (h - 1).tdiv n = (h - 1) / n := Int.tdiv_eq_ediv_of_nonneg (by omega)
    have q1 : 0 ≤ (h - 1) / n := Int.ediv_nonneg (by omega) (by omega)
    have q2 : (h - 1) / n ≤ h - 1 := Int.ediv_le_self _ (by omega)
    obtain ⟨d, hd⟩ : ∃ d, (h - 1) / n = d := ⟨_, rfl⟩
    rw [hd] at q0 q1 q2
    have HD := Lib.hid hd
    have n0 : n ≠ 0 := by omega
    clear hn hd b2
    go_wp2_with fail
    go_ret2
    exact ⟨by rw [HV.out, HQ.out, HN.out, HD.out]; rfl, B0.out.trans B1.out⟩
  · have HV := Lib.hid (show epN x h = 0 from if_neg (by rw [HQ.out]; exact h0))
    go_wp2_with fail
    go_ret2
    exact ⟨by rw [HV.out, HQ.out]; rfl, B0.out.trans B1.out⟩

set_option maxRecDepth 100000 in
set_option maxHeartbeats 4000000 in
theorem floorR (x : Nat → Int) (hx : Kinds x) (h : Int) (w : World) :
    Calls Try.prog 13 #[.agg (recC x).toArray, .int .i64 h] w fun r w' => r = .returned (.tuple #[.int .i64 (flN x h), .int .i64 (e1 x h)]) ∧ Bel w w' := by
  obtain ⟨D, hD⟩ : ∃ D, D = recC x := ⟨_, rfl⟩
  obtain ⟨W0, hW0⟩ : ∃ W0, w.alloc (.cells D.toArray 24) = W0 := ⟨_, rfl⟩
  have B0 := Lib.hid (show Bel w W0 by rw [← hW0]; exact (Bel.refl w).alloc _)
  have R0 := Lib.hid (show W0.rangeAt w.heap.size 0 D by rw [← hW0]; exact rngB (Blk.new w D.toArray 24))
  have RX := Lib.hid (show W0.rangeAt w.heap.size 0 (recC x) by rw [← hW0, hD]; exact rngB (Blk.new w (recC x).toArray 24))
  obtain ⟨p, hp⟩ : ∃ p, w.heap.size = p := ⟨_, rfl⟩
  rw [hp] at R0 RX
  have hDl : D.length = 11 := by rw [hD]; rfl
  have iD : (Try.prog.info? 24).map (·.size) = some D.length := by rw [hDl]; exact info_rec
  obtain ⟨q, hq⟩ : ∃ q, er x [wi h] = q := ⟨_, rfl⟩
  have FC := Lib.hid (fun (V : World) (g : Nat) (hi : Ints .i64 V (some ⟨g, 0, none⟩) 1 [h]) => fineR x hx (some ⟨g, 0, none⟩) 1 1 [h] V (by omega) hi)
  rw [show er x (List.map wi [h]) = q from hq, ← hD] at FC
  have HQ := Lib.hid (show e1 x h = q from hq)
  clear hq
  rw [← hD]
  have HX := Lib.hid hx
  have HP := Lib.hid hp
  have HW0 := Lib.hid hW0
  clear hx hp hD hW0 hDl
  go_enter Try.func13, Try.ntmps13
  go_upto_region 1 with fail
  rw [HW0.out, HP.out]
  go_wp2_with (refine wpList_load_mid rfl 24 (.tmp 2) rfl p 0 rfl D _ R0.out Try.underlying24 rfl iD ?_)
  refine (FC.out _ _ (lit1t _ h _)).mono ?_
  rintro r w1 ⟨rfl, k1⟩
  have B1 := Lib.hid (((Bel.refl W0).alloc _).trans k1)
  have RY := Lib.hid (rng_bel RX.out B1.out)
  clear k1 FC
  by_cases h0 : q = 0
  · subst h0
    obtain ⟨hc, h1, h2⟩ := e1_zero HQ.out
    have HFt := Lib.hid (fit_of HX.out hc)
    have HV := Lib.hid (show flN x h = _ from if_pos HQ.out)
    clear hc
    have c2 := rec_cell RY.out 2 (by omega)
    rw [show kd 2 = .i64 from rfl] at c2
    have c3 := rec_cell RY.out 3 (by omega)
    rw [show kd 3 = .i64 from rfl] at c3
    obtain ⟨l, hl⟩ : ∃ l, x 2 = l := ⟨_, rfl⟩
    obtain ⟨m, hm⟩ : ∃ m, x 3 = m := ⟨_, rfl⟩
    have b2 := HFt.out.len
    have b3 := HFt.out.win
    rw [hl] at c2 b2
    rw [hm] at c3 b3
    have HL := Lib.hid hl
    have HM := Lib.hid hm
    have z0 : 1 ≤ m * l := Int.mul_pos (by omega) (by omega)
    have z1 : m * l ≤ 256 * 1000 := Int.mul_le_mul b3.2 b2.2 (by omega) (by omega)
    obtain ⟨k, hk⟩ : ∃ k, m * l = k := ⟨_, rfl⟩
    rw [hk] at z0 z1
    have HK := Lib.hid hk
    have q1 : IntKind.i64.wrap (m * l) = k := by rw [hk]; exact wrapI _ (by omega) (by omega)
    clear hl hm hk b2 b3
    have HR := Lib.hid (show flN x h = max (h - k + 1) 1 by rw [HV.out, HL.out, HM.out, HK.out])
    clear HV
    have HR1 := Lib.hid (fun (hb : h - k + 1 ≤ 1) => HR.out.trans (show max (h - k + 1) 1 = 1 by omega))
    have HR2 := Lib.hid (fun (hb : 1 ≤ h - k + 1) => HR.out.trans (show max (h - k + 1) 1 = h - k + 1 by omega))
    go_wp2_with fail
    all_goals go_ret2
    all_goals first
      | exact ⟨by rw [HR1.out (by omega), HQ.out]; rfl, B0.out.trans B1.out⟩
      | exact ⟨by rw [HR2.out (by omega), HQ.out]; rfl, B0.out.trans B1.out⟩
  · have HV := Lib.hid (show flN x h = 0 from if_neg (by rw [HQ.out]; exact h0))
    go_wp2_with fail
    go_ret2
    exact ⟨by rw [HV.out, HQ.out]; rfl, B0.out.trans B1.out⟩

set_option maxRecDepth 100000 in
set_option maxHeartbeats 4000000 in
theorem untilR (x : Nat → Int) (hx : Kinds x) (h : Int) (w : World) :
    Calls Try.prog 15 #[.agg (recC x).toArray, .int .i64 h] w fun r w' => r = .returned (.tuple #[.int .i64 (unN x h), .int .i64 (e1 x h)]) ∧ Bel w w' := by
  obtain ⟨D, hD⟩ : ∃ D, D = recC x := ⟨_, rfl⟩
  obtain ⟨W0, hW0⟩ : ∃ W0, w.alloc (.cells D.toArray 24) = W0 := ⟨_, rfl⟩
  have B0 := Lib.hid (show Bel w W0 by rw [← hW0]; exact (Bel.refl w).alloc _)
  have R0 := Lib.hid (show W0.rangeAt w.heap.size 0 D by rw [← hW0]; exact rngB (Blk.new w D.toArray 24))
  have RX := Lib.hid (show W0.rangeAt w.heap.size 0 (recC x) by rw [← hW0, hD]; exact rngB (Blk.new w (recC x).toArray 24))
  obtain ⟨p, hp⟩ : ∃ p, w.heap.size = p := ⟨_, rfl⟩
  rw [hp] at R0 RX
  have hDl : D.length = 11 := by rw [hD]; rfl
  have iD : (Try.prog.info? 24).map (·.size) = some D.length := by rw [hDl]; exact info_rec
  obtain ⟨q, hq⟩ : ∃ q, er x [wi h] = q := ⟨_, rfl⟩
  have FC := Lib.hid (fun (V : World) (g : Nat) (hi : Ints .i64 V (some ⟨g, 0, none⟩) 1 [h]) => fineR x hx (some ⟨g, 0, none⟩) 1 1 [h] V (by omega) hi)
  rw [show er x (List.map wi [h]) = q from hq, ← hD] at FC
  have HQ := Lib.hid (show e1 x h = q from hq)
  clear hq
  rw [← hD]
  have HX := Lib.hid hx
  have HP := Lib.hid hp
  have HW0 := Lib.hid hW0
  clear hx hp hD hW0 hDl
  go_enter Try.func15, Try.ntmps15
  go_upto_region 1 with fail
  rw [HW0.out, HP.out]
  go_wp2_with (refine wpList_load_mid rfl 24 (.tmp 2) rfl p 0 rfl D _ R0.out Try.underlying24 rfl iD ?_)
  refine (FC.out _ _ (lit1t _ h _)).mono ?_
  rintro r w1 ⟨rfl, k1⟩
  have B1 := Lib.hid (((Bel.refl W0).alloc _).trans k1)
  have RY := Lib.hid (rng_bel RX.out B1.out)
  clear k1 FC
  by_cases h0 : q = 0
  · subst h0
    obtain ⟨hc, h1, h2⟩ := e1_zero HQ.out
    have HFt := Lib.hid (fit_of HX.out hc)
    have HV := Lib.hid (show unN x h = _ from if_pos HQ.out)
    clear hc
    have c6 := rec_cell RY.out 6 (by omega)
    rw [show kd 6 = .i64 from rfl] at c6
    obtain ⟨m, hm⟩ : ∃ m, x 6 = m := ⟨_, rfl⟩
    have b3 := HFt.out.jail
    rw [hm] at c6 b3
    have HM := Lib.hid hm
    clear hm
    go_wp2_with fail
    go_ret2
    exact ⟨by rw [HV.out, HQ.out, HM.out]; rfl, B0.out.trans B1.out⟩
  · have HV := Lib.hid (show unN x h = 0 from if_neg (by rw [HQ.out]; exact h0))
    go_wp2_with fail
    go_ret2
    exact ⟨by rw [HV.out, HQ.out]; rfl, B0.out.trans B1.out⟩

set_option maxRecDepth 100000 in
set_option maxHeartbeats 4000000 in
theorem lowR (x : Nat → Int) (hx : Kinds x) (h : Int) (w : World) :
    Calls Try.prog 11 #[.agg (recC x).toArray, .int .i64 h] w fun r w' => r = .returned (.tuple #[.int .i64 (lowN x h), .int .i64 (e1 x h)]) ∧ Bel w w' := by
  obtain ⟨D, hD⟩ : ∃ D, D = recC x := ⟨_, rfl⟩
  obtain ⟨W0, hW0⟩ : ∃ W0, w.alloc (.cells D.toArray 24) = W0 := ⟨_, rfl⟩
  have B0 := Lib.hid (show Bel w W0 by rw [← hW0]; exact (Bel.refl w).alloc _)
  have R0 := Lib.hid (show W0.rangeAt w.heap.size 0 D by rw [← hW0]; exact rngB (Blk.new w D.toArray 24))
  have RX := Lib.hid (show W0.rangeAt w.heap.size 0 (recC x) by rw [← hW0, hD]; exact rngB (Blk.new w (recC x).toArray 24))
  obtain ⟨p, hp⟩ : ∃ p, w.heap.size = p := ⟨_, rfl⟩
  rw [hp] at R0 RX
  have hDl : D.length = 11 := by rw [hD]; rfl
  have iD : (Try.prog.info? 24).map (·.size) = some D.length := by rw [hDl]; exact info_rec
  obtain ⟨n, hn⟩ : ∃ n, epN x h = n := ⟨_, rfl⟩
  obtain ⟨q, hq⟩ : ∃ q, e1 x h = q := ⟨_, rfl⟩
  have EC := Lib.hid (fun V => epochR x hx h V)
  rw [← hD, hn, hq] at EC
  have HQ := Lib.hid hq
  have HN := Lib.hid hn
  clear hq hn
  rw [← hD]
  have HX := Lib.hid hx
  have HP := Lib.hid hp
  have HW0 := Lib.hid hW0
  clear hx hp hD hW0 hDl
  go_enter Try.func11, Try.ntmps11
  go_upto_region 1 with fail
  rw [HW0.out, HP.out]
  go_wp2_with (refine wpList_load_mid rfl 24 (.tmp 2) rfl p 0 rfl D _ R0.out Try.underlying24 rfl iD ?_)
  refine (EC.out _).mono ?_
  rintro r w1 ⟨rfl, k1⟩
  have B1 : Hid (Bel W0 w1) := Lib.hid k1
  have RY := Lib.hid (rng_bel RX.out k1)
  clear k1 EC
  by_cases h0 : q = 0
  · subst h0
    obtain ⟨hc, h1, h2⟩ := e1_zero HQ.out
    have HFt := Lib.hid (fit_of HX.out hc)
    have HNV : epN x h = (h - 1) / x 2 := if_pos HQ.out
    have q1 : 0 ≤ (h - 1) / x 2 := Int.ediv_nonneg (by omega) (by have := HFt.out.len; omega)
    have q2 : (h - 1) / x 2 ≤ h - 1 := Int.ediv_le_self _ (by omega)
    rw [← HNV, HN.out] at q1 q2
    have HV := Lib.hid (show lowN x h = max (n - x 3 + 1) 0 by unfold lowN; rw [if_pos HQ.out, ← HNV, HN.out])
    have c3 := rec_cell RY.out 3 (by omega)
    rw [show kd 3 = .i64 from rfl] at c3
    obtain ⟨m, hm⟩ : ∃ m, x 3 = m := ⟨_, rfl⟩
    have b3 := HFt.out.win
    rw [hm] at c3 b3
    have HM := Lib.hid hm
    clear hc hm HNV
    have HR1 := Lib.hid (fun (hb : n - m + 1 ≤ 0) => HV.out.trans (show max (n - x 3 + 1) 0 = 0 by rw [HM.out]; omega))
    have HR2 := Lib.hid (fun (hb : 0 ≤ n - m + 1) => HV.out.trans (show max (n - x 3 + 1) 0 = n - m + 1 by rw [HM.out]; omega))
    go_wp2_with fail
    all_goals go_ret2
    all_goals first
      | exact ⟨by rw [HR1.out (by omega), HQ.out]; rfl, B0.out.trans B1.out⟩
      | exact ⟨by rw [HR2.out (by omega), HQ.out]; rfl, B0.out.trans B1.out⟩
  · have HV := Lib.hid (show lowN x h = 0 from if_neg (by rw [HQ.out]; exact h0))
    go_wp2_with fail
    go_ret2
    exact ⟨by rw [HV.out, HQ.out]; rfl, B0.out.trans B1.out⟩
end Pd
end Go.Proofs.Ytlhahjpjlahdiaa
end

section
/-
  What the reference's First and Last answer. Conditions: the eleven numbers are of their kinds.
-/
namespace Go.Proofs.Ytlhahjpjlahdiaa
open Go.RowKit Go.Shelf
set_option linter.unusedVariables false
namespace Pd
open Kk Pm

theorem eF_ok {x : Nat → Int} {e : Int} (h : eF x e = 0) : ce x = 0 ∧ 0 ≤ e ∧ e ≤ 4294967296 ∧ 1 ≤ e * x 2 + 1 ∧ e * x 2 + 1 ≤ 4294967296 := by
  unfold eF at h
  by_cases h1 : er x [we e] = 0
  · rw [if_pos h1] at h
    obtain ⟨h2, h3⟩ := er_zero h1
    rw [fo1] at h3
    rcases we_cases e with h4 | h4
    · rcases wi_cases (e * x 2 + 1) with h5 | h5
      · exact ⟨h2, h4.2.1, h4.2.2, h5.2⟩
      · omega
    · omega
  · rw [if_neg h1] at h
    exact absurd h h1
theorem eF_in {x : Nat → Int} {e : Int} (h : ce x = 0) (h1 : 0 ≤ e) (h2 : e ≤ 4294967296) : eF x e = wi (e * x 2 + 1) := by
  unfold eF
  rw [if_pos (er_ok h (by rw [fo1]; unfold we; rw [if_pos ⟨h1, h2⟩]))]
theorem eF_out {x : Nat → Int} {e : Int} (h : ce x = 0) (h1 : ¬ (0 ≤ e ∧ e ≤ 4294967296)) : eF x e = 3 := by
  have h2 : er x [we e] = 3 := by rw [er_rest h, fo1]; unfold we; rw [if_neg h1]
  unfold eF
  rw [h2, if_neg (by decide)]
theorem eF_bad {x : Nat → Int} {e : Int} (h : ce x ≠ 0) : eF x e = ce x := by
  have h2 : er x [we e] = ce x := er_bad h
  unfold eF
  rw [h2, if_neg h]

set_option maxRecDepth 100000 in
set_option maxHeartbeats 4000000 in
theorem firstR (x : Nat → Int) (hx : Kinds x) (e : Int) (w : World) :
    Calls Try.prog 17 #[.agg (recC x).toArray, .int .i64 e] w fun r w' => r = .returned (.tuple #[.int .i64 (fiN x e), .int .i64 (eF x e)]) ∧ Bel w w' := by
  obtain ⟨D, hD⟩ : ∃ D, D = recC x := ⟨_, rfl⟩
  obtain ⟨W0, hW0⟩ : ∃ W0, w.alloc (.cells D.toArray 24) = W0 := ⟨_, rfl⟩
  have B0 := Lib.hid (show Bel w W0 by rw [← hW0]; exact (Bel.refl w).alloc _)
  have R0 := Lib.hid (show W0.rangeAt w.heap.size 0 D by rw [← hW0]; exact rngB (Blk.new w D.toArray 24))
  have RX := Lib.hid (show W0.rangeAt w.heap.size 0 (recC x) by rw [← hW0, hD]; exact rngB (Blk.new w (recC x).toArray 24))
  obtain ⟨p, hp⟩ : ∃ p, w.heap.size = p := ⟨_, rfl⟩
  rw [hp] at R0 RX
  have hDl : D.length = 11 := by rw [hD]; rfl
  have iD : (Try.prog.info? 24).map (·.size) = some D.length := by rw [hDl]; exact info_rec
  obtain ⟨q, hq⟩ : ∃ q, ce x = q := ⟨_, rfl⟩
  have FC := Lib.hid (fun (V : World) => fineR x hx none 0 0 [] V (by omega) Ints.nil_)
  rw [show er x (List.map wi []) = q by rw [← hq]; simp only [er, fo, List.map_nil]; split <;> simp_all, ← hD] at FC
  have HQ := Lib.hid hq
  clear hq
  rw [← hD]
  have HX := Lib.hid hx
  have HP := Lib.hid hp
  have HW0 := Lib.hid hW0
  clear hx hp hD hW0 hDl
  go_enter Try.func17, Try.ntmps17
  go_upto_region 1 with fail
  rw [HW0.out, HP.out]
  go_wp2_with (refine wpList_load_mid rfl 24 (.tmp 2) rfl p 0 rfl D _ R0.out Try.underlying24 rfl iD ?_)
  refine (FC.out _).mono ?_
  rintro r w1 ⟨rfl, k1⟩
  have B1 : Hid (Bel W0 w1) := Lib.hid k1
  have RY := Lib.hid (rng_bel RX.out k1)
  clear k1 FC
  by_cases h0 : q = 0
  · subst h0
    have HFt := Lib.hid (fit_of HX.out HQ.out)
    by_cases he : 0 ≤ e ∧ e ≤ 4294967296
    · obtain ⟨he1, he2⟩ := he
      have c2 := rec_cell RY.out 2 (by omega)
      rw [show kd 2 = .i64 from rfl] at c2
      obtain ⟨l, hl⟩ : ∃ l, x 2 = l := ⟨_, rfl⟩
      have b2 := HFt.out.len
      have HE := Lib.hid (eF_in HQ.out he1 he2)
      rw [hl] at c2 b2 HE
      have z0 : 0 ≤ e * l := Int.mul_nonneg he1 (by omega)
      have z1 : e * l ≤ 4294967296 * 1000 := Int.mul_le_mul he2 b2.2 (by omega) (by omega)
      have HL := Lib.hid hl
      obtain ⟨k, hk⟩ : ∃ k, e * l = k := ⟨_, rfl⟩
      rw [hk] at z0 z1 HE
      have q1 : IntKind.i64.wrap (e * l) = k := by rw [hk]; exact wrapI _ (by omega) (by omega)
      have HK := Lib.hid hk
      clear hl hk b2
      rcases wi_cases (k + 1) with ⟨h1, h2, h3⟩ | ⟨h1, h2⟩
      · have HE0 := Lib.hid (HE.out.trans h1)
        have HV := Lib.hid (show fiN x e = k + 1 by unfold fiN; rw [if_pos HE0.out, HL.out, HK.out])
        clear h1
        go_wp2_with fail
        go_ret2
        exact ⟨by rw [HV.out, HE0.out]; rfl, B0.out.trans B1.out⟩
      · have HE0 := Lib.hid (HE.out.trans h1)
        have HV := Lib.hid (show fiN x e = 0 from if_neg (by rw [HE0.out]; decide))
        clear h1
        go_wp2_with fail
        go_ret2
        exact ⟨by rw [HV.out, HE0.out]; rfl, B0.out.trans B1.out⟩
    · have HE0 := Lib.hid (eF_out HQ.out he)
      have HV := Lib.hid (show fiN x e = 0 from if_neg (by rw [HE0.out]; decide))
      by_cases he1 : e < 0
      · go_wp2_with fail
        go_ret2
        exact ⟨by rw [HV.out, HE0.out]; rfl, B0.out.trans B1.out⟩
      · have he2 : 4294967296 < e := by omega
        go_wp2_with fail
        go_ret2
        exact ⟨by rw [HV.out, HE0.out]; rfl, B0.out.trans B1.out⟩
  · have HE0 := Lib.hid (show eF x e = q from (eF_bad (by rw [HQ.out]; exact h0)).trans HQ.out)
    have HV := Lib.hid (show fiN x e = 0 from if_neg (by rw [HE0.out]; exact h0))
    go_wp2_with fail
    go_ret2
    exact ⟨by rw [HV.out, HE0.out]; rfl, B0.out.trans B1.out⟩

set_option maxRecDepth 100000 in
set_option maxHeartbeats 4000000 in
theorem lastR (x : Nat → Int) (hx : Kinds x) (e : Int) (w : World) :
    Calls Try.prog 19 #[.agg (recC x).toArray, .int .i64 e] w fun r w' => r = .returned (.tuple #[.int .i64 (laN x e), .int .i64 (eF x e)]) ∧ Bel w w' := by
  obtain ⟨D, hD⟩ : ∃ D, D = recC x := ⟨_, rfl⟩
  obtain ⟨W0, hW0⟩ : ∃ W0, w.alloc (.cells D.toArray 24) = W0 := ⟨_, rfl⟩
  have B0 := Lib.hid (show Bel w W0 by rw [← hW0]; exact (Bel.refl w).alloc _)
  have R0 := Lib.hid (show W0.rangeAt w.heap.size 0 D by rw [← hW0]; exact rngB (Blk.new w D.toArray 24))
  have RX := Lib.hid (show W0.rangeAt w.heap.size 0 (recC x) by rw [← hW0, hD]; exact rngB (Blk.new w (recC x).toArray 24))
  obtain ⟨p, hp⟩ : ∃ p, w.heap.size = p := ⟨_, rfl⟩
  rw [hp] at R0 RX
  have hDl : D.length = 11 := by rw [hD]; rfl
  have iD : (Try.prog.info? 24).map (·.size) = some D.length := by rw [hDl]; exact info_rec
  obtain ⟨n, hn⟩ : ∃ n, fiN x e = n := ⟨_, rfl⟩
  obtain ⟨q, hq⟩ : ∃ q, eF x e = q := ⟨_, rfl⟩
  have EC := Lib.hid (fun V => firstR x hx e V)
  rw [← hD, hn, hq] at EC
  have HQ := Lib.hid hq
  clear hq hn
  rw [← hD]
  have HX := Lib.hid hx
  have HP := Lib.hid hp
  have HW0 := Lib.hid hW0
  clear hx hp hD hW0 hDl
  go_enter Try.func19, Try.ntmps19
  go_upto_region 1 with fail
  rw [HW0.out, HP.out]
  go_wp2_with (refine wpList_load_mid rfl 24 (.tmp 2) rfl p 0 rfl D _ R0.out Try.underlying24 rfl iD ?_)
  refine (EC.out _).mono ?_
  rintro r w1 ⟨rfl, k1⟩
  have B1 : Hid (Bel W0 w1) := Lib.hid k1
  have RY := Lib.hid (rng_bel RX.out k1)
  clear k1 EC
  by_cases h0 : q = 0
  · subst h0
    obtain ⟨hc, h1, h2, h3, h4⟩ := eF_ok HQ.out
    have HFt := Lib.hid (fit_of HX.out hc)
    have HV := Lib.hid (show laN x e = min ((e + 1) * x 2) 4294967296 from if_pos HQ.out)
    have c2 := rec_cell RY.out 2 (by omega)
    rw [show kd 2 = .i64 from rfl] at c2
    obtain ⟨l, hl⟩ : ∃ l, x 2 = l := ⟨_, rfl⟩
    have b2 := HFt.out.len
    rw [hl] at c2 b2 h3 h4 HV
    have z2 : (e + 1) * l = e * l + l := by rw [Int.add_mul, Int.one_mul]
    obtain ⟨k, hk⟩ : ∃ k, e * l = k := ⟨_, rfl⟩
    rw [hk] at z2 h3 h4
    have q2 : IntKind.i64.wrap ((e + 1) * l) = k + l := by rw [z2]; exact wrapI _ (by omega) (by omega)
    rw [z2] at HV
    clear hc hl hk z2
    have HR1 := Lib.hid (fun (hb : k + l ≤ 4294967296) => HV.out.trans (show min (k + l) 4294967296 = k + l by omega))
    have HR2 := Lib.hid (fun (hb : 4294967296 ≤ k + l) => HV.out.trans (show min (k + l) 4294967296 = 4294967296 by omega))
    go_wp2_with fail
    all_goals go_ret2
    all_goals first
      | exact ⟨by rw [HR1.out (by omega), HQ.out]; rfl, B0.out.trans B1.out⟩
      | exact ⟨by rw [HR2.out (by omega), HQ.out]; rfl, B0.out.trans B1.out⟩
  · have HV := Lib.hid (show laN x e = 0 from if_neg (by rw [HQ.out]; exact h0))
    go_wp2_with fail
    go_ret2
    exact ⟨by rw [HV.out, HQ.out]; rfl, B0.out.trans B1.out⟩
end Pd
end Go.Proofs.Ytlhahjpjlahdiaa
end

section
/-
  What the reference's Ripe, Alive, Noted and Aged answer. Conditions: the eleven numbers are of their kinds.
-/
namespace Go.Proofs.Ytlhahjpjlahdiaa
open Go.RowKit Go.Shelf
set_option linter.unusedVariables false
namespace Pd
open Kk Pm

set_option maxRecDepth 100000 in
set_option maxHeartbeats 4000000 in
theorem ripeR (x : Nat → Int) (hx : Kinds x) (c h : Int) (w : World) :
    Calls Try.prog 22 #[.agg (recC x).toArray, .int .i64 c, .int .i64 h] w fun r w' => r = .returned (.tuple #[.bool (ripB x c h), .int .i64 (e2 x c h)]) ∧ Bel w w' := by
  obtain ⟨D, hD⟩ : ∃ D, D = recC x := ⟨_, rfl⟩
  obtain ⟨W0, hW0⟩ : ∃ W0, w.alloc (.cells D.toArray 24) = W0 := ⟨_, rfl⟩
  have B0 := Lib.hid (show Bel w W0 by rw [← hW0]; exact (Bel.refl w).alloc _)
  have R0 := Lib.hid (show W0.rangeAt w.heap.size 0 D by rw [← hW0]; exact rngB (Blk.new w D.toArray 24))
  have RX := Lib.hid (show W0.rangeAt w.heap.size 0 (recC x) by rw [← hW0, hD]; exact rngB (Blk.new w (recC x).toArray 24))
  obtain ⟨p, hp⟩ : ∃ p, w.heap.size = p := ⟨_, rfl⟩
  rw [hp] at R0 RX
  have hDl : D.length = 11 := by rw [hD]; rfl
  have iD : (Try.prog.info? 24).map (·.size) = some D.length := by rw [hDl]; exact info_rec
  obtain ⟨q, hq⟩ : ∃ q, er x [wi c, wi h] = q := ⟨_, rfl⟩
  have FC := Lib.hid (fun (V : World) (g : Nat) (hi : Ints .i64 V (some ⟨g, 0, none⟩) 2 [c, h]) => fineR x hx (some ⟨g, 0, none⟩) 2 2 [c, h] V (by omega) hi)
  rw [show er x (List.map wi [c, h]) = q from hq, ← hD] at FC
  have HQ := Lib.hid (show e2 x c h = q from hq)
  clear hq
  rw [← hD]
  have HX := Lib.hid hx
  have HP := Lib.hid hp
  have HW0 := Lib.hid hW0
  clear hx hp hD hW0 hDl
  go_enter Try.func22, Try.ntmps22
  go_upto_region 1 with fail
  rw [HW0.out, HP.out]
  go_wp2_with (refine wpList_load_mid rfl 24 (.tmp 3) rfl p 0 rfl D _ R0.out Try.underlying24 rfl iD ?_)
  refine (FC.out _ _ (lit2 _ c h _)).mono ?_
  rintro r w1 ⟨rfl, k1⟩
  have B1 := Lib.hid (((Bel.refl W0).alloc _).trans k1)
  have RY := Lib.hid (rng_bel RX.out B1.out)
  clear k1 FC
  by_cases h0 : q = 0
  · subst h0
    obtain ⟨hc, h1, h2, h3, h4⟩ := e2_zero HQ.out
    have HFt := Lib.hid (fit_of HX.out hc)
    clear hc
    have c0 := rec_cell RY.out 0 (by omega)
    rw [show kd 0 = .i64 from rfl] at c0
    obtain ⟨m, hm⟩ : ∃ m, x 0 = m := ⟨_, rfl⟩
    have b2 := HFt.out.ub
    rw [hm] at c0 b2
    have HV := Lib.hid (show ripB x c h = decide (c + m ≤ h) by
      unfold ripB
      rw [HQ.out, hm]
      simp only [decide_true, Bool.true_and, decide_eq_decide]
      omega)
    clear hm
    go_wp2_with fail
    go_ret2
    exact ⟨by rw [HV.out, HQ.out]; rfl, B0.out.trans B1.out⟩
  · have hb : (q == 0) = false := by simpa using h0
    have HV := Lib.hid (show ripB x c h = false by unfold ripB; rw [HQ.out, decide_eq_false h0]; rfl)
    go_wp2_with fail
    go_ret2
    exact ⟨by rw [HV.out, HQ.out]; rfl, B0.out.trans B1.out⟩

set_option maxRecDepth 100000 in
set_option maxHeartbeats 4000000 in
theorem aliveR (x : Nat → Int) (hx : Kinds x) (c h : Int) (w : World) :
    Calls Try.prog 24 #[.agg (recC x).toArray, .int .i64 c, .int .i64 h] w fun r w' => r = .returned (.tuple #[.bool (aliB x c h), .int .i64 (e2 x c h)]) ∧ Bel w w' := by
  obtain ⟨D, hD⟩ : ∃ D, D = recC x := ⟨_, rfl⟩
  obtain ⟨W0, hW0⟩ : ∃ W0, w.alloc (.cells D.toArray 24) = W0 := ⟨_, rfl⟩
  have B0 := Lib.hid (show Bel w W0 by rw [← hW0]; exact (Bel.refl w).alloc _)
  have R0 := Lib.hid (show W0.rangeAt w.heap.size 0 D by rw [← hW0]; exact rngB (Blk.new w D.toArray 24))
  have RX := Lib.hid (show W0.rangeAt w.heap.size 0 (recC x) by rw [← hW0, hD]; exact rngB (Blk.new w (recC x).toArray 24))
  obtain ⟨p, hp⟩ : ∃ p, w.heap.size = p := ⟨_, rfl⟩
  rw [hp] at R0 RX
  have hDl : D.length = 11 := by rw [hD]; rfl
  have iD : (Try.prog.info? 24).map (·.size) = some D.length := by rw [hDl]; exact info_rec
  obtain ⟨q, hq⟩ : ∃ q, er x [wi c, wi h] = q := ⟨_, rfl⟩
  have FC := Lib.hid (fun (V : World) (g : Nat) (hi : Ints .i64 V (some ⟨g, 0, none⟩) 2 [c, h]) => fineR x hx (some ⟨g, 0, none⟩) 2 2 [c, h] V (by omega) hi)
  rw [show er x (List.map wi [c, h]) = q from hq, ← hD] at FC
  have HQ := Lib.hid (show e2 x c h = q from hq)
  clear hq
  rw [← hD]
  have HX := Lib.hid hx
  have HP := Lib.hid hp
  have HW0 := Lib.hid hW0
  clear hx hp hD hW0 hDl
  go_enter Try.func24, Try.ntmps24
  go_upto_region 1 with fail
  rw [HW0.out, HP.out]
  go_wp2_with (refine wpList_load_mid rfl 24 (.tmp 3) rfl p 0 rfl D _ R0.out Try.underlying24 rfl iD ?_)
  refine (FC.out _ _ (lit2 _ c h _)).mono ?_
  rintro r w1 ⟨rfl, k1⟩
  have B1 := Lib.hid (((Bel.refl W0).alloc _).trans k1)
  have RY := Lib.hid (rng_bel RX.out B1.out)
  clear k1 FC
  by_cases h0 : q = 0
  · subst h0
    obtain ⟨hc, h1, h2, h3, h4⟩ := e2_zero HQ.out
    have HFt := Lib.hid (fit_of HX.out hc)
    clear hc
    have c0 := rec_cell RY.out 0 (by omega)
    rw [show kd 0 = .i64 from rfl] at c0
    obtain ⟨m, hm⟩ : ∃ m, x 0 = m := ⟨_, rfl⟩
    have b2 := HFt.out.ub
    rw [hm] at c0 b2
    have HV := Lib.hid (show aliB x c h = decide (h ≤ c + m) by
      unfold aliB
      rw [HQ.out, hm]
      simp only [decide_true, Bool.true_and, decide_eq_decide]
      omega)
    clear hm
    go_wp2_with fail
    go_ret2
    exact ⟨by rw [HV.out, HQ.out]; rfl, B0.out.trans B1.out⟩
  · have hb : (q == 0) = false := by simpa using h0
    have HV := Lib.hid (show aliB x c h = false by unfold aliB; rw [HQ.out, decide_eq_false h0]; rfl)
    go_wp2_with fail
    go_ret2
    exact ⟨by rw [HV.out, HQ.out]; rfl, B0.out.trans B1.out⟩

set_option maxRecDepth 100000 in
set_option maxHeartbeats 4000000 in
theorem notedR (x : Nat → Int) (hx : Kinds x) (c h : Int) (w : World) :
    Calls Try.prog 26 #[.agg (recC x).toArray, .int .i64 c, .int .i64 h] w fun r w' => r = .returned (.tuple #[.bool (notB x c h), .int .i64 (e2 x c h)]) ∧ Bel w w' := by
  obtain ⟨D, hD⟩ : ∃ D, D = recC x := ⟨_, rfl⟩
  obtain ⟨W0, hW0⟩ : ∃ W0, w.alloc (.cells D.toArray 24) = W0 := ⟨_, rfl⟩
  have B0 := Lib.hid (show Bel w W0 by rw [← hW0]; exact (Bel.refl w).alloc _)
  have R0 := Lib.hid (show W0.rangeAt w.heap.size 0 D by rw [← hW0]; exact rngB (Blk.new w D.toArray 24))
  have RX := Lib.hid (show W0.rangeAt w.heap.size 0 (recC x) by rw [← hW0, hD]; exact rngB (Blk.new w (recC x).toArray 24))
  obtain ⟨p, hp⟩ : ∃ p, w.heap.size = p := ⟨_, rfl⟩
  rw [hp] at R0 RX
  have hDl : D.length = 11 := by rw [hD]; rfl
  have iD : (Try.prog.info? 24).map (·.size) = some D.length := by rw [hDl]; exact info_rec
  obtain ⟨q, hq⟩ : ∃ q, er x [wi c, wi h] = q := ⟨_, rfl⟩
  have FC := Lib.hid (fun (V : World) (g : Nat) (hi : Ints .i64 V (some ⟨g, 0, none⟩) 2 [c, h]) => fineR x hx (some ⟨g, 0, none⟩) 2 2 [c, h] V (by omega) hi)
  rw [show er x (List.map wi [c, h]) = q from hq, ← hD] at FC
  have HQ := Lib.hid (show e2 x c h = q from hq)
  clear hq
  rw [← hD]
  have HX := Lib.hid hx
  have HP := Lib.hid hp
  have HW0 := Lib.hid hW0
  clear hx hp hD hW0 hDl
  go_enter Try.func26, Try.ntmps26
  go_upto_region 1 with fail
  rw [HW0.out, HP.out]
  go_wp2_with (refine wpList_load_mid rfl 24 (.tmp 3) rfl p 0 rfl D _ R0.out Try.underlying24 rfl iD ?_)
  refine (FC.out _ _ (lit2 _ c h _)).mono ?_
  rintro r w1 ⟨rfl, k1⟩
  have B1 := Lib.hid (((Bel.refl W0).alloc _).trans k1)
  have RY := Lib.hid (rng_bel RX.out B1.out)
  clear k1 FC
  by_cases h0 : q = 0
  · subst h0
    obtain ⟨hc, h1, h2, h3, h4⟩ := e2_zero HQ.out
    have HFt := Lib.hid (fit_of HX.out hc)
    clear hc
    have c9 := rec_cell RY.out 9 (by omega)
    rw [show kd 9 = .i64 from rfl] at c9
    obtain ⟨m, hm⟩ : ∃ m, x 9 = m := ⟨_, rfl⟩
    have b2 := HFt.out.cor
    rw [hm] at c9 b2
    by_cases hch : c ≤ h
    · have HV := Lib.hid (show notB x c h = decide (h - c < m) by unfold notB; rw [HQ.out, hm]; simp [hch])
      clear hm
      go_wp2_with fail
      go_ret2
      exact ⟨by rw [HV.out, HQ.out]; rfl, B0.out.trans B1.out⟩
    · have HV := Lib.hid (show notB x c h = false by unfold notB; rw [HQ.out, decide_eq_false hch]; rfl)
      have hd : decide (c ≤ h) = false := decide_eq_false hch
      clear hm
      go_wp2_with fail
      go_ret2
      exact ⟨by rw [HV.out, HQ.out]; rfl, B0.out.trans B1.out⟩
  · have hb : (q == 0) = false := by simpa using h0
    have HV := Lib.hid (show notB x c h = false by unfold notB; rw [HQ.out, decide_eq_false h0]; rfl)
    go_wp2_with fail
    go_ret2
    exact ⟨by rw [HV.out, HQ.out]; rfl, B0.out.trans B1.out⟩

set_option maxRecDepth 100000 in
set_option maxHeartbeats 4000000 in
theorem agedR (x : Nat → Int) (hx : Kinds x) (c h : Int) (w : World) :
    Calls Try.prog 28 #[.agg (recC x).toArray, .int .i64 c, .int .i64 h] w fun r w' => r = .returned (.int .i64 (agN x c h)) ∧ Bel w w' := by
  obtain ⟨D, hD⟩ : ∃ D, D = recC x := ⟨_, rfl⟩
  obtain ⟨W0, hW0⟩ : ∃ W0, w.alloc (.cells D.toArray 24) = W0 := ⟨_, rfl⟩
  have B0 := Lib.hid (show Bel w W0 by rw [← hW0]; exact (Bel.refl w).alloc _)
  have R0 := Lib.hid (show W0.rangeAt w.heap.size 0 D by rw [← hW0]; exact rngB (Blk.new w D.toArray 24))
  have RX := Lib.hid (show W0.rangeAt w.heap.size 0 (recC x) by rw [← hW0, hD]; exact rngB (Blk.new w (recC x).toArray 24))
  obtain ⟨p, hp⟩ : ∃ p, w.heap.size = p := ⟨_, rfl⟩
  rw [hp] at R0 RX
  have hDl : D.length = 11 := by rw [hD]; rfl
  have iD : (Try.prog.info? 24).map (·.size) = some D.length := by rw [hDl]; exact info_rec
  obtain ⟨q, hq⟩ : ∃ q, er x [wi c, wi h] = q := ⟨_, rfl⟩
  have FC := Lib.hid (fun (V : World) (g : Nat) (hi : Ints .i64 V (some ⟨g, 0, none⟩) 2 [c, h]) => fineR x hx (some ⟨g, 0, none⟩) 2 2 [c, h] V (by omega) hi)
  rw [show er x (List.map wi [c, h]) = q from hq, ← hD] at FC
  have HQ := Lib.hid (show e2 x c h = q from hq)
  clear hq
  rw [← hD]
  have HX := Lib.hid hx
  have HP := Lib.hid hp
  have HW0 := Lib.hid hW0
  clear hx hp hD hW0 hDl
  go_enter Try.func28, Try.ntmps28
  go_upto_region 1 with fail
  rw [HW0.out, HP.out]
  go_wp2_with (refine wpList_load_mid rfl 24 (.tmp 3) rfl p 0 rfl D _ R0.out Try.underlying24 rfl iD ?_)
  refine (FC.out _ _ (lit2 _ c h _)).mono ?_
  rintro r w1 ⟨rfl, k1⟩
  have B1 := Lib.hid (((Bel.refl W0).alloc _).trans k1)
  have RY := Lib.hid (rng_bel RX.out B1.out)
  clear k1 FC
  by_cases h0 : q = 0
  · subst h0
    obtain ⟨hc, h1, h2, h3, h4⟩ := e2_zero HQ.out
    have HFt := Lib.hid (fit_of HX.out hc)
    clear hc
    have c1 := rec_cell RY.out 1 (by omega)
    rw [show kd 1 = .i64 from rfl] at c1
    obtain ⟨m, hm⟩ : ∃ m, x 1 = m := ⟨_, rfl⟩
    have b2 := HFt.out.age
    rw [hm] at c1 b2
    by_cases hch : c > h
    · have HV := Lib.hid (show agN x c h = 17 by unfold agN; rw [HQ.out, if_pos rfl, if_pos hch])
      clear hm
      go_wp2_with fail
      go_ret
      exact ⟨by rw [HV.out]; rfl, B0.out.trans B1.out⟩
    · by_cases hm2 : h - c > m
      · have HV := Lib.hid (show agN x c h = 16 by unfold agN; rw [HQ.out, if_pos rfl, if_neg hch, hm, if_pos hm2])
        clear hm
        go_wp2_with fail
        go_ret
        exact ⟨by rw [HV.out]; rfl, B0.out.trans B1.out⟩
      · have HV := Lib.hid (show agN x c h = 0 by unfold agN; rw [HQ.out, if_pos rfl, if_neg hch, hm, if_neg hm2])
        clear hm
        go_wp2_with fail
        go_ret
        exact ⟨by rw [HV.out]; rfl, B0.out.trans B1.out⟩
  · have hb : (q == 0) = false := by simpa using h0
    have hb2 : (q != 0) = true := by simpa using h0
    have HV := Lib.hid (show agN x c h = q by unfold agN; rw [HQ.out, if_neg h0])
    go_wp2_with fail
    go_ret
    exact ⟨by rw [HV.out]; rfl, B0.out.trans B1.out⟩
end Pd
end Go.Proofs.Ytlhahjpjlahdiaa
end

section
/-
  What layer 8 answers of the chapter's examples, as numbers. No walk. No condition.
-/
namespace Go.Proofs.Ytlhahjpjlahdiaa
open Go.RowKit Go.Shelf
set_option linter.unusedVariables false
namespace Pd
open Kk Pm

def zer : Nat → Int := fun _ => 0
theorem kinds_zer : Kinds zer := fun i hi => ⟨fun _ => ⟨(by decide : (0 : Int) ≤ 0), (by decide : (0 : Int) ≤ 18446744073709551615)⟩, fun _ => ⟨(by decide : (-9223372036854775808 : Int) ≤ 0), (by decide : (0 : Int) ≤ 9223372036854775807)⟩⟩
theorem ok_fin {x : Nat → Int} (h : ∀ i : Fin 11, okF x i = true) : ∀ j, j < 11 → okF x j = true := fun j hj => h ⟨j, hj⟩
theorem ce_dv : ce dv = 0 := (ce_of (.inr (.inr ⟨ok_fin (by decide), by decide, rfl, rfl⟩) : Chk dv 0 0)).symm
theorem ce_zer : ce zer = 3 := (ce_of (.inl ⟨0, by omega, fun j hj => by omega, by decide, rfl, rfl⟩ : Chk zer 3 0)).symm
theorem e1_dv (h : Int) (h1 : 1 ≤ h) (h2 : h ≤ 4294967296) : e1 dv h = 0 := e1_ok ce_dv h1 h2
theorem e1_out (h : Int) (h1 : ¬ (1 ≤ h ∧ h ≤ 4294967296)) : e1 dv h = 3 := by
  unfold e1
  rw [er_rest ce_dv, fo1]
  exact if_neg h1
theorem e1_zer : e1 zer 1 = 3 := by
  unfold e1
  rw [er_bad (by rw [ce_zer]; decide), ce_zer]
theorem e2_dv (c h : Int) (h1 : 1 ≤ c) (h2 : c ≤ 4294967296) (h3 : 1 ≤ h) (h4 : h ≤ 4294967296) : e2 dv c h = 0 := e2_ok ce_dv h1 h2 h3 h4
theorem ep_dv (h : Int) (h1 : 1 ≤ h) (h2 : h ≤ 4294967296) : epN dv h = (h - 1) / 10 := if_pos (e1_dv h h1 h2)
theorem ep_no {x : Nat → Int} {h : Int} (h1 : e1 x h ≠ 0) : epN x h = 0 := if_neg h1
theorem low_dv (h : Int) (h1 : 1 ≤ h) (h2 : h ≤ 4294967296) : lowN dv h = max ((h - 1) / 10 - 8 + 1) 0 := if_pos (e1_dv h h1 h2)
theorem fl_dv (h : Int) (h1 : 1 ≤ h) (h2 : h ≤ 4294967296) : flN dv h = max (h - 8 * 10 + 1) 1 := if_pos (e1_dv h h1 h2)
theorem un_dv (h : Int) (h1 : 1 ≤ h) (h2 : h ≤ 4294967296) : unN dv h = h + 20 := if_pos (e1_dv h h1 h2)
theorem eF_dv (e : Int) (h1 : 0 ≤ e) (h2 : e ≤ 4294967296) : eF dv e = wi (e * 10 + 1) := eF_in ce_dv h1 h2
theorem eF_dv1 : eF dv 1 = 0 := (eF_dv 1 (by decide) (by decide)).trans (by decide)
theorem eF_dvb : eF dv 4294967296 = 3 := (eF_dv _ (by decide) (by decide)).trans (by decide)
theorem eF_dvn : eF dv (-1) = 3 := eF_out ce_dv (by decide)
theorem fi_dv : fiN dv 1 = 11 := (if_pos eF_dv1).trans (by decide)
theorem la_dv : laN dv 1 = 20 := (if_pos eF_dv1).trans (by decide)
theorem fi_no {x : Nat → Int} {e : Int} (h1 : eF x e ≠ 0) : fiN x e = 0 := if_neg h1
theorem rip_dv (c h : Int) (h1 : 1 ≤ c) (h2 : c ≤ 4294967296) (h3 : 1 ≤ h) (h4 : h ≤ 4294967296) : ripB dv c h = decide (h - c ≥ 100) := by
  unfold ripB
  rw [e2_dv c h h1 h2 h3 h4]
  rfl
theorem ali_dv (c h : Int) (h1 : 1 ≤ c) (h2 : c ≤ 4294967296) (h3 : 1 ≤ h) (h4 : h ≤ 4294967296) : aliB dv c h = decide (h - c ≤ 100) := by
  unfold aliB
  rw [e2_dv c h h1 h2 h3 h4]
  rfl
theorem not_dv (c h : Int) (h1 : 1 ≤ c) (h2 : c ≤ 4294967296) (h3 : 1 ≤ h) (h4 : h ≤ 4294967296) : notB dv c h = (decide (c ≤ h) && decide (h - c < 50)) := by
  unfold notB
  rw [e2_dv c h h1 h2 h3 h4]
  rfl
theorem ag_dv (c h : Int) (h1 : 1 ≤ c) (h2 : c ≤ 4294967296) (h3 : 1 ≤ h) (h4 : h ≤ 4294967296) : agN dv c h = if c > h then 17 else if h - c > 100 then 16 else 0 := if_pos (e2_dv c h h1 h2 h3 h4)
end Pd
end Go.Proofs.Ytlhahjpjlahdiaa
end

section
/-
  What awake and PeriodKnown answer: true. No condition.
-/
namespace Go.Proofs.Ytlhahjpjlahdiaa
open Go.RowKit Go.Shelf
set_option linter.unusedVariables false
namespace Pd
open Kk Pm

theorem load_guarded {ops : Array Oper} {rest : List Oper} {op : Oper} {a : Act} {w : World} {Q : Exit → Act → World → Prop} (hw : Region.wanted op (yielded ops a.tmps) = true) (ty : TypeId) (x : Operand) (ho : op.op = .load ty x)
    (b o : Nat) (hx : a.eval x = .pointer (some ⟨b, o, none⟩)) (cs : List Value) (d : TypeDesc) (hc : w.rangeAt b o cs)
    (hu : Try.prog.underlying ty = some d) (hd : d.isRow = true) (hi : (Try.prog.info? ty).map (·.size) = some cs.length)
    (h : wpList Try.prog ops Q rest (a.put op.dst (.agg cs.toArray)) w) : wpList Try.prog ops Q (op :: rest) a w :=
  wpList_step fun K hK => by
    rw [if_pos hw]
    exact wp_load_mid ty x ho b o hx cs d hc hu hd hi (hK _ _ h)
theorem exC1 (V : World) : Calls Try.prog 8 #[.agg (recC dv).toArray, .int .i64 11] V fun e w' => e = .returned (.tuple #[.int .i64 1, .int .i64 0]) ∧ Bel V w' := (epochC dv kinds_dv (11) V).mono fun e w' (k : _ ∧ _) => (⟨k.1.trans (by rw [show epN dv 11 = 1 from (ep_dv 11 (by decide) (by decide)).trans (by decide), e1_dv 11 (by decide) (by decide)]), k.2⟩ : _ ∧ _)
theorem exC2 (V : World) : Calls Try.prog 16 #[.agg (recC dv).toArray, .int .i64 1] V fun e w' => e = .returned (.tuple #[.int .i64 11, .int .i64 0]) ∧ Bel V w' := (firstC dv kinds_dv (1) V).mono fun e w' (k : _ ∧ _) => (⟨k.1.trans (by rw [fi_dv, eF_dv1]), k.2⟩ : _ ∧ _)
theorem exC3 (V : World) : Calls Try.prog 10 #[.agg (recC dv).toArray, .int .i64 95] V fun e w' => e = .returned (.tuple #[.int .i64 2, .int .i64 0]) ∧ Bel V w' := (lowC dv kinds_dv (95) V).mono fun e w' (k : _ ∧ _) => (⟨k.1.trans (by rw [show lowN dv 95 = 2 from (low_dv 95 (by decide) (by decide)).trans (by decide), e1_dv 95 (by decide) (by decide)]), k.2⟩ : _ ∧ _)
theorem exC4 (V : World) : Calls Try.prog 12 #[.agg (recC dv).toArray, .int .i64 95] V fun e w' => e = .returned (.tuple #[.int .i64 16, .int .i64 0]) ∧ Bel V w' := (floorC dv kinds_dv (95) V).mono fun e w' (k : _ ∧ _) => (⟨k.1.trans (by rw [show flN dv 95 = 16 from (fl_dv 95 (by decide) (by decide)).trans (by decide), e1_dv 95 (by decide) (by decide)]), k.2⟩ : _ ∧ _)
theorem exC5 (V : World) : Calls Try.prog 21 #[.agg (recC dv).toArray, .int .i64 7, .int .i64 107] V fun e w' => e = .returned (.tuple #[.bool true, .int .i64 0]) ∧ Bel V w' := (ripeC dv kinds_dv 7 107 V).mono fun e w' (k : _ ∧ _) => (⟨k.1.trans (by rw [show ripB dv 7 107 = true from (rip_dv 7 107 (by decide) (by decide) (by decide) (by decide)).trans (by decide), e2_dv 7 107 (by decide) (by decide) (by decide) (by decide)]), k.2⟩ : _ ∧ _)
theorem exC6 (V : World) : Calls Try.prog 27 #[.agg (recC dv).toArray, .int .i64 5, .int .i64 106] V fun e w' => e = .returned (.int .i64 16) ∧ Bel V w' := (agedC dv kinds_dv 5 106 V).mono fun e w' (k : _ ∧ _) => (⟨k.1.trans (by rw [show agN dv 5 106 = 16 from (ag_dv 5 106 (by decide) (by decide) (by decide) (by decide)).trans (by decide)]), k.2⟩ : _ ∧ _)
theorem exC7 (V : World) : Calls Try.prog 8 #[.agg (recC dv).toArray, .int .i64 1] V fun e w' => e = .returned (.tuple #[.int .i64 0, .int .i64 0]) ∧ Bel V w' := (epochC dv kinds_dv (1) V).mono fun e w' (k : _ ∧ _) => (⟨k.1.trans (by rw [show epN dv 1 = 0 from (ep_dv 1 (by decide) (by decide)).trans (by decide), e1_dv 1 (by decide) (by decide)]), k.2⟩ : _ ∧ _)
theorem exC8 (V : World) : Calls Try.prog 8 #[.agg (recC dv).toArray, .int .i64 10] V fun e w' => e = .returned (.tuple #[.int .i64 0, .int .i64 0]) ∧ Bel V w' := (epochC dv kinds_dv (10) V).mono fun e w' (k : _ ∧ _) => (⟨k.1.trans (by rw [show epN dv 10 = 0 from (ep_dv 10 (by decide) (by decide)).trans (by decide), e1_dv 10 (by decide) (by decide)]), k.2⟩ : _ ∧ _)
theorem exC9 (V : World) : Calls Try.prog 18 #[.agg (recC dv).toArray, .int .i64 1] V fun e w' => e = .returned (.tuple #[.int .i64 20, .int .i64 0]) ∧ Bel V w' := (lastC dv kinds_dv (1) V).mono fun e w' (k : _ ∧ _) => (⟨k.1.trans (by rw [la_dv, eF_dv1]), k.2⟩ : _ ∧ _)
theorem exC10 (V : World) : Calls Try.prog 16 #[.agg (recC dv).toArray, .int .i64 4294967296] V fun e w' => e = .returned (.tuple #[.int .i64 0, .int .i64 3]) ∧ Bel V w' := (firstC dv kinds_dv (4294967296) V).mono fun e w' (k : _ ∧ _) => (⟨k.1.trans (by rw [show fiN dv 4294967296 = 0 from fi_no (by rw [eF_dvb]; decide), eF_dvb]), k.2⟩ : _ ∧ _)
theorem exC11 (V : World) : Calls Try.prog 10 #[.agg (recC dv).toArray, .int .i64 1] V fun e w' => e = .returned (.tuple #[.int .i64 0, .int .i64 0]) ∧ Bel V w' := (lowC dv kinds_dv (1) V).mono fun e w' (k : _ ∧ _) => (⟨k.1.trans (by rw [show lowN dv 1 = 0 from (low_dv 1 (by decide) (by decide)).trans (by decide), e1_dv 1 (by decide) (by decide)]), k.2⟩ : _ ∧ _)
theorem exC12 (V : World) : Calls Try.prog 12 #[.agg (recC dv).toArray, .int .i64 5] V fun e w' => e = .returned (.tuple #[.int .i64 1, .int .i64 0]) ∧ Bel V w' := (floorC dv kinds_dv (5) V).mono fun e w' (k : _ ∧ _) => (⟨k.1.trans (by rw [show flN dv 5 = 1 from (fl_dv 5 (by decide) (by decide)).trans (by decide), e1_dv 5 (by decide) (by decide)]), k.2⟩ : _ ∧ _)
theorem exC13 (V : World) : Calls Try.prog 14 #[.agg (recC dv).toArray, .int .i64 30] V fun e w' => e = .returned (.tuple #[.int .i64 50, .int .i64 0]) ∧ Bel V w' := (untilC dv kinds_dv (30) V).mono fun e w' (k : _ ∧ _) => (⟨k.1.trans (by rw [show unN dv 30 = 50 from (un_dv 30 (by decide) (by decide)).trans (by decide), e1_dv 30 (by decide) (by decide)]), k.2⟩ : _ ∧ _)
theorem exC14 (V : World) : Calls Try.prog 21 #[.agg (recC dv).toArray, .int .i64 7, .int .i64 106] V fun e w' => e = .returned (.tuple #[.bool false, .int .i64 0]) ∧ Bel V w' := (ripeC dv kinds_dv 7 106 V).mono fun e w' (k : _ ∧ _) => (⟨k.1.trans (by rw [show ripB dv 7 106 = false from (rip_dv 7 106 (by decide) (by decide) (by decide) (by decide)).trans (by decide), e2_dv 7 106 (by decide) (by decide) (by decide) (by decide)]), k.2⟩ : _ ∧ _)
theorem exC15 (V : World) : Calls Try.prog 23 #[.agg (recC dv).toArray, .int .i64 7, .int .i64 107] V fun e w' => e = .returned (.tuple #[.bool true, .int .i64 0]) ∧ Bel V w' := (aliveC dv kinds_dv 7 107 V).mono fun e w' (k : _ ∧ _) => (⟨k.1.trans (by rw [show aliB dv 7 107 = true from (ali_dv 7 107 (by decide) (by decide) (by decide) (by decide)).trans (by decide), e2_dv 7 107 (by decide) (by decide) (by decide) (by decide)]), k.2⟩ : _ ∧ _)
theorem exC16 (V : World) : Calls Try.prog 23 #[.agg (recC dv).toArray, .int .i64 7, .int .i64 108] V fun e w' => e = .returned (.tuple #[.bool false, .int .i64 0]) ∧ Bel V w' := (aliveC dv kinds_dv 7 108 V).mono fun e w' (k : _ ∧ _) => (⟨k.1.trans (by rw [show aliB dv 7 108 = false from (ali_dv 7 108 (by decide) (by decide) (by decide) (by decide)).trans (by decide), e2_dv 7 108 (by decide) (by decide) (by decide) (by decide)]), k.2⟩ : _ ∧ _)
theorem exC17 (V : World) : Calls Try.prog 27 #[.agg (recC dv).toArray, .int .i64 5, .int .i64 105] V fun e w' => e = .returned (.int .i64 0) ∧ Bel V w' := (agedC dv kinds_dv 5 105 V).mono fun e w' (k : _ ∧ _) => (⟨k.1.trans (by rw [show agN dv 5 105 = 0 from (ag_dv 5 105 (by decide) (by decide) (by decide) (by decide)).trans (by decide)]), k.2⟩ : _ ∧ _)
theorem exC18 (V : World) : Calls Try.prog 27 #[.agg (recC dv).toArray, .int .i64 6, .int .i64 5] V fun e w' => e = .returned (.int .i64 17) ∧ Bel V w' := (agedC dv kinds_dv 6 5 V).mono fun e w' (k : _ ∧ _) => (⟨k.1.trans (by rw [show agN dv 6 5 = 17 from (ag_dv 6 5 (by decide) (by decide) (by decide) (by decide)).trans (by decide)]), k.2⟩ : _ ∧ _)
theorem exC19 (V : World) : Calls Try.prog 25 #[.agg (recC dv).toArray, .int .i64 50, .int .i64 99] V fun e w' => e = .returned (.tuple #[.bool true, .int .i64 0]) ∧ Bel V w' := (notedC dv kinds_dv 50 99 V).mono fun e w' (k : _ ∧ _) => (⟨k.1.trans (by rw [show notB dv 50 99 = true from (not_dv 50 99 (by decide) (by decide) (by decide) (by decide)).trans (by decide), e2_dv 50 99 (by decide) (by decide) (by decide) (by decide)]), k.2⟩ : _ ∧ _)
theorem exC20 (V : World) : Calls Try.prog 25 #[.agg (recC dv).toArray, .int .i64 50, .int .i64 100] V fun e w' => e = .returned (.tuple #[.bool false, .int .i64 0]) ∧ Bel V w' := (notedC dv kinds_dv 50 100 V).mono fun e w' (k : _ ∧ _) => (⟨k.1.trans (by rw [show notB dv 50 100 = false from (not_dv 50 100 (by decide) (by decide) (by decide) (by decide)).trans (by decide), e2_dv 50 100 (by decide) (by decide) (by decide) (by decide)]), k.2⟩ : _ ∧ _)
theorem exC21 (V : World) : Calls Try.prog 8 #[.agg (recC dv).toArray, .int .i64 0] V fun e w' => e = .returned (.tuple #[.int .i64 0, .int .i64 3]) ∧ Bel V w' := (epochC dv kinds_dv (0) V).mono fun e w' (k : _ ∧ _) => (⟨k.1.trans (by rw [show epN dv 0 = 0 from ep_no (by rw [e1_out 0 (by decide)]; decide), e1_out 0 (by decide)]), k.2⟩ : _ ∧ _)
theorem exC22 (V : World) : Calls Try.prog 8 #[.agg (recC dv).toArray, .int .i64 4294967297] V fun e w' => e = .returned (.tuple #[.int .i64 0, .int .i64 3]) ∧ Bel V w' := (epochC dv kinds_dv (4294967297) V).mono fun e w' (k : _ ∧ _) => (⟨k.1.trans (by rw [show epN dv 4294967297 = 0 from ep_no (by rw [e1_out 4294967297 (by decide)]; decide), e1_out 4294967297 (by decide)]), k.2⟩ : _ ∧ _)
theorem exC23 (V : World) : Calls Try.prog 8 #[.agg (recC zer).toArray, .int .i64 1] V fun e w' => e = .returned (.tuple #[.int .i64 0, .int .i64 3]) ∧ Bel V w' := (epochC zer kinds_zer (1) V).mono fun e w' (k : _ ∧ _) => (⟨k.1.trans (by rw [show epN zer 1 = 0 from ep_no (by rw [e1_zer]; decide), e1_zer]), k.2⟩ : _ ∧ _)
theorem exC24 (V : World) : Calls Try.prog 16 #[.agg (recC dv).toArray, .int .i64 (-1)] V fun e w' => e = .returned (.tuple #[.int .i64 0, .int .i64 3]) ∧ Bel V w' := (firstC dv kinds_dv (-1) V).mono fun e w' (k : _ ∧ _) => (⟨k.1.trans (by rw [show fiN dv (-1) = 0 from fi_no (by rw [eF_dvn]; decide), eF_dvn]), k.2⟩ : _ ∧ _)

set_option maxRecDepth 100000 in
set_option maxHeartbeats 8000000 in
theorem awake_ (w : World) : Calls Try.prog 20 #[] w fun e w' => e = .returned (.bool true) ∧ Bel w w' := by
  obtain ⟨E, hE⟩ : ∃ E, E = recC dv := ⟨_, rfl⟩
  have EI := Lib.hid (show (Try.prog.info? 24).map (·.size) = some E.length by rw [hE]; exact info_rec)
  have EI2 := Lib.hid (show (Try.prog.info? 24).map (·.size) = some E.toArray.size by rw [hE]; exact info_rec)
  have EO := Lib.hid (all_oneCell_toArray (cs := E) (by rw [hE]; exact recC_cells _))
  have HE := Lib.hid hE
  have DF := Lib.hid (chapter w)
  unfold RecE at DF
  rw [← hE] at DF
  have HC1 := Lib.hid exC1
  rw [← hE] at HC1
  have HC2 := Lib.hid exC2
  rw [← hE] at HC2
  have HC3 := Lib.hid exC3
  rw [← hE] at HC3
  have HC4 := Lib.hid exC4
  rw [← hE] at HC4
  have HC5 := Lib.hid exC5
  rw [← hE] at HC5
  have HC6 := Lib.hid exC6
  rw [← hE] at HC6
  clear hE
  go_enter Try.func20, Try.ntmps20
  go_wp2_with fail
  refine DF.out.mono ?_
  rintro e w1 ⟨rfl, k1⟩
  obtain ⟨t1, t2⟩ := store_rec (z := dv) (y := fun _ => 0) (Blk.new w1 _ _)
  rw [← HE.out] at t1 t2
  have T1 := Lib.hid t1
  obtain ⟨d, hd⟩ : ∃ d, w1.heap.size = d := ⟨_, rfl⟩
  obtain ⟨v0, hV⟩ : ∃ V, (w1.alloc (.cells #[.int .i64 0, .int .i64 0, .int .i64 0, .int .i64 0, .int .i64 0, .int .i64 0, .int .i64 0, .int .u64 0, .int .u64 0, .int .i64 0, .int .u64 0] 24)).setCells d 0 E = V := ⟨_, rfl⟩
  have t2' : Blk ((w1.alloc (.cells #[.int .i64 0, .int .i64 0, .int .i64 0, .int .i64 0, .int .i64 0, .int .i64 0, .int .i64 0, .int .u64 0, .int .u64 0, .int .i64 0, .int .u64 0] 24)).setCells w1.heap.size 0 E) w1.heap.size E.toArray 24 := t2
  rw [hd, hV] at t2'
  have B0 := Lib.hid (show Bel w v0 from k1.trans (by rw [← hV]; exact bel_setCells ((Bel.refl w1).alloc _) (by rw [hd]; exact Nat.le_refl _) 0 E))
  have R0 := Lib.hid (rngB t2')
  have HV := Lib.hid hV
  have HD := Lib.hid hd
  clear t1 t2 t2' hV hd k1 DF
  go_upto_region 2 with (refine wpList_store_mid rfl 24 (.tmp 1) (.tmp 2) rfl w1.heap.size 0 E.toArray rfl rfl T1.out EI2.out EO.out ?_)
  rw [HD.out, HV.out]
  clear T1 EI2 EO HE HD HV
  go_wp2_with (refine wpList_load_mid rfl 24 (.tmp 1) rfl d 0 rfl E _ R0.out Try.underlying24 rfl EI.out ?_)
  refine (HC1.out v0).mono ?_
  rintro e v1 ⟨rfl, k1⟩
  have B1 := Lib.hid (B0.out.trans k1)
  have R1 := Lib.hid (rng_bel R0.out k1)
  clear k1 HC1 R0 B0
  go_wp2_with fail
  refine (num (1) 0 v1 (by decide)).mono ?_
  rintro e x1 ⟨rfl, rfl⟩
  rw [show nu (1) 0 = 1 from rfl]
  go_wp2_with (refine load_guarded rfl 24 (.tmp 1) rfl d 0 rfl E _ R1.out Try.underlying24 rfl EI.out ?_)
  refine (HC2.out v1).mono ?_
  rintro e v2 ⟨rfl, k2⟩
  have B2 := Lib.hid (B1.out.trans k2)
  have R2 := Lib.hid (rng_bel R1.out k2)
  clear k2 HC2 R1 B1
  go_wp2_with fail
  refine (num (11) 0 v2 (by decide)).mono ?_
  rintro e x2 ⟨rfl, rfl⟩
  rw [show nu (11) 0 = 11 from rfl]
  go_wp2_with (refine load_guarded rfl 24 (.tmp 1) rfl d 0 rfl E _ R2.out Try.underlying24 rfl EI.out ?_)
  refine (HC3.out v2).mono ?_
  rintro e v3 ⟨rfl, k3⟩
  have B3 := Lib.hid (B2.out.trans k3)
  have R3 := Lib.hid (rng_bel R2.out k3)
  clear k3 HC3 R2 B2
  go_wp2_with fail
  refine (num (2) 0 v3 (by decide)).mono ?_
  rintro e x3 ⟨rfl, rfl⟩
  rw [show nu (2) 0 = 2 from rfl]
  go_wp2_with (refine load_guarded rfl 24 (.tmp 1) rfl d 0 rfl E _ R3.out Try.underlying24 rfl EI.out ?_)
  refine (HC4.out v3).mono ?_
  rintro e v4 ⟨rfl, k4⟩
  have B4 := Lib.hid (B3.out.trans k4)
  have R4 := Lib.hid (rng_bel R3.out k4)
  clear k4 HC4 R3 B3
  go_wp2_with fail
  refine (num (16) 0 v4 (by decide)).mono ?_
  rintro e x4 ⟨rfl, rfl⟩
  rw [show nu (16) 0 = 16 from rfl]
  go_wp2_with (refine load_guarded rfl 24 (.tmp 1) rfl d 0 rfl E _ R4.out Try.underlying24 rfl EI.out ?_)
  refine (HC5.out v4).mono ?_
  rintro e v5 ⟨rfl, k5⟩
  have B5 := Lib.hid (B4.out.trans k5)
  have R5 := Lib.hid (rng_bel R4.out k5)
  clear k5 HC5 R4 B4
  go_wp2_with fail
  refine (yes true 0 v5 (by decide)).mono ?_
  rintro e x5 ⟨rfl, rfl⟩
  rw [show ye true 0 = 1 from rfl]
  go_wp2_with (refine load_guarded rfl 24 (.tmp 1) rfl d 0 rfl E _ R5.out Try.underlying24 rfl EI.out ?_)
  refine (HC6.out v5).mono ?_
  rintro e v6 ⟨rfl, k6⟩
  have B6 := Lib.hid (B5.out.trans k6)
  have R6 := Lib.hid (rng_bel R5.out k6)
  clear k6 HC6 R5 B5
  go_wp2_with fail
  go_ret
  exact ⟨rfl, B6.out⟩

set_option maxRecDepth 100000 in
set_option maxHeartbeats 8000000 in
theorem known (w : World) : Calls Try.prog 5 #[] w fun e w' => e = .returned (.bool true) ∧ Bel w w' := by
  obtain ⟨E, hE⟩ : ∃ E, E = recC dv := ⟨_, rfl⟩
  have EI := Lib.hid (show (Try.prog.info? 24).map (·.size) = some E.length by rw [hE]; exact info_rec)
  have EI2 := Lib.hid (show (Try.prog.info? 24).map (·.size) = some E.toArray.size by rw [hE]; exact info_rec)
  have EO := Lib.hid (all_oneCell_toArray (cs := E) (by rw [hE]; exact recC_cells _))
  have HE := Lib.hid hE
  have DF := Lib.hid (chapter w)
  unfold RecE at DF
  rw [← hE] at DF
  have HC7 := Lib.hid exC7
  rw [← hE] at HC7
  have HC8 := Lib.hid exC8
  rw [← hE] at HC8
  have HC9 := Lib.hid exC9
  rw [← hE] at HC9
  have HC10 := Lib.hid exC10
  rw [← hE] at HC10
  have HC11 := Lib.hid exC11
  rw [← hE] at HC11
  have HC12 := Lib.hid exC12
  rw [← hE] at HC12
  have HC13 := Lib.hid exC13
  rw [← hE] at HC13
  have HC14 := Lib.hid exC14
  rw [← hE] at HC14
  have HC15 := Lib.hid exC15
  rw [← hE] at HC15
  have HC16 := Lib.hid exC16
  rw [← hE] at HC16
  have HC17 := Lib.hid exC17
  rw [← hE] at HC17
  have HC18 := Lib.hid exC18
  rw [← hE] at HC18
  have HC19 := Lib.hid exC19
  rw [← hE] at HC19
  have HC20 := Lib.hid exC20
  rw [← hE] at HC20
  have HC21 := Lib.hid exC21
  rw [← hE] at HC21
  have HC22 := Lib.hid exC22
  rw [← hE] at HC22
  have HC23 := Lib.hid exC23
  rw [show (recC zer).toArray = #[.int .i64 0, .int .i64 0, .int .i64 0, .int .i64 0, .int .i64 0, .int .i64 0, .int .i64 0, .int .u64 0, .int .u64 0, .int .i64 0, .int .u64 0] from rfl] at HC23
  have HC24 := Lib.hid exC24
  rw [← hE] at HC24
  clear hE
  go_enter Try.func5, Try.ntmps5
  go_wp2_with fail
  refine DF.out.mono ?_
  rintro e w1 ⟨rfl, k1⟩
  obtain ⟨t1, t2⟩ := store_rec (z := dv) (y := fun _ => 0) (Blk.new w1 _ _)
  rw [← HE.out] at t1 t2
  have T1 := Lib.hid t1
  obtain ⟨d, hd⟩ : ∃ d, w1.heap.size = d := ⟨_, rfl⟩
  obtain ⟨v0, hV⟩ : ∃ V, (w1.alloc (.cells #[.int .i64 0, .int .i64 0, .int .i64 0, .int .i64 0, .int .i64 0, .int .i64 0, .int .i64 0, .int .u64 0, .int .u64 0, .int .i64 0, .int .u64 0] 24)).setCells d 0 E = V := ⟨_, rfl⟩
  have t2' : Blk ((w1.alloc (.cells #[.int .i64 0, .int .i64 0, .int .i64 0, .int .i64 0, .int .i64 0, .int .i64 0, .int .i64 0, .int .u64 0, .int .u64 0, .int .i64 0, .int .u64 0] 24)).setCells w1.heap.size 0 E) w1.heap.size E.toArray 24 := t2
  rw [hd, hV] at t2'
  have B0 := Lib.hid (show Bel w v0 from k1.trans (by rw [← hV]; exact bel_setCells ((Bel.refl w1).alloc _) (by rw [hd]; exact Nat.le_refl _) 0 E))
  have R0 := Lib.hid (rngB t2')
  have HV := Lib.hid hV
  have HD := Lib.hid hd
  clear t1 t2 t2' hV hd k1 DF
  go_upto_region 2 with (refine wpList_store_mid rfl 24 (.tmp 1) (.tmp 5) rfl w1.heap.size 0 E.toArray rfl rfl T1.out EI2.out EO.out ?_)
  rw [HD.out, HV.out]
  clear T1 EI2 EO HE HD HV
  go_wp2_with (refine wpList_load_mid rfl 24 (.tmp 1) rfl d 0 rfl E _ R0.out Try.underlying24 rfl EI.out ?_)
  refine (HC7.out v0).mono ?_
  rintro e v1 ⟨rfl, k1⟩
  have B1 := Lib.hid (B0.out.trans k1)
  have R1 := Lib.hid (rng_bel R0.out k1)
  clear k1 HC7 R0 B0
  go_wp2_with fail
  refine (num (0) 0 v1 (by decide)).mono ?_
  rintro e x1 ⟨rfl, rfl⟩
  rw [show nu (0) 0 = 0 from rfl]
  go_wp2_with (refine load_guarded rfl 24 (.tmp 1) rfl d 0 rfl E _ R1.out Try.underlying24 rfl EI.out ?_)
  refine (HC8.out v1).mono ?_
  rintro e v2 ⟨rfl, k2⟩
  have B2 := Lib.hid (B1.out.trans k2)
  have R2 := Lib.hid (rng_bel R1.out k2)
  clear k2 HC8 R1 B1
  go_wp2_with fail
  refine (num (0) 0 v2 (by decide)).mono ?_
  rintro e x2 ⟨rfl, rfl⟩
  rw [show nu (0) 0 = 0 from rfl]
  go_wp2_with (refine load_guarded rfl 24 (.tmp 1) rfl d 0 rfl E _ R2.out Try.underlying24 rfl EI.out ?_)
  refine (HC9.out v2).mono ?_
  rintro e v3 ⟨rfl, k3⟩
  have B3 := Lib.hid (B2.out.trans k3)
  have R3 := Lib.hid (rng_bel R2.out k3)
  clear k3 HC9 R2 B2
  go_wp2_with fail
  refine (num (20) 0 v3 (by decide)).mono ?_
  rintro e x3 ⟨rfl, rfl⟩
  rw [show nu (20) 0 = 20 from rfl]
  go_wp2_with (refine load_guarded rfl 24 (.tmp 1) rfl d 0 rfl E _ R3.out Try.underlying24 rfl EI.out ?_)
  refine (HC10.out v3).mono ?_
  rintro e v4 ⟨rfl, k4⟩
  have B4 := Lib.hid (B3.out.trans k4)
  have R4 := Lib.hid (rng_bel R3.out k4)
  clear k4 HC10 R3 B3
  go_wp2_with fail
  refine (num (0) 3 v4 (by decide)).mono ?_
  rintro e x4 ⟨rfl, rfl⟩
  rw [show nu (0) 3 = -3 from rfl]
  go_wp2_with (refine load_guarded rfl 24 (.tmp 1) rfl d 0 rfl E _ R4.out Try.underlying24 rfl EI.out ?_)
  refine (HC11.out v4).mono ?_
  rintro e v5 ⟨rfl, k5⟩
  have B5 := Lib.hid (B4.out.trans k5)
  have R5 := Lib.hid (rng_bel R4.out k5)
  clear k5 HC11 R4 B4
  go_wp2_with fail
  refine (num (0) 0 v5 (by decide)).mono ?_
  rintro e x5 ⟨rfl, rfl⟩
  rw [show nu (0) 0 = 0 from rfl]
  go_wp2_with (refine load_guarded rfl 24 (.tmp 1) rfl d 0 rfl E _ R5.out Try.underlying24 rfl EI.out ?_)
  refine (HC12.out v5).mono ?_
  rintro e v6 ⟨rfl, k6⟩
  have B6 := Lib.hid (B5.out.trans k6)
  have R6 := Lib.hid (rng_bel R5.out k6)
  clear k6 HC12 R5 B5
  go_wp2_with fail
  refine (num (1) 0 v6 (by decide)).mono ?_
  rintro e x6 ⟨rfl, rfl⟩
  rw [show nu (1) 0 = 1 from rfl]
  go_wp2_with (refine load_guarded rfl 24 (.tmp 1) rfl d 0 rfl E _ R6.out Try.underlying24 rfl EI.out ?_)
  refine (HC13.out v6).mono ?_
  rintro e v7 ⟨rfl, k7⟩
  have B7 := Lib.hid (B6.out.trans k7)
  have R7 := Lib.hid (rng_bel R6.out k7)
  clear k7 HC13 R6 B6
  go_wp2_with fail
  refine (num (50) 0 v7 (by decide)).mono ?_
  rintro e x7 ⟨rfl, rfl⟩
  rw [show nu (50) 0 = 50 from rfl]
  go_wp2_with (refine wpList_load_mid rfl 24 (.tmp 1) rfl d 0 rfl E _ R7.out Try.underlying24 rfl EI.out ?_)
  refine (HC14.out v7).mono ?_
  rintro e v8 ⟨rfl, k8⟩
  have B8 := Lib.hid (B7.out.trans k8)
  have R8 := Lib.hid (rng_bel R7.out k8)
  clear k8 HC14 R7 B7
  go_wp2_with fail
  refine (yes false 0 v8 (by decide)).mono ?_
  rintro e x8 ⟨rfl, rfl⟩
  rw [show ye false 0 = 0 from rfl]
  go_wp2_with (refine load_guarded rfl 24 (.tmp 1) rfl d 0 rfl E _ R8.out Try.underlying24 rfl EI.out ?_)
  refine (HC15.out v8).mono ?_
  rintro e v9 ⟨rfl, k9⟩
  have B9 := Lib.hid (B8.out.trans k9)
  have R9 := Lib.hid (rng_bel R8.out k9)
  clear k9 HC15 R8 B8
  go_wp2_with fail
  refine (yes true 0 v9 (by decide)).mono ?_
  rintro e x9 ⟨rfl, rfl⟩
  rw [show ye true 0 = 1 from rfl]
  go_wp2_with (refine load_guarded rfl 24 (.tmp 1) rfl d 0 rfl E _ R9.out Try.underlying24 rfl EI.out ?_)
  refine (HC16.out v9).mono ?_
  rintro e v10 ⟨rfl, k10⟩
  have B10 := Lib.hid (B9.out.trans k10)
  have R10 := Lib.hid (rng_bel R9.out k10)
  clear k10 HC16 R9 B9
  go_wp2_with fail
  refine (yes false 0 v10 (by decide)).mono ?_
  rintro e x10 ⟨rfl, rfl⟩
  rw [show ye false 0 = 0 from rfl]
  go_wp2_with (refine load_guarded rfl 24 (.tmp 1) rfl d 0 rfl E _ R10.out Try.underlying24 rfl EI.out ?_)
  refine (HC17.out v10).mono ?_
  rintro e v11 ⟨rfl, k11⟩
  have B11 := Lib.hid (B10.out.trans k11)
  have R11 := Lib.hid (rng_bel R10.out k11)
  clear k11 HC17 R10 B10
  go_wp2_with (refine load_guarded rfl 24 (.tmp 1) rfl d 0 rfl E _ R11.out Try.underlying24 rfl EI.out ?_)
  refine (HC18.out v11).mono ?_
  rintro e v12 ⟨rfl, k12⟩
  have B12 := Lib.hid (B11.out.trans k12)
  have R12 := Lib.hid (rng_bel R11.out k12)
  clear k12 HC18 R11 B11
  go_wp2_with (refine load_guarded rfl 24 (.tmp 1) rfl d 0 rfl E _ R12.out Try.underlying24 rfl EI.out ?_)
  refine (HC19.out v12).mono ?_
  rintro e v13 ⟨rfl, k13⟩
  have B13 := Lib.hid (B12.out.trans k13)
  have R13 := Lib.hid (rng_bel R12.out k13)
  clear k13 HC19 R12 B12
  go_wp2_with fail
  refine (yes true 0 v13 (by decide)).mono ?_
  rintro e x13 ⟨rfl, rfl⟩
  rw [show ye true 0 = 1 from rfl]
  go_wp2_with (refine load_guarded rfl 24 (.tmp 1) rfl d 0 rfl E _ R13.out Try.underlying24 rfl EI.out ?_)
  refine (HC20.out v13).mono ?_
  rintro e v14 ⟨rfl, k14⟩
  have B14 := Lib.hid (B13.out.trans k14)
  have R14 := Lib.hid (rng_bel R13.out k14)
  clear k14 HC20 R13 B13
  go_wp2_with fail
  refine (yes false 0 v14 (by decide)).mono ?_
  rintro e x14 ⟨rfl, rfl⟩
  rw [show ye false 0 = 0 from rfl]
  go_wp2_with (refine wpList_load_mid rfl 24 (.tmp 1) rfl d 0 rfl E _ R14.out Try.underlying24 rfl EI.out ?_)
  refine (HC21.out v14).mono ?_
  rintro e v15 ⟨rfl, k15⟩
  have B15 := Lib.hid (B14.out.trans k15)
  have R15 := Lib.hid (rng_bel R14.out k15)
  clear k15 HC21 R14 B14
  go_wp2_with fail
  refine (num (0) 3 v15 (by decide)).mono ?_
  rintro e x15 ⟨rfl, rfl⟩
  rw [show nu (0) 3 = -3 from rfl]
  go_wp2_with (refine load_guarded rfl 24 (.tmp 1) rfl d 0 rfl E _ R15.out Try.underlying24 rfl EI.out ?_)
  refine (HC22.out v15).mono ?_
  rintro e v16 ⟨rfl, k16⟩
  have B16 := Lib.hid (B15.out.trans k16)
  have R16 := Lib.hid (rng_bel R15.out k16)
  clear k16 HC22 R15 B15
  go_wp2_with fail
  refine (num (0) 3 v16 (by decide)).mono ?_
  rintro e x16 ⟨rfl, rfl⟩
  rw [show nu (0) 3 = -3 from rfl]
  go_wp2_with fail
  refine (HC23.out v16).mono ?_
  rintro e v17 ⟨rfl, k17⟩
  have B17 := Lib.hid (B16.out.trans k17)
  have R17 := Lib.hid (rng_bel R16.out k17)
  clear k17 HC23 R16 B16
  go_wp2_with fail
  refine (num (0) 3 v17 (by decide)).mono ?_
  rintro e x17 ⟨rfl, rfl⟩
  rw [show nu (0) 3 = -3 from rfl]
  go_wp2_with (refine load_guarded rfl 24 (.tmp 1) rfl d 0 rfl E _ R17.out Try.underlying24 rfl EI.out ?_)
  refine (HC24.out v17).mono ?_
  rintro e v18 ⟨rfl, k18⟩
  have B18 := Lib.hid (B17.out.trans k18)
  have R18 := Lib.hid (rng_bel R17.out k18)
  clear k18 HC24 R17 B17
  go_wp2_with fail
  refine (num (0) 3 v18 (by decide)).mono ?_
  rintro e x18 ⟨rfl, rfl⟩
  rw [show nu (0) 3 = -3 from rfl]
  go_wp2_with fail
  refine (awake_ v18).mono ?_
  rintro e x ⟨rfl, kx⟩
  have BX := Lib.hid (B18.out.trans kx)
  clear kx
  go_wp2_with fail
  go_ret
  exact ⟨rfl, BX.out⟩
end Pd
end Go.Proofs.Ytlhahjpjlahdiaa
end
