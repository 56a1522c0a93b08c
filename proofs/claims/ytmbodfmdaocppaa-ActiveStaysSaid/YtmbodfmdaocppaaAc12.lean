/-
  The walk of the law ActiveChooses: who is richest, and who is in, is what the document's answer says. Conditions: the arguments read as words and bools.
-/
import Derived.Test.YtmbodfmdaocppaaAc11
import Derived.Test.YtmbodfmdaocppaaAcIn
namespace Go.Proofs.Ytmbodfmdaocppaa
open Go.RowKit Go.Shelf
set_option linter.unusedVariables false
set_option linter.unusedSimpArgs false
namespace Ac
open Kk Pm Ro

theorem flat_cnt (t : List Int) (m : List Bool) (N : Nat) : ∀ n, (rkR t m N n).length = cnt (fun i => cn t m i && decide (ah t m i < n)) N
  | 0 => by
    have : cnt (fun i => cn t m i && decide (ah t m i < 0)) N = 0 := by
      have h : ∀ K, cnt (fun i => cn t m i && decide (ah t m i < 0)) K = 0 := fun K => by
        induction K with
        | zero => rfl
        | succ K ih => show cnt _ K + (if _ then 1 else 0) = 0; rw [ih]; simp
      exact h N
    rw [this]; rfl
  | n + 1 => by
    rw [rkR_succ, List.length_append, flat_cnt t m N n]
    have h : ∀ K, cnt (fun i => cn t m i && decide (ah t m i < n)) K + (rkI t m n K).length = cnt (fun i => cn t m i && decide (ah t m i < n + 1)) K := fun K => by
      induction K with
      | zero => rfl
      | succ K ih =>
        show cnt (fun i => cn t m i && decide (ah t m i < n)) K + (if (cn t m K && decide (ah t m K < n)) = true then 1 else 0) + (rkI t m n (K + 1)).length = cnt (fun i => cn t m i && decide (ah t m i < n + 1)) K + (if (cn t m K && decide (ah t m K < n + 1)) = true then 1 else 0)
        rw [← ih, rkI_succ]
        cases hc : cn t m K with
        | false => first | (simp; done) | (simp; omega)
        | true =>
          rcases Nat.lt_trichotomy (ah t m K) n with h1 | h1 | h1
          · have h2 : ah t m K ≠ n := by omega
            have h3 : ah t m K < n + 1 := by omega
            simp [h1, h2, h3]; omega
          · have h2 : ¬ ah t m K < n := by omega
            have h3 : ah t m K < n + 1 := by omega
            simp [h1]; omega
          · have h2 : ah t m K ≠ n := by omega
            have h3 : ¬ ah t m K < n + 1 := by omega
            have h4 : ¬ ah t m K < n := by omega
            simp [h2, h3, h4]
    exact h N
theorem rk_len (t : List Int) (m : List Bool) : (rk t m).length = ct t m := by
  rw [show rk t m = rkR t m (all t m) (all t m) from rfl, flat_cnt]
  unfold ct
  refine cnt_congr fun k hk => ?_
  cases hc : cn t m k with
  | false => rfl
  | true =>
    have h1 := ah_ct hc
    have h2 : ct t m ≤ all t m := cnt_le _ _
    have h3 : ah t m k < all t m := by omega
    simp [h3]
set_option maxRecDepth 100000 in
set_option maxHeartbeats 8000000 in
theorem choosesLaw (T : Option Addr) (tn tc : Nat) (t : List Int) (M : Option Addr) (mn mc : Nat) (m : List Bool) (most : Int) (w : World) (ht : Rw.RS uR w T tn tc t) (hm : Rw.RS bR w M mn mc m) (hwt : Wds t) (h1 : tn ≤ 9223372036854775807) (h2 : mn ≤ 9223372036854775807) (m0 : -9223372036854775808 ≤ most) (m1 : most ≤ 9223372036854775807) :
    Calls Try.prog 3 #[.slice T tn tc, .slice M mn mc, .int .i64 most] w fun e w' => e = .returned (.bool true) ∧ Bel w w' := by
  have AW := Lib.hid (fun V => awake_ V)
  by_cases hb : tn ≤ 50 ∧ mn ≤ 50
  case neg =>
    clear ht hm
    go_enter Try.func3, Try.ntmps3
    by_cases h3 : (50 : Int) < tn
    · go_wp2_with fail
      refine (AW.out _).mono ?_
      rintro e w1 ⟨rfl, kb⟩
      have K1 := Lib.hid kb
      clear kb
      go_wp2_with fail
      go_ret
      exact ⟨rfl, K1.out⟩
    · have h4 : (50 : Int) < mn := by omega
      go_wp2_with fail
      refine (AW.out _).mono ?_
      rintro e w1 ⟨rfl, kb⟩
      have K1 := Lib.hid kb
      clear kb
      go_wp2_with fail
      go_ret
      exact ⟨rfl, K1.out⟩
  obtain ⟨hb1, hb2⟩ := hb
  have h3 : ¬ (50 : Int) < tn := by omega
  have h4 : ¬ (50 : Int) < mn := by omega
  have HT := Lib.hid ht
  have HM := Lib.hid hm
  have HLT := Lib.hid ht.len
  have HLM := Lib.hid hm.len
  clear ht hm h1 h2
  have C1 := Lib.hid (copy_w T tn tc t w HT.out (by omega))
  go_enter Try.func3, Try.ntmps3
  go_wp2_with fail
  refine C1.out.mono ?_
  rintro e w1 ⟨v1, rfl, ho1, kb⟩
  obtain ⟨T1, tc1, rfl, hr1, _⟩ := ho1.rs uR
  rw [HLT.out] at hr1 ⊢
  have K1 := Lib.hid kb
  have HT1 := Lib.hid hr1
  clear kb ho1 hr1 C1
  have C2 := Lib.hid (copy_b M mn mc m w1 (HM.out.bel K1.out) (by omega))
  go_wp2_with fail
  refine C2.out.mono ?_
  rintro e w2 ⟨v2, rfl, ho2, kb⟩
  obtain ⟨M1, mc1, rfl, hr2, _⟩ := ho2.rs bR
  rw [HLM.out] at hr2 ⊢
  have K2 := Lib.hid kb
  have HM1 := Lib.hid hr2
  clear kb ho2 hr2 C2
  have C3 := Lib.hid (rank T1 tn tc1 t M1 mn mc1 m w2 (HT1.out.bel K2.out) HM1.out (by omega) (by omega))
  go_wp2_with fail
  refine C3.out.mono ?_
  rintro e w3 ⟨va, rfl, hoa, kb⟩
  have HA := Lib.hid hoa
  obtain ⟨Aa, ca, rfl, hra, _⟩ := hoa.rs iR
  have K3 := Lib.hid kb
  have HRA := Lib.hid hra
  clear kb hoa hra C3
  have C4 := Lib.hid (Ac.choose T1 tn tc1 t M1 mn mc1 m most w3 ((HT1.out.bel K2.out).bel K3.out) (HM1.out.bel K3.out) (by omega) (by omega) m0 m1)
  go_wp2_with fail
  refine C4.out.mono ?_
  rintro e w4 ⟨vb, rfl, hob, kb⟩
  have HB := Lib.hid hob
  obtain ⟨Ab, cb, rfl, hrb, _⟩ := hob.rs bR
  have K4 := Lib.hid kb
  have HRB := Lib.hid hrb
  have HA4 := Lib.hid (HA.out.bel K4.out)
  have K24 := Lib.hid ((K3.out.trans K4.out))
  have K04 := Lib.hid ((K1.out.trans K2.out).trans K24.out)
  have HLRK := Lib.hid (show (rk t m).length ≤ 50 from by
    rw [rk_len]
    have h1 : ct t m ≤ all t m := cnt_le _ _
    have h2 : all t m ≤ 50 := by unfold all; rw [HLT.out, HLM.out]; omega
    omega)
  have HLCH := Lib.hid (show (ch t m most).length ≤ 50 from by
    unfold ch; rw [List.length_map, List.length_range]; unfold all; rw [HLT.out, HLM.out]; omega)
  clear kb hob hrb C4
  obtain ⟨rn, hrn⟩ : ∃ rn, (rk t m).length = rn := ⟨_, rfl⟩
  obtain ⟨cn', hcn⟩ : ∃ cn', (ch t m most).length = cn' := ⟨_, rfl⟩
  have HRN := Lib.hid hrn
  have HCN := Lib.hid hcn
  rw [hrn] at HRA HLRK HA HA4
  rw [hcn] at HRB HLCH HB
  clear hrn hcn
  have C5 := Lib.hid (rank_r T tn tc t M mn mc m w4 (HT.out.bel K04.out) (HM.out.bel K04.out) (by omega) (by omega))
  try rw [HRN.out]
  try rw [HCN.out]
  go_wp2_with fail
  refine C5.out.mono ?_
  rintro e w5 ⟨v5, rfl, ho5, kb⟩
  obtain ⟨A5, c5, rfl, hr5, _⟩ := ho5.rs iR
  rw [HRN.out] at hr5 ⊢
  have K5 := Lib.hid kb
  have H5 := Lib.hid hr5
  clear kb ho5 hr5 C5
  have C6 := Lib.hid (same_ic ((HRA.out.bel K4.out).bel K5.out) H5.out (by have := HLRK.out; omega) (by have := HLRK.out; omega) rfl)
  go_wp2_with fail
  refine C6.out.mono ?_
  rintro e w6 ⟨rfl, kb⟩
  have K6 := Lib.hid kb
  have K46 := Lib.hid (K5.out.trans K6.out)
  clear kb C6 H5 K5 K6
  have C7 := Lib.hid (choose_r T tn tc t M mn mc m most w6 ((HT.out.bel K04.out).bel K46.out) ((HM.out.bel K04.out).bel K46.out) (by omega) (by omega))
  go_wp2_with fail
  refine C7.out.mono ?_
  rintro e w7 ⟨v7, rfl, ho7, kb⟩
  obtain ⟨A7, c7, rfl, hr7, _⟩ := ho7.rs bR
  rw [HCN.out] at hr7 ⊢
  have K7 := Lib.hid (K46.out.trans kb)
  have H7 := Lib.hid hr7
  clear kb ho7 hr7 C7
  have C8 := Lib.hid (same_bc (HRB.out.bel K7.out) H7.out (by have := HLCH.out; omega) (by have := HLCH.out; omega) rfl)
  go_wp2_with fail
  refine C8.out.mono ?_
  rintro e w8 ⟨rfl, kb⟩
  have K48 := Lib.hid (K7.out.trans kb)
  clear kb C8 H7 K7
  have HJ8 := Lib.hid (own_j (HA4.out.bel K48.out))
  have HB8 := Lib.hid (HB.out.bel K48.out)
  have C9 := Lib.hid (over_j _ _ _ w8 HJ8.out (by rw [List.length_map]; have := HRN.out; have := HLRK.out; omega))
  go_wp2_with fail
  refine C9.out.mono ?_
  rintro e w9 ⟨rfl, kb⟩
  have K29 := Lib.hid (show Bel w2 w9 from Kep.bel (K24.out.trans K48.out) kb (fun i h => Rw.own_ge HJ8.out h))
  have HB9 := Lib.hid (HB8.out.kep kb (fun i e h => by
    have h1 := Rw.own_ge HB8.out e
    have h2 := (HA.out.lt i h).2
    omega))
  clear kb C9 HB8
  have C10 := Lib.hid (over_b _ _ _ w9 HB9.out (by have := HCN.out; have := HLCH.out; omega))
  try rw [HCN.out] at C10
  go_wp2_with fail
  refine C10.out.mono ?_
  rintro e w10 ⟨rfl, kb⟩
  have KA := Lib.hid (show Bel w2 w10 from Kep.bel K29.out kb (fun i h => Nat.le_trans (Below.size K3.out) (Rw.own_ge HB9.out h)))
  clear kb C10 HB9 K29
  have KZ := Lib.hid ((K1.out.trans K2.out).trans KA.out)
  have C11 := Lib.hid (same_wc ((HT1.out.bel K2.out).bel KA.out) (HT.out.bel KZ.out) (by omega) (by omega) rfl)
  go_wp2_with fail
  refine C11.out.mono ?_
  rintro e w11 ⟨rfl, kb⟩
  have K11 := Lib.hid kb
  clear kb C11
  have C12 := Lib.hid (same_bc ((HM1.out.bel KA.out).bel K11.out) ((HM.out.bel KZ.out).bel K11.out) (by omega) (by omega) rfl)
  go_wp2_with fail
  refine C12.out.mono ?_
  rintro e w12 ⟨rfl, kb⟩
  have K12 := Lib.hid (K11.out.trans kb)
  clear kb C12 K11
  have C13 := Lib.hid (Ac.choose T1 tn tc1 t M1 mn mc1 m most w12 (((HT1.out.bel K2.out).bel KA.out).bel K12.out) ((HM1.out.bel KA.out).bel K12.out) (by omega) (by omega) m0 m1)
  go_wp2_with fail
  refine C13.out.mono ?_
  rintro e w13 ⟨v13, rfl, ho13, kb⟩
  obtain ⟨A13, c13, rfl, hr13, _⟩ := ho13.rs bR
  rw [HCN.out] at hr13 ⊢
  have K13 := Lib.hid (K12.out.trans kb)
  have H13 := Lib.hid hr13
  clear kb ho13 hr13 C13 K12
  have C14 := Lib.hid (choose_r T tn tc t M mn mc m most w13 ((HT.out.bel KZ.out).bel K13.out) ((HM.out.bel KZ.out).bel K13.out) (by omega) (by omega))
  go_wp2_with fail
  refine C14.out.mono ?_
  rintro e w14 ⟨v14, rfl, ho14, kb⟩
  obtain ⟨A14, c14, rfl, hr14, _⟩ := ho14.rs bR
  rw [HCN.out] at hr14 ⊢
  have K14 := Lib.hid kb
  have H14 := Lib.hid hr14
  clear kb ho14 hr14 C14
  have C15 := Lib.hid (same_bc (H13.out.bel K14.out) H14.out (by have := HLCH.out; omega) (by have := HLCH.out; omega) rfl)
  go_wp2_with fail
  refine C15.out.mono ?_
  rintro e w15 ⟨rfl, kb⟩
  have K15 := Lib.hid ((K13.out.trans K14.out).trans kb)
  clear kb C15
  go_wp2_with fail
  refine (AW.out _).mono ?_
  rintro e w16 ⟨rfl, kb⟩
  have K16 := Lib.hid ((KZ.out.trans K15.out).trans kb)
  clear kb
  go_wp2_with fail
  go_ret
  exact ⟨rfl, K16.out⟩
/-- ActiveChooses, as its arguments come in. -/
theorem choosesW (T : Option Addr) (tn tc : Nat) (M : Option Addr) (mn mc : Nat) (most : Int) (w : World) (h1 : tn ≤ 9223372036854775807) (i0 : Wrds w T tn tc) (h2 : mn ≤ 9223372036854775807) (i1 : Bols w M mn mc) (m0 : -9223372036854775808 ≤ most) (m1 : most ≤ 9223372036854775807) :
    Calls Try.prog 3 #[.slice T tn tc, .slice M mn mc, .int .i64 most] w fun e w' => e = .returned (.bool true) ∧ Bel w w' := by
  obtain ⟨t, ht, hw⟩ := wrds_rs i0
  obtain ⟨m, hm⟩ := bols_rs i1
  exact choosesLaw T tn tc t M mn mc m most w ht hm (wds_of hw) h1 h2 m0 m1
end Ac
end Go.Proofs.Ytmbodfmdaocppaa
