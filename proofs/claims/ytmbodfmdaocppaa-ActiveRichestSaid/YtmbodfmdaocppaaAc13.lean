/-
  The walk of the law ActiveRichest: as many are in as count, or most, and nobody that is left out is richer. Conditions: the arguments read as words and bools.
-/
import Derived.Test.YtmbodfmdaocppaaAcM4
namespace Go.Proofs.Ytmbodfmdaocppaa
open Go.RowKit Go.Shelf
set_option linter.unusedVariables false
set_option linter.unusedSimpArgs false
namespace Ac
open Kk Pm Ro

set_option maxRecDepth 100000 in
set_option maxHeartbeats 16000000 in
theorem richestLaw (T : Option Addr) (tn tc : Nat) (t : List Int) (M : Option Addr) (mn mc : Nat) (m : List Bool) (most : Int) (w : World) (ht : Rw.RS uR w T tn tc t) (hm : Rw.RS bR w M mn mc m) (hwt : Wds t) (h1 : tn ≤ 9223372036854775807) (h2 : mn ≤ 9223372036854775807) (m0 : -9223372036854775808 ≤ most) (m1 : most ≤ 9223372036854775807) :
    Calls Try.prog 5 #[.slice T tn tc, .slice M mn mc, .int .i64 most] w fun e w' => e = .returned (.bool true) ∧ Bel w w' := by
  have KN := Lib.hid (known w)
  have HT := Lib.hid ht
  have HM := Lib.hid hm
  have HLT := Lib.hid ht.len
  have HLM := Lib.hid hm.len
  clear ht hm
  go_enter Try.func5, Try.ntmps5
  go_wp2_with fail
  refine KN.out.mono ?_
  rintro e w1 ⟨rfl, kb⟩
  have K1 := Lib.hid kb
  clear kb KN
  by_cases hb : tn ≤ 50 ∧ mn ≤ 50
  case neg =>
    by_cases h3 : (50 : Int) < tn
    · go_wp2_with fail
      go_ret
      exact ⟨rfl, K1.out⟩
    · have h4 : (50 : Int) < mn := by omega
      go_wp2_with fail
      go_ret
      exact ⟨rfl, K1.out⟩
  obtain ⟨hb1, hb2⟩ := hb
  have h3 : ¬ (50 : Int) < tn := by omega
  have h4 : ¬ (50 : Int) < mn := by omega
  obtain ⟨N, hN⟩ : ∃ N, max tn mn = N := ⟨_, rfl⟩
  have hNi := fun V => max_run (tn : Int) (mn : Int) V
  rw [show max (tn : Int) (mn : Int) = (N : Int) by omega] at hNi
  have hNb : N ≤ 50 := by omega
  have HNA := Lib.hid (show all t m = N by unfold all; rw [HLT.out, HLM.out, hN])
  have HCL := Lib.hid (show (ch t m most).length = N by unfold ch; rw [List.length_map, List.length_range, HNA.out])
  clear hN h1 h2
  have C1 := Lib.hid (Ac.choose T tn tc t M mn mc m most w1 (HT.out.bel K1.out) (HM.out.bel K1.out) (by omega) (by omega) m0 m1)
  go_wp2_with fail
  refine C1.out.mono ?_
  rintro e w2 ⟨v2, rfl, ho2, kb⟩
  obtain ⟨Ai, ci, rfl, hr2, _⟩ := ho2.rs bR
  rw [HCL.out] at hr2 ⊢
  have K2 := Lib.hid (K1.out.trans kb)
  have HC2 := Lib.hid hr2
  clear kb ho2 hr2 C1
  have C2 := Lib.hid (rank T tn tc t M mn mc m w2 (HT.out.bel K2.out) (HM.out.bel K2.out) (by omega) (by omega))
  go_wp2_with fail
  refine C2.out.mono ?_
  rintro e w3 ⟨v3, rfl, ho3, kb⟩
  obtain ⟨Ar, cr, rfl, hr3, _⟩ := ho3.rs iR
  obtain ⟨rn, hrn⟩ : ∃ rn, (rk t m).length = rn := ⟨_, rfl⟩
  rw [hrn] at hr3 ⊢
  have HRN := Lib.hid (show ct t m = rn by rw [← hrn, rk_len])
  have hrb : rn ≤ 50 := by
    have h1 : ct t m ≤ all t m := cnt_le _ _
    have := HNA.out
    have := HRN.out
    omega
  have K3 := Lib.hid (K2.out.trans kb)
  have HC := Lib.hid (HC2.out.bel kb)
  have HRK := Lib.hid hr3
  have CI := Lib.hid (fun k (hk : k ≤ 1000000000) => is_l M mn mc m k w3 (HM.out.bel K3.out) (by omega) hk)
  have CT := Lib.hid (fun k (hk : k ≤ 1000000000) => tok_l T tn tc t k w3 (HT.out.bel K3.out) (by omega) hk)
  clear kb ho3 hr3 C2 HC2 hrn
  have hne : ((N : Int) != N) = false := by simp
  go_wp2_with fail
  go_loopw [11, 12, 13] (fun s11 s12 s13 wr => ∃ i a b : Nat, s13 = .int .i64 i ∧ s11 = .int .i64 a ∧ s12 = .int .i64 b ∧ i ≤ N ∧ a ≤ i ∧ b ≤ i ∧ w3 = wr ∧ Hid (a = cnt (cn t m) i ∧ b = cnt (isb (ch t m most)) i)) (fun _ _ s13 _ => N - (intOf s13).toNat)
  case atStart => exact ⟨0, 0, 0, rfl, rfl, rfl, Nat.zero_le _, Nat.le_refl _, Nat.le_refl _, rfl, Lib.hid ⟨rfl, rfl⟩⟩
  case round =>
    obtain ⟨i, a, b, rfl, rfl, rfl, hi, ha, hbi, rfl, hab⟩ := hrel
    by_cases hlt : i < N
    · have hlt3 : (i : Int) < N := by omega
      have hlt0 : (0 : Int) ≤ i := by omega
      have hwi : IntKind.i64.wrap ((i : Int) + 1) = ((i + 1 : Nat) : Int) := by rw [IntWalk.i64_in _ (by omega)]; omega
      have hwa : IntKind.i64.wrap ((a : Int) + 1) = ((a + 1 : Nat) : Int) := by rw [IntWalk.i64_in _ (by omega)]; omega
      have hwb : IntKind.i64.wrap ((b : Int) + 1) = ((b + 1 : Nat) : Int) := by rw [IntWalk.i64_in _ (by omega)]; omega
      have E1 := Lib.hid (CI.out i (by omega))
      have E2 := Lib.hid (CT.out i (by omega))
      obtain ⟨bi, oi, rfl, _, cc⟩ := flag_at HC.out hlt
      have HCN := Lib.hid (show cn t m i = (isb m i && decide (0 < tk t i)) from rfl)
      have HIC := Lib.hid (isb_ch (most := most) (show i < all t m by rw [HNA.out]; exact hlt))
      obtain ⟨c, hc⟩ : ∃ c, cn t m i = c := ⟨_, rfl⟩
      obtain ⟨y, hy⟩ : ∃ y, isb (ch t m most) i = y := ⟨_, rfl⟩
      have HNX := Lib.hid (show ∀ a' b' : Nat, a' = a + (if c = true then 1 else 0) → b' = b + (if y = true then 1 else 0) → a' = cnt (cn t m) (i + 1) ∧ b' = cnt (isb (ch t m most)) (i + 1) from fun a' b' h1 h2 => ⟨by
        show a' = cnt (cn t m) i + (if cn t m i = true then 1 else 0)
        rw [hc, h1, hab.out.1], by
        show b' = cnt (isb (ch t m most)) i + (if isb (ch t m most) i = true then 1 else 0)
        rw [hy, h2, hab.out.2]⟩)
      have HCE := Lib.hid hc
      have HYE := Lib.hid hy
      rw [hy] at cc
      clear hab hc hy
      obtain ⟨x, hx⟩ : ∃ x, isb m i = x := ⟨_, rfl⟩
      obtain ⟨z, hz⟩ : ∃ z, tk t i = z := ⟨_, rfl⟩
      rw [hx] at E1
      rw [hz] at E2
      rw [hx, hz] at HCN
      have HCZ := Lib.hid (HCE.out.symm.trans HCN.out)
      clear hx HCN
      go_wp2_with fail
      refine E1.out.mono ?_
      rintro e wa ⟨rfl, rfl⟩
      cases c with
      | false =>
        have hyf : y = false := by
          have h := HIC.out
          rw [HCE.out, HYE.out] at h
          simpa using h
        subst hyf
        have HREL := Lib.hid (HNX.out a b rfl rfl)
        clear HNX HIC hz
        cases x with
        | false =>
          go_wp2_with fail
          go_loopw [15] (fun s15 wq => ∃ k : Nat, s15 = .int .i64 k ∧ k ≤ N ∧ w3 = wq) (fun s15 _ => N - (intOf s15).toNat)
          case atStart => exact ⟨0, rfl, Nat.zero_le _, rfl⟩
          case round =>
            obtain ⟨k, rfl, hk, rfl⟩ := hrel
            by_cases hlk : k < N
            · have hlk3 : (k : Int) < N := by omega
              have hlk0 : (0 : Int) ≤ k := by omega
              have hwk : IntKind.i64.wrap ((k : Int) + 1) = ((k + 1 : Nat) : Int) := by rw [IntWalk.i64_in _ (by omega)]; omega
              go_wp2_with fail
              go_roundw
              case rel => first | exact ⟨k + 1, rfl, by omega, by first | rfl | trivial⟩ | exact ⟨k + 1, rfl, by omega⟩ | exact ⟨k + 1, by omega, rfl⟩ | exact ⟨k + 1, by go_num, by omega⟩
              case measure => simp [intOf]; omega
            · obtain rfl : k = N := by omega
              go_wp2_with fail
              refine ⟨?_, ?measure⟩
              iterate 180 (first | refine Exists.intro (i + 1) (Exists.intro (a) (Exists.intro (b) ?_)) | apply Exists.intro | skip)
              exact ⟨rfl, rfl, rfl, by omega, by omega, by omega, by first | rfl | trivial, HREL⟩
              case measure => simp [intOf]; omega
              all_goals (first | exact undef | skip)
        | true =>
          have hz0 : ¬ 0 < z := by have := HCZ.out; simpa using this
          go_wp2_with fail
          refine E2.out.mono ?_
          rintro e wa ⟨rfl, rfl⟩
          go_wp2_with fail
          go_loopw [15] (fun s15 wq => ∃ k : Nat, s15 = .int .i64 k ∧ k ≤ N ∧ w3 = wq) (fun s15 _ => N - (intOf s15).toNat)
          case atStart => exact ⟨0, rfl, Nat.zero_le _, rfl⟩
          case round =>
            obtain ⟨k, rfl, hk, rfl⟩ := hrel
            by_cases hlk : k < N
            · have hlk3 : (k : Int) < N := by omega
              have hlk0 : (0 : Int) ≤ k := by omega
              have hwk : IntKind.i64.wrap ((k : Int) + 1) = ((k + 1 : Nat) : Int) := by rw [IntWalk.i64_in _ (by omega)]; omega
              go_wp2_with fail
              go_roundw
              case rel => first | exact ⟨k + 1, rfl, by omega, by first | rfl | trivial⟩ | exact ⟨k + 1, rfl, by omega⟩ | exact ⟨k + 1, by omega, rfl⟩ | exact ⟨k + 1, by go_num, by omega⟩
              case measure => simp [intOf]; omega
            · obtain rfl : k = N := by omega
              go_wp2_with fail
              refine ⟨?_, ?measure⟩
              iterate 180 (first | refine Exists.intro (i + 1) (Exists.intro (a) (Exists.intro (b) ?_)) | apply Exists.intro | skip)
              exact ⟨rfl, rfl, rfl, by omega, by omega, by omega, by first | rfl | trivial, HREL⟩
              case measure => simp [intOf]; omega
              all_goals (first | exact undef | skip)
      | true =>
        have hxz : x = true ∧ 0 < z := by have := HCZ.out.symm; simpa using this
        obtain ⟨rfl, hz0⟩ := hxz
        go_wp2_with fail
        refine E2.out.mono ?_
        rintro e wa ⟨rfl, rfl⟩
        cases y with
        | true =>
          have HREL := Lib.hid (HNX.out (a + 1) (b + 1) rfl rfl)
          clear HNX HIC hz
          go_wp2_with fail
          go_loopw [15] (fun s15 wq => ∃ k : Nat, s15 = .int .i64 k ∧ k ≤ N ∧ w3 = wq) (fun s15 _ => N - (intOf s15).toNat)
          case atStart => exact ⟨0, rfl, Nat.zero_le _, rfl⟩
          case round =>
            obtain ⟨k, rfl, hk, rfl⟩ := hrel
            by_cases hlk : k < N
            · have hlk3 : (k : Int) < N := by omega
              have hlk0 : (0 : Int) ≤ k := by omega
              have hwk : IntKind.i64.wrap ((k : Int) + 1) = ((k + 1 : Nat) : Int) := by rw [IntWalk.i64_in _ (by omega)]; omega
              go_wp2_with fail
              go_roundw
              case rel => first | exact ⟨k + 1, rfl, by omega, by first | rfl | trivial⟩ | exact ⟨k + 1, rfl, by omega⟩ | exact ⟨k + 1, by omega, rfl⟩ | exact ⟨k + 1, by go_num, by omega⟩
              case measure => simp [intOf]; omega
            · obtain rfl : k = N := by omega
              go_wp2_with fail
              refine ⟨?_, ?measure⟩
              iterate 180 (first | refine Exists.intro (i + 1) (Exists.intro (a + 1) (Exists.intro (b + 1) ?_)) | apply Exists.intro | skip)
              exact ⟨rfl, rfl, rfl, by omega, by omega, by omega, by first | rfl | trivial, HREL⟩
              case measure => simp [intOf]; omega
              all_goals (first | exact undef | skip)
        | false =>
          have HREL := Lib.hid (HNX.out (a + 1) b rfl rfl)
          have HCI := Lib.hid (show cn t m i = true from HCE.out)
          have HNM := Lib.hid (show ¬ ((ah t m i : Int) < most) from fun h => by
            have h2 := HIC.out
            rw [HCE.out, HYE.out] at h2
            simp [h] at h2)
          clear HNX HIC hz
          go_wp2_with fail
          go_loopw [15] (fun s15 wq => ∃ k : Nat, s15 = .int .i64 k ∧ k ≤ N ∧ w3 = wq) (fun s15 _ => N - (intOf s15).toNat)
          case atStart => exact ⟨0, rfl, Nat.zero_le _, rfl⟩
          case round =>
            obtain ⟨k, rfl, hk, rfl⟩ := hrel
            by_cases hlk : k < N
            · have hlk3 : (k : Int) < N := by omega
              have hlk0 : (0 : Int) ≤ k := by omega
              have hwk : IntKind.i64.wrap ((k : Int) + 1) = ((k + 1 : Nat) : Int) := by rw [IntWalk.i64_in _ (by omega)]; omega
              obtain ⟨bk, ok, hAk, _, ck⟩ := flag_at HC.out hlk
              injection hAk with hAk
              injection hAk with e1 e2
              subst e1 e2
              have HIK := Lib.hid (show isb (ch t m most) k = true → rich t k i = true from fun h => by
                rw [isb_ch (by rw [HNA.out]; exact hlk), Bool.and_eq_true, decide_eq_true_iff] at h
                exact ah_rich h.1 HCI.out (by have := HNM.out; omega))
              have HRI := Lib.hid (show rich t k i = true → tk t i < tk t k ∨ (tk t k = tk t i ∧ k < i) from rich_t.1)
              have D1 := Lib.hid (CT.out i (by omega))
              have D2 := Lib.hid (CT.out k (by omega))
              obtain ⟨y, hy⟩ : ∃ y, isb (ch t m most) k = y := ⟨_, rfl⟩
              rw [hy] at ck HIK
              clear hy
              cases y with
              | false =>
                go_wp2_with fail
                go_roundw
                case rel => first | exact ⟨k + 1, rfl, by omega, by first | rfl | trivial⟩ | exact ⟨k + 1, rfl, by omega⟩ | exact ⟨k + 1, by omega, rfl⟩ | exact ⟨k + 1, by go_num, by omega⟩
                case measure => simp [intOf]; omega
              | true =>
                have hor := HRI.out (HIK.out rfl)
                clear HRI HIK
                generalize tk t i = p at *
                generalize tk t k = q at *
                have hpq : ¬ q < p := by omega
                go_wp2_with fail
                refine D1.out.mono ?_
                rintro e wa ⟨rfl, rfl⟩
                go_wp2_with fail
                refine D2.out.mono ?_
                rintro e wa ⟨rfl, rfl⟩
                by_cases he : p = q
                · subst he
                  have hik : ¬ (i : Int) < k := by omega
                  have hee : (p == p) = true := by simp
                  clear hor hpq
                  go_wp2_with fail
                  refine D1.out.mono ?_
                  rintro e wa ⟨rfl, rfl⟩
                  go_wp2_with fail
                  refine D2.out.mono ?_
                  rintro e wa ⟨rfl, rfl⟩
                  go_wp2_with fail
                  go_roundw
                  case rel => first | exact ⟨k + 1, rfl, by omega, by first | rfl | trivial⟩ | exact ⟨k + 1, rfl, by omega⟩ | exact ⟨k + 1, by omega, rfl⟩ | exact ⟨k + 1, by go_num, by omega⟩
                  case measure => simp [intOf]; omega
                · have hee : (p == q) = false := by simpa using he
                  clear hor
                  go_wp2_with fail
                  refine D1.out.mono ?_
                  rintro e wa ⟨rfl, rfl⟩
                  go_wp2_with fail
                  refine D2.out.mono ?_
                  rintro e wa ⟨rfl, rfl⟩
                  go_wp2_with fail
                  go_roundw
                  case rel => first | exact ⟨k + 1, rfl, by omega, by first | rfl | trivial⟩ | exact ⟨k + 1, rfl, by omega⟩ | exact ⟨k + 1, by omega, rfl⟩ | exact ⟨k + 1, by go_num, by omega⟩
                  case measure => simp [intOf]; omega
            · obtain rfl : k = N := by omega
              go_wp2_with fail
              refine ⟨?_, ?measure⟩
              iterate 180 (first | refine Exists.intro (i + 1) (Exists.intro (a + 1) (Exists.intro (b) ?_)) | apply Exists.intro | skip)
              exact ⟨rfl, rfl, rfl, by omega, by omega, by omega, by first | rfl | trivial, HREL⟩
              case measure => simp [intOf]; omega
              all_goals (first | exact undef | skip)
    · obtain rfl : i = N := by omega
      have HAB := Lib.hid (show a = rn ∧ (b : Int) = min (rn : Int) (max most 0) from ⟨by rw [hab.out.1, ← HRN.out]; unfold ct; rw [HNA.out], by
        have h := many_in t m most
        rw [HNA.out, HRN.out] at h
        rw [hab.out.2]; exact h⟩)
      obtain rfl : a = rn := HAB.out.1
      have hmx := fun V => max_run most 0 V
      obtain ⟨E, hE⟩ : ∃ E, max most 0 = E := ⟨_, rfl⟩
      rw [hE] at hmx
      have hmi := fun V => min_run (a : Int) E V
      rw [show min (a : Int) E = (b : Int) by rw [← hE]; exact HAB.out.2.symm] at hmi
      have HBE := Lib.hid (show ∀ n : Nat, n < a → (n < b ↔ (n : Int) < most) from fun n hn => by
        have := HAB.out.2
        omega)
      have hn1 : ((a : Int) != a) = false := by simp
      have hn2 : ((b : Int) != b) = false := by simp
      clear hE hab
      go_wp2_with fail
      go_loopw [17] (fun s17 wq => ∃ n : Nat, s17 = .int .i64 n ∧ n ≤ a ∧ w3 = wq) (fun s17 _ => a - (intOf s17).toNat)
      case atStart => exact ⟨0, rfl, Nat.zero_le _, rfl⟩
      case round =>
        obtain ⟨n, rfl, hn, rfl⟩ := hrel
        by_cases hln : n < a
        · have hln3 : (n : Int) < a := by omega
          have hln0 : (0 : Int) ≤ n := by omega
          have hwn : IntKind.i64.wrap ((n : Int) + 1) = ((n + 1 : Nat) : Int) := by rw [IntWalk.i64_in _ (by omega)]; omega
          obtain ⟨br, or', x, rfl, _, hx, cx⟩ := iat HRK.out hln
          have hxr := rk_at hx
          have hxN : x < i := by rw [← HNA.out]; exact cn_all hxr.1
          obtain ⟨bc, oc, rfl, _, cy⟩ := flag_at HC.out hxN
          have HY := Lib.hid (show isb (ch t m most) x = decide (n < b) from by
            rw [isb_ch (by rw [HNA.out]; exact hxN), hxr.1, hxr.2, Bool.true_and]
            have := HBE.out n hln
            rw [Bool.eq_iff_iff, decide_eq_true_iff, decide_eq_true_iff]
            exact this.symm)
          obtain ⟨y, hy⟩ : ∃ y, isb (ch t m most) x = y := ⟨_, rfl⟩
          rw [hy] at cy HY
          have hx0 : ¬ (x : Int) < 0 := by omega
          have hx00 : (0 : Int) ≤ x := by omega
          have hx1 : ¬ (i : Int) ≤ x := by omega
          have hx2 : (x : Int) < i := by omega
          clear hy hx hxr
          by_cases hnb : n < b
          · obtain rfl : y = true := by rw [HY.out]; simp [hnb]
            have hnb3 : (n : Int) < b := by omega
            go_wp2_with fail
            go_roundw
            case rel => exact ⟨n + 1, rfl, by omega, by first | rfl | trivial⟩
            case measure => simp [intOf]; omega
          · obtain rfl : y = false := by rw [HY.out]; simp [hnb]
            have hnb3 : ¬ (n : Int) < b := by omega
            go_wp2_with fail
            go_roundw
            case rel => exact ⟨n + 1, rfl, by omega, by first | rfl | trivial⟩
            case measure => simp [intOf]; omega
        · obtain rfl : n = a := by omega
          go_wp2_with fail
          go_ret
          exact ⟨rfl, K3.out⟩
/-- ActiveRichest, as its arguments come in. -/
theorem richestW (T : Option Addr) (tn tc : Nat) (M : Option Addr) (mn mc : Nat) (most : Int) (w : World) (h1 : tn ≤ 9223372036854775807) (i0 : Wrds w T tn tc) (h2 : mn ≤ 9223372036854775807) (i1 : Bols w M mn mc) (m0 : -9223372036854775808 ≤ most) (m1 : most ≤ 9223372036854775807) :
    Calls Try.prog 5 #[.slice T tn tc, .slice M mn mc, .int .i64 most] w fun e w' => e = .returned (.bool true) ∧ Bel w w' := by
  obtain ⟨t, ht, hw⟩ := wrds_rs i0
  obtain ⟨m, hm⟩ := bols_rs i1
  exact richestLaw T tn tc t M mn mc m most w ht hm (wds_of hw) h1 h2 m0 m1
end Ac
end Go.Proofs.Ytmbodfmdaocppaa
