/-
  The walk of the law ActiveQuorums: a quorum is the least that is more than two thirds. Conditions: the arguments read as words and bools.
-/
import Derived.Test.YtmbodfmdaocppaaAcM5
import Derived.Test.YtmbodfmdaocppaaAcG
namespace Go.Proofs.Ytmbodfmdaocppaa
open Go.RowKit Go.Shelf
set_option linter.unusedVariables false
set_option linter.unusedSimpArgs false
namespace Ac
open Kk Pm Ro

theorem sml_at {t : List Int} {i : Nat} {x : Int} (h : t[i]? = some x) : (sml t)[i]? = some (x % 1125899906842624) := by
  unfold sml
  rw [List.getElem?_map, h]; rfl
set_option maxRecDepth 100000 in
set_option maxHeartbeats 16000000 in
theorem quorumsLaw (s : Int) (T : Option Addr) (tn tc : Nat) (t : List Int) (M : Option Addr) (mn mc : Nat) (m : List Bool) (w : World) (s0 : 0 ≤ s) (s1 : s ≤ 18446744073709551615) (ht : Rw.RS uR w T tn tc t) (hm : Rw.RS bR w M mn mc m) (hwt : ∀ x ∈ t, 0 ≤ x ∧ x ≤ 18446744073709551615) (h1 : tn ≤ 9223372036854775807) (h2 : mn ≤ 9223372036854775807) :
    Calls Try.prog 7 #[.int .u64 s, .slice T tn tc, .slice M mn mc] w fun e w' => e = .returned (.bool true) ∧ Kk.Bel w w' := by
  have KN := Lib.hid (known w)
  have HT := Lib.hid ht
  have HM := Lib.hid hm
  have HLT := Lib.hid ht.len
  have HLM := Lib.hid hm.len
  have HW := Lib.hid hwt
  clear ht hm hwt
  go_enter Try.func7, Try.ntmps7
  go_wp2_with fail
  refine KN.out.mono ?_
  rintro e w1 ⟨rfl, kb⟩
  have K1 := Lib.hid kb
  clear kb KN
  by_cases hb : tn ≤ 30 ∧ mn ≤ 30
  case neg =>
    by_cases h3 : (30 : Int) < tn
    · go_wp2_with fail
      go_ret
      exact ⟨rfl, K1.out⟩
    · have h4 : (30 : Int) < mn := by omega
      go_wp2_with fail
      go_ret
      exact ⟨rfl, K1.out⟩
  obtain ⟨hb1, hb2⟩ := hb
  have h3 : ¬ (30 : Int) < tn := by omega
  have h4 : ¬ (30 : Int) < mn := by omega
  obtain ⟨q, hq⟩ : ∃ q, quo s = q := ⟨_, rfl⟩
  have hqb : 1 ≤ q ∧ q ≤ 12297829382473034411 ∧ 2 * s < 3 * q ∧ 3 * (q - 1) ≤ 2 * s := by unfold quo at hq; omega
  have C0 := Lib.hid (quorum_ s w1 s0 s1)
  rw [hq] at C0
  clear hq h1 h2
  go_wp2_with fail
  refine C0.out.mono ?_
  rintro e w2 ⟨rfl, kb⟩
  have K2 := Lib.hid (K1.out.trans kb)
  clear kb C0 K1
  have C1 := Lib.hid (AcG.great_ s w2 s0 s1)
  go_wp2_with fail
  refine C1.out.mono ?_
  rintro e w3 ⟨v3, rfl, g, kb⟩
  have K3 := Lib.hid kb
  have G3 := Lib.hid g
  clear kb g C1
  have C2 := Lib.hid (AcG.great_ 2 w3 (by decide) (by decide))
  go_wp2_with fail
  refine C2.out.mono ?_
  rintro e w4 ⟨v4, rfl, g, kb⟩
  have C3 := Lib.hid (AcG.times_ v3 v4 s 2 4 4 w4 (AcG.keep G3.out kb) g (by decide) (by decide))
  have K4 := Lib.hid (K3.out.trans kb)
  clear kb g C2
  go_wp2_with fail
  refine C3.out.mono ?_
  rintro e w5 ⟨v5, rfl, g, kb⟩
  have K5 := Lib.hid (K2.out.trans (K4.out.trans kb))
  have G5 := Lib.hid g
  clear kb g C3 K3 K4 G3
  have hq0 : (q == 0) = false := by
    have : ¬ q = 0 := by omega
    simpa using this
  have hqs : IntKind.u64.wrap (q - 1) = q - 1 := IntWalk.u64_in _ (by omega)
  have C6 := Lib.hid (AcG.thrice_ q w5 (by omega) (by omega))
  go_wp2_with fail
  refine C6.out.mono ?_
  rintro e w6 ⟨v6, rfl, g, kb⟩
  have K6 := Lib.hid kb
  have C7 := Lib.hid (AcG.less_ v5 v6 (s * 2) (q * 3) 9 9 true w6 (AcG.keep G5.out kb) g (by decide) (by decide) (decide_eq_true (by omega)))
  clear kb g C6
  go_wp2_with fail
  refine C7.out.mono ?_
  rintro e w7 ⟨rfl, kb⟩
  have K7 := Lib.hid (K6.out.trans kb)
  clear kb C7 K6
  have C8 := Lib.hid (AcG.thrice_ (q - 1) w7 (by omega) (by omega))
  go_wp2_with fail
  refine C8.out.mono ?_
  rintro e w8 ⟨v8, rfl, g, kb⟩
  have K8 := Lib.hid (K7.out.trans kb)
  have C9 := Lib.hid (AcG.less_ v5 v8 (s * 2) ((q - 1) * 3) 9 9 false w8 (AcG.keep G5.out K8.out) g (by decide) (by decide) (decide_eq_false (by omega)))
  clear kb g C8 K7
  go_wp2_with fail
  refine C9.out.mono ?_
  rintro e w9 ⟨rfl, kb⟩
  have K9 := Lib.hid (K5.out.trans (K8.out.trans kb))
  clear kb C9 K8 G5 K5
  have D1 := Lib.hid (AcG.great_ s w9 s0 s1)
  go_wp2_with fail
  refine D1.out.mono ?_
  rintro e wa ⟨va, rfl, g, kb⟩
  have L1 := Lib.hid kb
  have GA := Lib.hid g
  clear kb g D1
  have D2 := Lib.hid (AcG.great_ q wa (by omega) (by omega))
  go_wp2_with fail
  refine D2.out.mono ?_
  rintro e wb ⟨vb, rfl, g, kb⟩
  have L2 := Lib.hid kb
  have GB := Lib.hid g
  clear kb g D2
  have D3 := Lib.hid (AcG.great_ q wb (by omega) (by omega))
  go_wp2_with fail
  refine D3.out.mono ?_
  rintro e wc ⟨vc, rfl, g, kb⟩
  have L3 := Lib.hid kb
  have D4 := Lib.hid (AcG.sum_ vb vc q q 4 4 wc (AcG.keep GB.out kb) g (by decide) (by decide))
  clear kb g D3
  go_wp2_with fail
  refine D4.out.mono ?_
  rintro e wd ⟨vd, rfl, g, kb⟩
  have L4 := Lib.hid (L2.out.trans (L3.out.trans kb))
  have D5 := Lib.hid (AcG.less_ va vd s (q + q) 4 9 true wd (AcG.keep GA.out L4.out) g (by decide) (by decide) (decide_eq_true (by omega)))
  clear kb g D4 L2 L3
  go_wp2_with fail
  refine D5.out.mono ?_
  rintro e we ⟨rfl, kb⟩
  have KE := Lib.hid (K9.out.trans (L1.out.trans (L4.out.trans kb)))
  clear kb D5 L1 L4 K9 GA GB hqb hq0 hqs
  go_wp2_with fail
  go_loopw [10, 11] (fun s10 s11 wr => ∃ k : Nat, s11 = .int .i64 k ∧ k ≤ tn ∧ Hid (OwnW wr w.heap.size s10 ((sml t).take k) ∧ Kk.Bel w wr)) (fun _ s11 _ => tn - (intOf s11).toNat)
  case atStart => exact ⟨0, rfl, Nat.zero_le _, Lib.hid ⟨by simpa using Rw.OwnR.nil_ uR _ we _, KE.out⟩⟩
  case round =>
    obtain ⟨k, rfl, hk, hh⟩ := hrel
    have HO := Lib.hid hh.out.1
    have HB := Lib.hid hh.out.2
    clear hh
    by_cases hlt : k < tn
    · have hlt3 : (k : Int) < tn := by omega
      have hlt0 : (0 : Int) ≤ k := by omega
      have hw1 : IntKind.i64.wrap ((k : Int) + 1) = ((k + 1 : Nat) : Int) := by rw [IntWalk.i64_in _ (by omega)]; omega
      obtain ⟨b, o, x, rfl, _, hx, hc⟩ := wat (HT.out.bel HB.out) hlt
      have hxb := HW.out x (List.mem_of_getElem? hx)
      obtain ⟨y, hy⟩ : ∃ y, x % 1125899906842624 = y := ⟨_, rfl⟩
      have hmod : Int.tmod x 1125899906842624 = y := by rw [Int.tmod_eq_emod_of_nonneg hxb.1, hy]
      have HS := Lib.hid (show (sml t).take (k + 1) = (sml t).take k ++ [y] by rw [List.take_add_one, sml_at hx, hy]; rfl)
      have HLN := Lib.hid (show ((sml t).take k).length ≤ k from by rw [List.length_take]; exact Nat.min_le_left _ _)
      have HX := Lib.hid (Rw.rs_one uR (r := y) (Blk.new wr #[.int .u64 y] 36))
      have HO3 := Lib.hid (HO.out.bel ((Kk.Bel.refl wr).alloc (.cells #[.int .u64 y] 36)))
      have HB3 := Lib.hid (HB.out.alloc (.cells #[.int .u64 y] 36))
      clear hx hxb
      go_wp2_with (at_builtin; refine append_w rfl _ _ 22 rfl Try.underlying22 w.heap.size _ _ rfl HO3.out (some ⟨wr.heap.size, 0, none⟩) 1 1 [y] rfl HX.out (by have := HLN.out; omega) (Below.size HB3.out) ?_; intro v4 w4 hO4 hg4)
      have HF := Lib.hid (show OwnW w4 w.heap.size v4 ((sml t).take (k + 1)) ∧ Kk.Bel w w4 from ⟨by rw [HS.out]; exact hO4, HB3.out.grown hg4 (fun k hk => Rw.own_ge HO3.out hk)⟩)
      clear hO4 hg4 hy hmod
      go_wp2_with fail
      refine ⟨?_, ?measure⟩
      iterate 120 (first | refine Exists.intro (k + 1) ?_ | apply Exists.intro | skip)
      exact ⟨rfl, by omega, HF⟩
      case measure => simp [intOf]; omega
      all_goals (first | exact undef | skip)
    · obtain rfl : k = tn := by omega
      have HO2 := Lib.hid (show OwnW wr w.heap.size u10 (sml t) from by have h := HO.out; rwa [List.take_of_length_le (by rw [sml_len, HLT.out]; exact Nat.le_refl _)] at h)
      clear HO
      go_wp2_with fail
      go_loopw [12, 13] (fun s12 s13 wq => ∃ i c : Nat, s13 = .int .i64 i ∧ s12 = .int .u64 c ∧ i ≤ mn ∧ c ≤ i ∧ wr = wq ∧ Hid (c = cnt (isb m) i)) (fun _ s13 _ => mn - (intOf s13).toNat)
      case atStart => exact ⟨0, 0, rfl, rfl, Nat.zero_le _, Nat.le_refl _, rfl, Lib.hid rfl⟩
      case round =>
        obtain ⟨i, c, rfl, rfl, hi, hci, rfl, hc⟩ := hrel
        by_cases hli : i < mn
        · have hli3 : (i : Int) < mn := by omega
          have hli0 : (0 : Int) ≤ i := by omega
          have hwi : IntKind.i64.wrap ((i : Int) + 1) = ((i + 1 : Nat) : Int) := by rw [IntWalk.i64_in _ (by omega)]; omega
          have hwc : IntKind.u64.wrap ((c : Int) + 1) = ((c + 1 : Nat) : Int) := by rw [IntWalk.u64_in _ (by omega)]; omega
          obtain ⟨b, o, rfl, _, cc⟩ := flag_at (HM.out.bel HB.out) hli
          obtain ⟨y, hy⟩ : ∃ y, isb m i = y := ⟨_, rfl⟩
          have HN := Lib.hid (show ∀ c', c' = c + (if y = true then 1 else 0) → c' = cnt (isb m) (i + 1) from fun c' h => by
            show c' = cnt (isb m) i + (if isb m i = true then 1 else 0)
            rw [hy, h, hc.out])
          rw [hy] at cc
          clear hy hc
          cases y with
          | false =>
            have HF := Lib.hid (HN.out c rfl)
            clear HN
            go_wp2_with fail
            refine ⟨?_, ?measure⟩
            iterate 120 (first | refine Exists.intro (i + 1) (Exists.intro (c) ?_) | apply Exists.intro | skip)
            exact ⟨rfl, rfl, by omega, by omega, by first | rfl | trivial, HF⟩
            case measure => simp [intOf]; omega
            all_goals (first | exact undef | skip)
          | true =>
            have HF := Lib.hid (HN.out (c + 1) rfl)
            clear HN
            go_wp2_with fail
            refine ⟨?_, ?measure⟩
            iterate 120 (first | refine Exists.intro (i + 1) (Exists.intro (c + 1) ?_) | apply Exists.intro | skip)
            exact ⟨rfl, rfl, by omega, by omega, by first | rfl | trivial, HF⟩
            case measure => simp [intOf]; omega
            all_goals (first | exact undef | skip)
        · obtain rfl : i = mn := by omega
          obtain ⟨A5, c5, rfl, hr5, _⟩ := HO2.out.rs uR
          rw [sml_len, HLT.out] at hr5 ⊢
          have HR5 := Lib.hid hr5
          obtain ⟨l, q1, q2, q3, q4, q5, q6, q7, q8⟩ := quorum_sum t m i hb2
          rw [← hc.out] at q2 q3 q5 q8
          have CF := Lib.hid (floor_ A5 k c5 (sml t) M i mc m wr hr5 (HM.out.bel HB.out) (by omega) (by omega) (fun j => by have := sml_tk t j; omega))
          have CS := fun V (hV : Kk.Bel wr V) => sum_ A5 k c5 (sml t) M i mc m V (hr5.bel hV) ((HM.out.bel HB.out).bel hV) (by omega) (by omega) (fun j => by have := sml_tk t j; omega)
          rw [q1] at CF CS
          rw [q4] at CS
          have CS := Lib.hid CS
          obtain ⟨f1, hf1⟩ : ∃ f1, (flo l).1 = f1 := ⟨_, rfl⟩
          obtain ⟨f2, hf2⟩ : ∃ f2, (flo l).2 = f2 := ⟨_, rfl⟩
          obtain ⟨ss, hss⟩ : ∃ ss, l.sum = ss := ⟨_, rfl⟩
          rw [hf1, hf2] at CF
          rw [hss] at CS q5 q6
          rw [hf1] at q5 q7 q8
          rw [hf2] at q3
          obtain ⟨pr, hpr⟩ : ∃ pr, (c : Int) * f1 = pr := ⟨_, rfl⟩
          rw [hpr] at q5 q8
          have hmul : IntKind.u64.wrap ((c : Int) * f1) = pr := by rw [hpr]; exact IntWalk.u64_in _ (by omega)
          clear hpr hf1 hf2 hss hc hr5 q1 q2 q4
          go_wp2_with fail
          refine CF.out.mono ?_
          rintro e wg ⟨rfl, kb⟩
          have KG := Lib.hid kb
          clear kb CF
          by_cases hc0 : 0 < c
          · have hc3 : (0 : Int) < c := by omega
            obtain rfl : f2 = true := by rw [q3]; simp [hc0]
            clear q3
            have C9 := Lib.hid (CS.out wg KG.out)
            clear CS
            go_wp2_with fail
            refine C9.out.mono ?_
            rintro e wh ⟨rfl, kb⟩
            have KH := Lib.hid (HB.out.trans (KG.out.trans kb))
            clear kb C9
            go_wp2_with fail
            go_ret
            exact ⟨rfl, KH.out⟩
          · have hc3 : ¬ (0 : Int) < c := by omega
            obtain rfl : f2 = false := by rw [q3]; simp [hc0]
            clear q3
            have C9 := Lib.hid (CS.out wg KG.out)
            clear CS
            go_wp2_with fail
            refine C9.out.mono ?_
            rintro e wh ⟨rfl, kb⟩
            have KH := Lib.hid (HB.out.trans (KG.out.trans kb))
            clear kb C9
            go_wp2_with fail
            go_ret
            exact ⟨rfl, KH.out⟩
/-- ActiveQuorums, as its arguments come in. -/
theorem quorumsW (s : Int) (T : Option Addr) (tn tc : Nat) (M : Option Addr) (mn mc : Nat) (w : World) (s0 : 0 ≤ s) (s1 : s ≤ 18446744073709551615) (h1 : tn ≤ 9223372036854775807) (i0 : Wrds w T tn tc) (h2 : mn ≤ 9223372036854775807) (i1 : Bols w M mn mc) :
    Calls Try.prog 7 #[.int .u64 s, .slice T tn tc, .slice M mn mc] w fun e w' => e = .returned (.bool true) ∧ Kk.Bel w w' := by
  obtain ⟨t, ht, hw⟩ := wrds_rs i0
  obtain ⟨m, hm⟩ := bols_rs i1
  exact quorumsLaw s T tn tc t M mn mc m w s0 s1 ht hm hw h1 h2
end Ac
end Go.Proofs.Ytmbodfmdaocppaa
