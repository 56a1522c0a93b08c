/-
  What container/heap's Push and Pop answer of a ranking. Conditions: at most a million validators.
-/
import Derived.Test.YtmbodfmdaocppaaAc1
namespace Go.Proofs.Ytmbodfmdaocppaa
open Go.RowKit Go.Shelf
set_option linter.unusedVariables false
set_option linter.unusedSimpArgs false
namespace Ac
open Kk Pm Ro

set_option maxRecDepth 100000 in
set_option maxHeartbeats 2000000 in
theorem down_ {p g cap : Nat} {T : Option Addr} {tn tc : Nat} {t : List Int} {f : Nat → Nat} {n x : Nat} {S : Nat → Prop} (w : World) (h : Rg w p g cap T tn tc t f (n + 1)) (hB : Bag S f (n + 1)) (hD : Dn t f n 0) (hx : f n = x) (ht : tn ≤ 1000000000) :
    Calls Try.prog 52 #[.iface 51 (.pointer (some ⟨p, 0, none⟩)), .int .i64 0, .int .i64 n] w fun e w' => ∃ b : Bool, e = .returned (.bool b) ∧ ∃ f', Rg w' p g cap T tn tc t f' (n + 1) ∧ Bag S f' (n + 1) ∧ Heap t f' n ∧ f' n = x ∧ Kep (fun b => b = g) w w' := by
  have H0 := Lib.hid (show ∃ f', Rg w p g cap T tn tc t f' (n + 1) ∧ Bag S f' (n + 1) ∧ Dn t f' n 0 ∧ f' n = x ∧ Kep (fun b => b = g) w w from ⟨f, h, hB, hD, hx, Kep.refl _ _⟩)
  have hfew := h.few
  have ML := m_less p
  clear h hB hD hx
  go_enter Try.func52, Try.ntmps52
  go_wp2_with fail
  go_loopw [7] (fun s7 wr => ∃ k : Nat, s7 = .int .i64 k ∧ k ≤ n ∧ Hid (∃ f', Rg wr p g cap T tn tc t f' (n + 1) ∧ Bag S f' (n + 1) ∧ Dn t f' n k ∧ f' n = x ∧ Kep (fun b => b = g) w wr)) (fun s7 _ => n - (intOf s7).toNat)
  case atStart => exact ⟨0, rfl, Nat.zero_le _, H0⟩
  case round =>
    obtain ⟨k, rfl, hk, hh⟩ := hrel
    clear H0
    obtain ⟨f', hR, hB, hD, hT, hK⟩ := hh.out
    have HR1 := Lib.hid hR
    have HB := Lib.hid hB
    have HD := Lib.hid hD
    have HT := Lib.hid hT
    have HK1 := Lib.hid hK
    clear hR hB hD hT hK hh
    obtain ⟨j1, hj1⟩ : ∃ j1, 2 * k + 1 = j1 := ⟨_, rfl⟩
    obtain ⟨j2, hj2⟩ : ∃ j2, 2 * k + 2 = j2 := ⟨_, rfl⟩
    obtain ⟨j0, hj0⟩ : ∃ j0, 2 * k = j0 := ⟨_, rfl⟩
    have hw1 : IntKind.i64.wrap (2 * (k : Int)) = (j0 : Int) := by rw [IntWalk.i64_in _ (by omega)]; omega
    have hw2 : IntKind.i64.wrap ((j0 : Int) + 1) = (j1 : Int) := by rw [IntWalk.i64_in _ (by omega)]; omega
    have hw3 : IntKind.i64.wrap ((j1 : Int) + 1) = (j2 : Int) := by rw [IntWalk.i64_in _ (by omega)]; omega
    have HJ1 := Lib.hid hj1
    have HJ2 := Lib.hid hj2
    clear hj0
    by_cases hin : n ≤ j1
    · have hge : (n : Int) ≤ j1 := by omega
      clear hj1 hj2
      go_wp2_with fail
      go_ret
      exact ⟨_, rfl, f', HR1.out, HB.out, HD.out.done (fun c c0 hc hq => by have := HJ1.out; omega), HT.out, HK1.out⟩
    · have hge : ¬ (n : Int) ≤ j1 := by omega
      have hge3 : (j1 : Int) < n := by omega
      have hge0 : ¬ (j1 : Int) < 0 := by omega
      by_cases h2 : j2 < n
      · have hl2 : (j2 : Int) < n := by omega
        have C2 := Lib.hid (less_ j2 j1 _ HR1.out (by omega) (by omega) ht)
        obtain ⟨y, hy⟩ : ∃ y, rich t (f' j2) (f' j1) = y := ⟨_, rfl⟩
        rw [hy] at C2
        have HY := Lib.hid hy
        clear hy hj1 hj2
        go_wp2_with fail
        refine C2.out.mono ?_
        rintro e w2 ⟨rfl, kb⟩
        have HR1' := Lib.hid (HR1.out.bel kb)
        have HK1' := Lib.hid (HK1.out.trans (Kep.of_bel kb))
        clear kb C2 HR1 HK1
        have HR1 := HR1'
        have HK1 := HK1'
        clear HR1' HK1'
        cases y with
        | true =>
          have HS := Lib.hid (show ∀ c, 0 < c → c < n → (c - 1) / 2 = k → rich t (f' c) (f' j2) = false from fun c c0 hc hq => by
            have := HJ1.out; have := HJ2.out
            rcases (show c = j1 ∨ c = j2 by omega) with rfl | rfl
            · exact rich_asym HY.out
            · exact rich_irr _ _)
          have hj2 := HJ2.out
          have CL := Lib.hid (less_ j2 k _ (HR1.out) (by omega) (by omega) ht)
          obtain ⟨z, hz⟩ : ∃ z, rich t (f' (j2)) (f' k) = z := ⟨_, rfl⟩
          rw [hz] at CL
          have HZ := Lib.hid hz
          clear hz
          go_wp2_with fail
          refine CL.out.mono ?_
          rintro e w3 ⟨rfl, kb⟩
          have HR3 := Lib.hid (HR1.out.bel kb)
          have HK3 := Lib.hid (HK1.out.trans (Kep.of_bel kb))
          clear kb CL HR1 HK1
          cases z with
          | false =>
            go_wp2_with fail
            go_ret
            exact ⟨_, rfl, f', HR3.out, HB.out, HD.out.done (fun c c0 hc hq => rich_ntrans (HS.out c c0 hc hq) HZ.out), HT.out, HK3.out⟩
          | true =>
            have MS := m_swap (HR3.out.blk.cell 0 rfl)
            have CS := Lib.hid (swapR k j2 w3 HR3.out (by omega) (by omega))
            have NU := Lib.hid (HD.out.step (j := j2) (by omega) (by omega) (by omega) HS.out HZ.out)
            have NB := Lib.hid (HB.out.sw (i := k) (j := j2) (by omega) (by omega))
            have NT := Lib.hid (show sw f' k (j2) n = x by rw [sw_k (by omega) (by omega)]; exact HT.out)
            go_wp2_with fail
            refine CS.out.mono ?_
            rintro e w4 ⟨rfl, hr, kb⟩
            have HR4 := Lib.hid hr
            have HK4 := Lib.hid (HK3.out.trans kb)
            clear hr kb
            go_wp2_with fail
            go_roundw
            case rel => exact ⟨j2, rfl, by omega, Lib.hid ⟨_, HR4.out, NB.out, NU.out, NT.out, HK4.out⟩⟩
            case measure => simp [intOf]; omega
        | false =>
          have HS := Lib.hid (show ∀ c, 0 < c → c < n → (c - 1) / 2 = k → rich t (f' c) (f' j1) = false from fun c c0 hc hq => by
            have := HJ1.out; have := HJ2.out
            rcases (show c = j1 ∨ c = j2 by omega) with rfl | rfl
            · exact rich_irr _ _
            · exact HY.out)
          have hj1 := HJ1.out
          have CL := Lib.hid (less_ j1 k _ (HR1.out) (by omega) (by omega) ht)
          obtain ⟨z, hz⟩ : ∃ z, rich t (f' (j1)) (f' k) = z := ⟨_, rfl⟩
          rw [hz] at CL
          have HZ := Lib.hid hz
          clear hz
          go_wp2_with fail
          refine CL.out.mono ?_
          rintro e w3 ⟨rfl, kb⟩
          have HR3 := Lib.hid (HR1.out.bel kb)
          have HK3 := Lib.hid (HK1.out.trans (Kep.of_bel kb))
          clear kb CL HR1 HK1
          cases z with
          | false =>
            go_wp2_with fail
            go_ret
            exact ⟨_, rfl, f', HR3.out, HB.out, HD.out.done (fun c c0 hc hq => rich_ntrans (HS.out c c0 hc hq) HZ.out), HT.out, HK3.out⟩
          | true =>
            have MS := m_swap (HR3.out.blk.cell 0 rfl)
            have CS := Lib.hid (swapR k j1 w3 HR3.out (by omega) (by omega))
            have NU := Lib.hid (HD.out.step (j := j1) (by omega) (by omega) (by omega) HS.out HZ.out)
            have NB := Lib.hid (HB.out.sw (i := k) (j := j1) (by omega) (by omega))
            have NT := Lib.hid (show sw f' k (j1) n = x by rw [sw_k (by omega) (by omega)]; exact HT.out)
            go_wp2_with fail
            refine CS.out.mono ?_
            rintro e w4 ⟨rfl, hr, kb⟩
            have HR4 := Lib.hid hr
            have HK4 := Lib.hid (HK3.out.trans kb)
            clear hr kb
            go_wp2_with fail
            go_roundw
            case rel => exact ⟨j1, rfl, by omega, Lib.hid ⟨_, HR4.out, NB.out, NU.out, NT.out, HK4.out⟩⟩
            case measure => simp [intOf]; omega
      · have hl2 : ¬ (j2 : Int) < n := by omega
        have HS := Lib.hid (show ∀ c, 0 < c → c < n → (c - 1) / 2 = k → rich t (f' c) (f' j1) = false from fun c c0 hc hq => by
            have := HJ1.out; have := HJ2.out
            rcases (show c = j1 ∨ c = j2 by omega) with rfl | rfl
            · exact rich_irr _ _
            · omega)
        have hj1 := HJ1.out
        clear hj2
        have CL := Lib.hid (less_ j1 k _ (HR1.out) (by omega) (by omega) ht)
        obtain ⟨z, hz⟩ : ∃ z, rich t (f' (j1)) (f' k) = z := ⟨_, rfl⟩
        rw [hz] at CL
        have HZ := Lib.hid hz
        clear hz
        go_wp2_with fail
        refine CL.out.mono ?_
        rintro e w3 ⟨rfl, kb⟩
        have HR3 := Lib.hid (HR1.out.bel kb)
        have HK3 := Lib.hid (HK1.out.trans (Kep.of_bel kb))
        clear kb CL HR1 HK1
        cases z with
        | false =>
          go_wp2_with fail
          go_ret
          exact ⟨_, rfl, f', HR3.out, HB.out, HD.out.done (fun c c0 hc hq => rich_ntrans (HS.out c c0 hc hq) HZ.out), HT.out, HK3.out⟩
        | true =>
          have MS := m_swap (HR3.out.blk.cell 0 rfl)
          have CS := Lib.hid (swapR k j1 w3 HR3.out (by omega) (by omega))
          have NU := Lib.hid (HD.out.step (j := j1) (by omega) (by omega) (by omega) HS.out HZ.out)
          have NB := Lib.hid (HB.out.sw (i := k) (j := j1) (by omega) (by omega))
          have NT := Lib.hid (show sw f' k (j1) n = x by rw [sw_k (by omega) (by omega)]; exact HT.out)
          go_wp2_with fail
          refine CS.out.mono ?_
          rintro e w4 ⟨rfl, hr, kb⟩
          have HR4 := Lib.hid hr
          have HK4 := Lib.hid (HK3.out.trans kb)
          clear hr kb
          go_wp2_with fail
          go_roundw
          case rel => exact ⟨j1, rfl, by omega, Lib.hid ⟨_, HR4.out, NB.out, NU.out, NT.out, HK4.out⟩⟩
          case measure => simp [intOf]; omega
end Ac
end Go.Proofs.Ytmbodfmdaocppaa
