/-
  The law QueueParts answers true. Conditions: the Balances are words.
-/
import Derived.Test.YtejmgdanbjkckaaQE
namespace Go.Proofs.Ytejmgdanbjkckaa
open Go.RowKit Go.Shelf
set_option linter.unusedVariables false
set_option linter.unusedSimpArgs false
set_option Elab.async false
namespace Qu
open Kk Pm

theorem ripe_c (A : Option Addr) (n c : Nat) (l : List E8) (h u : Int) (w : World) (hi : Rw.RS eR w A n c l) (hw : Wd l) (E : Int) (L1 L2 : List E8) (hE : ripE l h u = E) (h1 : ripL l h u = L1) (h2 : lftL l h u = L2) (hn : n ≤ 1000000) :
    Calls Try.prog 18 #[.slice A n c, .int .i64 h, .int .i64 u] w fun e w' => ∃ A1 n1 c1 A2 n2 c2, e = .returned (.tuple #[.slice A1 n1 c1, .slice A2 n2 c2, .int .i64 E]) ∧ Halves w' w.heap.size A1 n1 c1 A2 n2 c2 L1 L2 ∧ Bel w w' := by
  subst hE h1 h2
  exact ripe A n c l h u w hi hn hw
theorem ripeR_c (A : Option Addr) (n c : Nat) (l : List E8) (h u : Int) (w : World) (hi : Rw.RS eR w A n c l) (hw : Wd l) (E : Int) (L1 L2 : List E8) (hE : ripE l h u = E) (h1 : ripL l h u = L1) (h2 : lftL l h u = L2) (hn : n ≤ 1000000) :
    Calls Try.prog 19 #[.slice A n c, .int .i64 h, .int .i64 u] w fun e w' => ∃ v1 v2, e = .returned (.tuple #[v1, v2, .int .i64 E]) ∧ OwnE w' w.heap.size v1 L1 ∧ OwnE w' w.heap.size v2 L2 ∧ Bel w w' := by
  subst hE h1 h2
  exact ripeR A n c l h u w hi hn hw
set_option maxRecDepth 100000 in
set_option maxHeartbeats 16000000 in
theorem partsLaw (A : Option Addr) (n c : Nat) (l : List E8) (h u : Int) (w : World) (hi : Rw.RS eR w A n c l) (hw : Wd l) :
    Calls Try.prog 4 #[.slice A n c, .int .i64 h, .int .i64 u] w fun e w' => e = .returned (.bool true) ∧ Bel w w' := by
  have HLN := Lib.hid hi.len
  have HWD := Lib.hid hw
  have Hi := Lib.hid hi
  clear hi hw
  go_enter Try.func4, Try.ntmps4
  by_cases hlong : 60 < n
  · have hlong3 : (60 : Int) < n := by omega
    go_wp2_with fail
    refine (awake _).mono ?_
    rintro e w1 ⟨rfl, kb⟩
    have KB := Lib.hid kb
    clear kb
    go_wp2_with fail
    go_ret
    exact ⟨rfl, KB.out⟩
  have hlong3 : ¬ (60 : Int) < n := by omega
  have HN := Lib.hid (show n ≤ 60 by omega)
  have K0 := Lib.hid (Bel.refl w)
  have C1 := Lib.hid (copy A n c l w Hi.out (by have := HN.out; omega))
  go_wp2_with fail
  refine C1.out.mono ?_
  rintro x w1 ⟨vc, rfl, hc, kb⟩
  have K1 := Lib.hid (K0.out.trans kb)
  have Hi := Lib.hid (Hi.out.bel kb)
  clear C1
  obtain ⟨Ac, cc, rfl, hcr⟩ := Rw.OwnR.slice hc
  rw [HLN.out] at hcr ⊢
  have Hc := Lib.hid hcr
  clear hc hcr
  obtain ⟨E, hEq⟩ : ∃ x, ripE l h u = x := ⟨_, rfl⟩
  have HEq := Lib.hid hEq
  clear hEq
  obtain ⟨La, hLaq⟩ : ∃ x, ripL l h u = x := ⟨_, rfl⟩
  have HLaq := Lib.hid hLaq
  clear hLaq
  obtain ⟨Lb, hLbq⟩ : ∃ x, lftL l h u = x := ⟨_, rfl⟩
  have HLbq := Lib.hid hLbq
  clear hLbq
  have HLE := Lib.hid (show La.length ≤ 60 ∧ Lb.length ≤ 60 by rw [← HLaq.out, ← HLbq.out]; have := ripL_le l h u; have := HLN.out; have := HN.out; omega)
  have KT := Lib.hid (Bel.refl w1)
  have Ks := K1
  have Si := Hi
  have Sc := Hc
  have C2 := Lib.hid (ripe_c Ac n cc l h u w1 Hc.out HWD.out E La Lb HEq.out HLaq.out HLbq.out (by have := HN.out; omega))
  go_wp2_with fail
  refine C2.out.mono ?_
  rintro x w2 ⟨A1, n1, c1, A2, n2, c2, rfl, ha, kb⟩
  have KT := Lib.hid (KT.out.trans kb)
  have K2 := Lib.hid (K1.out.trans kb)
  have Hi := Lib.hid (Hi.out.bel kb)
  have Hc := Lib.hid (Hc.out.bel kb)
  clear C2
  have Hhv := Lib.hid ha
  obtain rfl : La.length = n1 := ha.r1.len
  obtain rfl : Lb.length = n2 := ha.r2.len
  clear ha
  have C3 := Lib.hid (ripeR_c A n c l h u w2 Hi.out HWD.out E La Lb HEq.out HLaq.out HLbq.out (by have := HN.out; omega))
  go_wp2_with fail
  refine C3.out.mono ?_
  rintro x w3 ⟨v1, v2, rfl, hb1, hb2, kb⟩
  have KT := Lib.hid (KT.out.trans kb)
  have K3 := Lib.hid (K2.out.trans kb)
  have Hi := Lib.hid (Hi.out.bel kb)
  have Hc := Lib.hid (Hc.out.bel kb)
  have Hhv := Lib.hid (Hhv.out.bel kb)
  clear C3
  obtain ⟨B1, d1, rfl, hr1⟩ := Rw.OwnR.slice hb1
  obtain ⟨B2, d2, rfl, hr2⟩ := Rw.OwnR.slice hb2
  have Hr1 := Lib.hid hr1
  have Hr2 := Lib.hid hr2
  clear hb1 hb2 hr1 hr2
  have C4 := Lib.hid ((show Calls Try.prog 16 #[.slice A1 La.length c1, .slice B1 La.length d1] w3 fun e w' => e = .returned (.bool true) ∧ Bel w3 w' by have h := same_entries A1 B1 La.length c1 La.length d1 La La w3 Hhv.out.r1 Hr1.out (by have := HLE.out; omega) (by have := HLE.out; omega); rwa [decide_eq_true (rfl : La = La)] at h))
  go_wp2_with fail
  refine C4.out.mono ?_
  rintro x w4 ⟨rfl, kb⟩
  have KT := Lib.hid (KT.out.trans kb)
  have K4 := Lib.hid (K3.out.trans kb)
  have Hi := Lib.hid (Hi.out.bel kb)
  have Hc := Lib.hid (Hc.out.bel kb)
  have Hhv := Lib.hid (Hhv.out.bel kb)
  have Hr1 := Lib.hid (Hr1.out.bel kb)
  have Hr2 := Lib.hid (Hr2.out.bel kb)
  clear C4
  have C5 := Lib.hid ((show Calls Try.prog 16 #[.slice A2 Lb.length c2, .slice B2 Lb.length d2] w4 fun e w' => e = .returned (.bool true) ∧ Bel w4 w' by have h := same_entries A2 B2 Lb.length c2 Lb.length d2 Lb Lb w4 Hhv.out.r2 Hr2.out (by have := HLE.out; omega) (by have := HLE.out; omega); rwa [decide_eq_true (rfl : Lb = Lb)] at h))
  go_wp2_with fail
  refine C5.out.mono ?_
  rintro x w5 ⟨rfl, kb⟩
  have KT := Lib.hid (KT.out.trans kb)
  have K5 := Lib.hid (K4.out.trans kb)
  have Hi := Lib.hid (Hi.out.bel kb)
  have Hc := Lib.hid (Hc.out.bel kb)
  have Hhv := Lib.hid (Hhv.out.bel kb)
  have Hr1 := Lib.hid (Hr1.out.bel kb)
  have Hr2 := Lib.hid (Hr2.out.bel kb)
  clear C5
  have C6 := Lib.hid (Qu.over_any A1 La.length c1 w5 (Hhv.out.lay) (by have := HLE.out; omega))
  go_wp2_with fail
  refine C6.out.mono ?_
  rintro x w6 ⟨rfl, ko6⟩
  clear C6
  have kb1 := hv_bel1 Hhv.out KT.out (Nat.le_refl _) ko6
  have Hl2 := Lib.hid (Hhv.out.over ko6).2
  clear ko6
  have C7 := Lib.hid (Qu.over_any A2 Lb.length c2 w6 (Hl2.out) (by have := HLE.out; omega))
  go_wp2_with fail
  refine C7.out.mono ?_
  rintro x w7 ⟨rfl, ko7⟩
  clear C7
  have kb := hv_bel2 Hhv.out kb1 (Nat.le_refl _) ko7
  clear ko7 kb1 Hl2 Hhv Hr1 Hr2
  have K7 := Lib.hid (Ks.out.trans kb)
  have Hi := Lib.hid (Si.out.bel kb)
  have Hc := Lib.hid (Sc.out.bel kb)
  clear Ks KT kb Si Sc
  have C8 := Lib.hid ((show Calls Try.prog 16 #[.slice Ac n cc, .slice A n c] w7 fun e w' => e = .returned (.bool true) ∧ Bel w7 w' by have h := same_entries Ac A n cc n c l l w7 Hc.out Hi.out (by have := HN.out; omega) (by have := HN.out; omega); rwa [decide_eq_true (rfl : l = l)] at h))
  go_wp2_with fail
  refine C8.out.mono ?_
  rintro x w8 ⟨rfl, kb⟩
  have K8 := Lib.hid (K7.out.trans kb)
  have Hi := Lib.hid (Hi.out.bel kb)
  have Hc := Lib.hid (Hc.out.bel kb)
  clear C8
  have C9 := Lib.hid (awake w8)
  go_wp2_with fail
  refine C9.out.mono ?_
  rintro x w9 ⟨rfl, kb⟩
  have K9 := Lib.hid (K8.out.trans kb)
  have Hi := Lib.hid (Hi.out.bel kb)
  have Hc := Lib.hid (Hc.out.bel kb)
  clear C9
  go_wp2_with fail
  go_ret
  exact ⟨rfl, K9.out⟩
theorem partsLawW (A : Option Addr) (n c : Nat) (h u : Int) (w : World) (hn : n ≤ 9223372036854775807) (hi : Ents w A n c) (l0 : -9223372036854775808 ≤ h) (u0 : h ≤ 9223372036854775807) (l1 : -9223372036854775808 ≤ u) (u1 : u ≤ 9223372036854775807) :
    Calls Try.prog 4 #[.slice A n c, .int .i64 h, .int .i64 u] w fun e w' => e = .returned (.bool true) ∧ Bel w w' := by
  obtain ⟨l, h1, h2⟩ := ents_rs hi
  exact partsLaw A n c l h u w h1 h2
end Qu
end Go.Proofs.Ytejmgdanbjkckaa
