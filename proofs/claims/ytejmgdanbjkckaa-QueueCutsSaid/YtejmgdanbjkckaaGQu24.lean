/-
  The law QueueCuts answers true. Conditions: words and ints.
-/
import Derived.Test.YtejmgdanbjkckaaQE
import Derived.Test.YtejmgdanbjkckaaGQu12
import Derived.Test.YtejmgdanbjkckaaQA
namespace Go.Proofs.Ytejmgdanbjkckaa
open Go.RowKit Go.Shelf
set_option linter.unusedVariables false
set_option linter.unusedSimpArgs false
set_option Elab.async false
namespace Qu
open Kk Pm

theorem cut_c (A : Option Addr) (n c : Nat) (l : List E8) (v h p : Int) (w : World) (hi : Rw.RS eR w A n c l) (hw : Wd l) (hp : 0 ≤ p ∧ p ≤ 18446744073709551615) (E : Int) (L : List E8) (S : List S2) (N : Int) (hE : ctE l v h p = E) (hL : ctL l v h p = L) (hS : ctS l v h p = S) (hN : ctN l v h p = N) (hn : n ≤ 1000000) :
    Calls Try.prog 20 #[.slice A n c, .int .i64 v, .int .i64 h, .int .u64 p] w fun e w' => ∃ y1 y2, e = .returned (.tuple #[y1, y2, .int .u64 N, .int .i64 E]) ∧ OwnE w' w.heap.size y1 L ∧ OwnS w' w.heap.size y2 S ∧ Bel w w' := by
  subst hE hL hS hN
  exact cut A n c l v h p w hi hn hw hp
theorem cutR_c (A : Option Addr) (n c : Nat) (l : List E8) (v h p : Int) (w : World) (hi : Rw.RS eR w A n c l) (hw : Wd l) (hp : 0 ≤ p ∧ p ≤ 18446744073709551615) (E : Int) (L : List E8) (S : List S2) (N : Int) (hE : ctE l v h p = E) (hL : ctL l v h p = L) (hS : ctS l v h p = S) (hN : ctN l v h p = N) (hn : n ≤ 1000000) :
    Calls Try.prog 21 #[.slice A n c, .int .i64 v, .int .i64 h, .int .u64 p] w fun e w' => ∃ y1 y2, e = .returned (.tuple #[y1, y2, .int .u64 N, .int .i64 E]) ∧ OwnE w' w.heap.size y1 L ∧ OwnS w' w.heap.size y2 S ∧ Bel w w' := by
  subst hE hL hS hN
  exact cutR A n c l v h p w hi hn hw hp
set_option maxRecDepth 100000 in
set_option maxHeartbeats 16000000 in
theorem cutsLaw (A : Option Addr) (n c : Nat) (l : List E8) (v h p ow : Int) (w : World) (hi : Rw.RS eR w A n c l) (hw : Wd l) (hp : 0 ≤ p ∧ p ≤ 18446744073709551615) :
    Calls Try.prog 5 #[.slice A n c, .int .i64 v, .int .i64 h, .int .u64 p, .int .i64 ow] w fun e w' => e = .returned (.bool true) ∧ Bel w w' := by
  have HLN := Lib.hid hi.len
  have HWD := Lib.hid hw
  have Hi := Lib.hid hi
  have HP := Lib.hid hp
  clear hp
  clear hi hw
  go_enter Try.func5, Try.ntmps5
  by_cases hlong : 60 < n
  · have hlong3 : (60 : Int) < n := by omega
    go_wp2_with fail
    refine (awake _).mono ?_
    rintro e w1 ⟨rfl, kb⟩
    have KB := Lib.hid kb
    clear kb
    go_wp2_with fail
    go_ret
    exact ⟨rfl, KB.out⟩
  have hlong3 : ¬ (60 : Int) < n := by omega
  have HN := Lib.hid (show n ≤ 60 by omega)
  have K0 := Lib.hid (Bel.refl w)
  have C1 := Lib.hid (copy A n c l w Hi.out (by have := HN.out; omega))
  go_wp2_with fail
  refine C1.out.mono ?_
  rintro x w1 ⟨vc, rfl, hc, kb⟩
  have K1 := Lib.hid (K0.out.trans kb)
  have Hi := Lib.hid (Hi.out.bel kb)
  clear C1
  obtain ⟨Ac, cc, rfl, hcr⟩ := Rw.OwnR.slice hc
  rw [HLN.out] at hcr ⊢
  have Hc := Lib.hid hcr
  clear hc hcr
  obtain ⟨E, hEq⟩ : ∃ x, ctE l v h p = x := ⟨_, rfl⟩
  have HEq := Lib.hid hEq
  clear hEq
  obtain ⟨La, hLaq⟩ : ∃ x, ctL l v h p = x := ⟨_, rfl⟩
  have HLaq := Lib.hid hLaq
  clear hLaq
  obtain ⟨Sa, hSaq⟩ : ∃ x, ctS l v h p = x := ⟨_, rfl⟩
  have HSaq := Lib.hid hSaq
  clear hSaq
  obtain ⟨N, hNq⟩ : ∃ x, ctN l v h p = x := ⟨_, rfl⟩
  have HNq := Lib.hid hNq
  clear hNq
  have HLE := Lib.hid (show La.length ≤ 60 ∧ Sa.length ≤ 60 ∧ (ofL l ow).length ≤ 60 by rw [← HLaq.out, ← HSaq.out]; have := ctL_le l v h p; have := ofL_le l ow; have := HLN.out; have := HN.out; omega)
  obtain ⟨Lo, hLoq⟩ : ∃ x, ofL l ow = x := ⟨_, rfl⟩
  have HLoq := Lib.hid hLoq
  clear hLoq
  have HLO := Lib.hid (show Lo.length ≤ 60 by rw [← HLoq.out]; exact HLE.out.2.2)
  have KT := Lib.hid (Bel.refl w1)
  have Ks := K1
  have Si := Hi
  have Sc := Hc
  have C2 := Lib.hid (cut_c Ac n cc l v h p w1 Hc.out HWD.out HP.out E La Sa N HEq.out HLaq.out HSaq.out HNq.out (by have := HN.out; omega))
  go_wp2_with fail
  refine C2.out.mono ?_
  rintro x w2 ⟨va, vs, rfl, ha, hs, kb⟩
  have KT := Lib.hid (KT.out.trans kb)
  have K2 := Lib.hid (K1.out.trans kb)
  have Hi := Lib.hid (Hi.out.bel kb)
  have Hc := Lib.hid (Hc.out.bel kb)
  clear C2
  obtain ⟨Aa, ca, rfl, hra⟩ := Rw.OwnR.slice ha
  have Hoa := Lib.hid ha
  have Hra := Lib.hid hra
  obtain ⟨As, cs, rfl, hrs⟩ := Rw.OwnR.slice hs
  have Hos := Lib.hid hs
  have Hrs := Lib.hid hrs
  clear ha hra hs hrs
  have C3 := Lib.hid (cutR_c A n c l v h p w2 Hi.out HWD.out HP.out E La Sa N HEq.out HLaq.out HSaq.out HNq.out (by have := HN.out; omega))
  go_wp2_with fail
  refine C3.out.mono ?_
  rintro x w3 ⟨vb, vt, rfl, hb, ht, kb⟩
  have KT := Lib.hid (KT.out.trans kb)
  have K3 := Lib.hid (K2.out.trans kb)
  have Hi := Lib.hid (Hi.out.bel kb)
  have Hc := Lib.hid (Hc.out.bel kb)
  have Hoa := Lib.hid (Hoa.out.bel kb)
  have Hra := Lib.hid (Hra.out.bel kb)
  have Hos := Lib.hid (Hos.out.bel kb)
  have Hrs := Lib.hid (Hrs.out.bel kb)
  clear C3
  obtain ⟨Ab, cb, rfl, hrb⟩ := Rw.OwnR.slice hb
  have Hrb := Lib.hid hrb
  obtain ⟨At, ct, rfl, hrt⟩ := Rw.OwnR.slice ht
  have Hrt := Lib.hid hrt
  clear hb hrb ht hrt
  obtain ⟨X, hXq⟩ : ∃ x, totN l = x := ⟨_, rfl⟩
  have HXq := Lib.hid hXq
  clear hXq
  obtain ⟨G, hGq⟩ : ∃ x, (chk l).1 = x := ⟨_, rfl⟩
  have HGq := Lib.hid hGq
  clear hGq
  have C4 := Lib.hid ((show Calls Try.prog 22 #[.slice Ac n cc] w3 fun e w' => e = .returned (.tuple #[.int .u64 X, .int .i64 G]) ∧ Bel w3 w' by rw [← HXq.out, ← HGq.out]; exact total Ac n cc l w3 Hc.out (by have := HN.out; omega) HWD.out))
  go_wp2_with fail
  refine C4.out.mono ?_
  rintro x w4 ⟨rfl, kb⟩
  have KT := Lib.hid (KT.out.trans kb)
  have K4 := Lib.hid (K3.out.trans kb)
  have Hi := Lib.hid (Hi.out.bel kb)
  have Hc := Lib.hid (Hc.out.bel kb)
  have Hoa := Lib.hid (Hoa.out.bel kb)
  have Hra := Lib.hid (Hra.out.bel kb)
  have Hos := Lib.hid (Hos.out.bel kb)
  have Hrs := Lib.hid (Hrs.out.bel kb)
  have Hrb := Lib.hid (Hrb.out.bel kb)
  have Hrt := Lib.hid (Hrt.out.bel kb)
  clear C4
  have C5 := Lib.hid ((show Calls Try.prog 23 #[.slice A n c] w4 fun e w' => e = .returned (.tuple #[.int .u64 X, .int .i64 G]) ∧ Bel w4 w' by rw [← HXq.out, ← HGq.out]; exact totalR A n c l w4 Hi.out (by have := HN.out; omega) HWD.out))
  go_wp2_with fail
  refine C5.out.mono ?_
  rintro x w5 ⟨rfl, kb⟩
  have KT := Lib.hid (KT.out.trans kb)
  have K5 := Lib.hid (K4.out.trans kb)
  have Hi := Lib.hid (Hi.out.bel kb)
  have Hc := Lib.hid (Hc.out.bel kb)
  have Hoa := Lib.hid (Hoa.out.bel kb)
  have Hra := Lib.hid (Hra.out.bel kb)
  have Hos := Lib.hid (Hos.out.bel kb)
  have Hrs := Lib.hid (Hrs.out.bel kb)
  have Hrb := Lib.hid (Hrb.out.bel kb)
  have Hrt := Lib.hid (Hrt.out.bel kb)
  clear C5
  have HLTA := Lib.hid (fun i (hi : (Value.slice Aa La.length ca).ownBlock = some i) => (Hoa.out.lt i hi).2)
  have HWO := Lib.hid (Below.size KT.out)
  have C6 := Lib.hid ((show Calls Try.prog 24 #[.slice Ac n cc, .int .i64 ow] w5 fun e w' => ∃ v, e = .returned v ∧ OwnE w' (World.heap w5).size v Lo ∧ Bel w5 w' by rw [← HLoq.out]; exact ofX Ac n cc l ow w5 Hc.out (by have := HN.out; omega)))
  go_wp2_with fail
  refine C6.out.mono ?_
  rintro x w6 ⟨vo, rfl, ho, kb⟩
  have KT := Lib.hid (KT.out.trans kb)
  have K6 := Lib.hid (K5.out.trans kb)
  have Hi := Lib.hid (Hi.out.bel kb)
  have Hc := Lib.hid (Hc.out.bel kb)
  have Hoa := Lib.hid (Hoa.out.bel kb)
  have Hra := Lib.hid (Hra.out.bel kb)
  have Hos := Lib.hid (Hos.out.bel kb)
  have Hrs := Lib.hid (Hrs.out.bel kb)
  have Hrb := Lib.hid (Hrb.out.bel kb)
  have Hrt := Lib.hid (Hrt.out.bel kb)
  clear C6
  obtain ⟨Ao, co, rfl, hro⟩ := Rw.OwnR.slice ho
  have Hoo := Lib.hid ho
  have Hro := Lib.hid hro
  clear ho hro
  have C7 := Lib.hid ((show Calls Try.prog 16 #[.slice Aa La.length ca, .slice Ab La.length cb] w6 fun e w' => e = .returned (.bool true) ∧ Bel w6 w' by have h := same_entries Aa Ab La.length ca La.length cb La La w6 Hra.out Hrb.out (by have := HLE.out; omega) (by have := HLE.out; omega); rwa [decide_eq_true (rfl : La = La)] at h))
  go_wp2_with fail
  refine C7.out.mono ?_
  rintro x w7 ⟨rfl, kb⟩
  have KT := Lib.hid (KT.out.trans kb)
  have K7 := Lib.hid (K6.out.trans kb)
  have Hi := Lib.hid (Hi.out.bel kb)
  have Hc := Lib.hid (Hc.out.bel kb)
  have Hoa := Lib.hid (Hoa.out.bel kb)
  have Hra := Lib.hid (Hra.out.bel kb)
  have Hos := Lib.hid (Hos.out.bel kb)
  have Hrs := Lib.hid (Hrs.out.bel kb)
  have Hrb := Lib.hid (Hrb.out.bel kb)
  have Hrt := Lib.hid (Hrt.out.bel kb)
  have Hoo := Lib.hid (Hoo.out.bel kb)
  have Hro := Lib.hid (Hro.out.bel kb)
  clear C7
  have C8 := Lib.hid ((show Calls Try.prog 25 #[.slice As Sa.length cs, .slice At Sa.length ct] w7 fun e w' => e = .returned (.bool true) ∧ Bel w7 w' by have h := same_shaves As At Sa.length cs Sa.length ct Sa Sa w7 Hrs.out Hrt.out (by have := HLE.out; omega) (by have := HLE.out; omega); rwa [decide_eq_true (rfl : Sa = Sa)] at h))
  go_wp2_with fail
  refine C8.out.mono ?_
  rintro x w8 ⟨rfl, kb⟩
  have KT := Lib.hid (KT.out.trans kb)
  have K8 := Lib.hid (K7.out.trans kb)
  have Hi := Lib.hid (Hi.out.bel kb)
  have Hc := Lib.hid (Hc.out.bel kb)
  have Hoa := Lib.hid (Hoa.out.bel kb)
  have Hra := Lib.hid (Hra.out.bel kb)
  have Hos := Lib.hid (Hos.out.bel kb)
  have Hrs := Lib.hid (Hrs.out.bel kb)
  have Hrb := Lib.hid (Hrb.out.bel kb)
  have Hrt := Lib.hid (Hrt.out.bel kb)
  have Hoo := Lib.hid (Hoo.out.bel kb)
  have Hro := Lib.hid (Hro.out.bel kb)
  clear C8
  have C9 := Lib.hid ((show Calls Try.prog 26 #[.slice A n c, .int .i64 ow] w8 fun e w' => ∃ v, e = .returned v ∧ OwnE w' (World.heap w8).size v Lo ∧ Bel w8 w' by rw [← HLoq.out]; exact ofR A n c l ow w8 Hi.out (by have := HN.out; omega)))
  go_wp2_with fail
  refine C9.out.mono ?_
  rintro x w9 ⟨vq, rfl, hq, kb⟩
  have KT := Lib.hid (KT.out.trans kb)
  have K9 := Lib.hid (K8.out.trans kb)
  have Hi := Lib.hid (Hi.out.bel kb)
  have Hc := Lib.hid (Hc.out.bel kb)
  have Hoa := Lib.hid (Hoa.out.bel kb)
  have Hra := Lib.hid (Hra.out.bel kb)
  have Hos := Lib.hid (Hos.out.bel kb)
  have Hrs := Lib.hid (Hrs.out.bel kb)
  have Hrb := Lib.hid (Hrb.out.bel kb)
  have Hrt := Lib.hid (Hrt.out.bel kb)
  have Hoo := Lib.hid (Hoo.out.bel kb)
  have Hro := Lib.hid (Hro.out.bel kb)
  clear C9
  obtain ⟨Aq, cq, rfl, hrq⟩ := Rw.OwnR.slice hq
  have Hrq := Lib.hid hrq
  clear hq hrq
  have C10 := Lib.hid ((show Calls Try.prog 16 #[.slice Ao Lo.length co, .slice Aq Lo.length cq] w9 fun e w' => e = .returned (.bool true) ∧ Bel w9 w' by have h := same_entries Ao Aq Lo.length co Lo.length cq Lo Lo w9 Hro.out Hrq.out (by have := HLO.out; omega) (by have := HLO.out; omega); rwa [decide_eq_true (rfl : Lo = Lo)] at h))
  go_wp2_with fail
  refine C10.out.mono ?_
  rintro x w10 ⟨rfl, kb⟩
  have KT := Lib.hid (KT.out.trans kb)
  have K10 := Lib.hid (K9.out.trans kb)
  have Hi := Lib.hid (Hi.out.bel kb)
  have Hc := Lib.hid (Hc.out.bel kb)
  have Hoa := Lib.hid (Hoa.out.bel kb)
  have Hra := Lib.hid (Hra.out.bel kb)
  have Hos := Lib.hid (Hos.out.bel kb)
  have Hrs := Lib.hid (Hrs.out.bel kb)
  have Hrb := Lib.hid (Hrb.out.bel kb)
  have Hrt := Lib.hid (Hrt.out.bel kb)
  have Hoo := Lib.hid (Hoo.out.bel kb)
  have Hro := Lib.hid (Hro.out.bel kb)
  have Hrq := Lib.hid (Hrq.out.bel kb)
  clear C10
  obtain ⟨J, hJq⟩ : ∃ x, live l ow v = x := ⟨_, rfl⟩
  have HJq := Lib.hid hJq
  clear hJq
  have C11 := Lib.hid ((show Calls Try.prog 27 #[.slice Ac n cc, .int .i64 ow, .int .i64 v] w10 fun e w' => e = .returned (.int .i64 (J : Nat)) ∧ Bel w10 w' by rw [← HJq.out]; exact liveX Ac n cc l ow v w10 Hc.out (by have := HN.out; omega)))
  go_wp2_with fail
  refine C11.out.mono ?_
  rintro x w11 ⟨rfl, kb⟩
  have KT := Lib.hid (KT.out.trans kb)
  have K11 := Lib.hid (K10.out.trans kb)
  have Hi := Lib.hid (Hi.out.bel kb)
  have Hc := Lib.hid (Hc.out.bel kb)
  have Hoa := Lib.hid (Hoa.out.bel kb)
  have Hra := Lib.hid (Hra.out.bel kb)
  have Hos := Lib.hid (Hos.out.bel kb)
  have Hrs := Lib.hid (Hrs.out.bel kb)
  have Hrb := Lib.hid (Hrb.out.bel kb)
  have Hrt := Lib.hid (Hrt.out.bel kb)
  have Hoo := Lib.hid (Hoo.out.bel kb)
  have Hro := Lib.hid (Hro.out.bel kb)
  have Hrq := Lib.hid (Hrq.out.bel kb)
  clear C11
  have C12 := Lib.hid ((show Calls Try.prog 28 #[.slice A n c, .int .i64 ow, .int .i64 v] w11 fun e w' => e = .returned (.int .i64 (J : Nat)) ∧ Bel w11 w' by rw [← HJq.out]; exact liveR A n c l ow v w11 Hi.out (by have := HN.out; omega)))
  go_wp2_with fail
  refine C12.out.mono ?_
  rintro x w12 ⟨rfl, kb⟩
  have KT := Lib.hid (KT.out.trans kb)
  have K12 := Lib.hid (K11.out.trans kb)
  have Hi := Lib.hid (Hi.out.bel kb)
  have Hc := Lib.hid (Hc.out.bel kb)
  have Hoa := Lib.hid (Hoa.out.bel kb)
  have Hra := Lib.hid (Hra.out.bel kb)
  have Hos := Lib.hid (Hos.out.bel kb)
  have Hrs := Lib.hid (Hrs.out.bel kb)
  have Hrb := Lib.hid (Hrb.out.bel kb)
  have Hrt := Lib.hid (Hrt.out.bel kb)
  have Hoo := Lib.hid (Hoo.out.bel kb)
  have Hro := Lib.hid (Hro.out.bel kb)
  have Hrq := Lib.hid (Hrq.out.bel kb)
  clear C12
  have C13 := Lib.hid (Qu.over_any Aa La.length ca w12 (lay_own Hoa.out) (by have := HLE.out; omega))
  go_wp2_with fail
  refine C13.out.mono ?_
  rintro x w13 ⟨rfl, ko13⟩
  clear C13
  have kb1 := ov_bel Hoa.out KT.out (Nat.le_refl _) ko13
  have Hoo1 := Lib.hid (Hoo.out.kep ko13.kep (fun i hi hh => by obtain ⟨_, x, rfl, rfl⟩ := hh; have h1 := HLTA.out _ rfl; have h2 := Rw.own_ge Hoo.out hi; omega))
  have Hos1 := Lib.hid (Hos.out.kep ko13.kep (fun i hi hh => by obtain ⟨_, x, rfl, rfl⟩ := hh; exact Rw.own_ne2 Hos.out Hoa.out (by decide) _ hi rfl))
  clear ko13 Hra Hrb Hrs Hrt Hro Hrq
  have C14 := Lib.hid (Qu.over_any Ao Lo.length co w13 (lay_own Hoo1.out) (by have := HLO.out; omega))
  go_wp2_with fail
  refine C14.out.mono ?_
  rintro x w14 ⟨rfl, ko14⟩
  clear C14
  have kb2 := ov_bel Hoo1.out kb1 HWO.out ko14
  have Hos2 := Lib.hid (Hos1.out.kep ko14.kep (fun i hi hh => by obtain ⟨_, x, rfl, rfl⟩ := hh; exact Rw.own_ne2 Hos1.out Hoo1.out (by decide) _ hi rfl))
  clear ko14 kb1
  have C15 := Lib.hid (Qu.over_anyS As Sa.length cs w14 (lay_ownS Hos2.out) (by have := HLE.out; omega))
  go_wp2_with fail
  refine C15.out.mono ?_
  rintro x w15 ⟨rfl, ko15⟩
  clear C15
  have kb := ov_belS Hos2.out kb2 (Nat.le_refl _) ko15
  clear ko15 kb2 Hoa Hoo Hos Hoo1 Hos1 Hos2 HLTA HWO
  have K15 := Lib.hid (Ks.out.trans kb)
  have Hi := Lib.hid (Si.out.bel kb)
  have Hc := Lib.hid (Sc.out.bel kb)
  clear Ks KT kb Si Sc
  have C16 := Lib.hid ((show Calls Try.prog 16 #[.slice Ac n cc, .slice A n c] w15 fun e w' => e = .returned (.bool true) ∧ Bel w15 w' by have h := same_entries Ac A n cc n c l l w15 Hc.out Hi.out (by have := HN.out; omega) (by have := HN.out; omega); rwa [decide_eq_true (rfl : l = l)] at h))
  go_wp2_with fail
  refine C16.out.mono ?_
  rintro x w16 ⟨rfl, kb⟩
  have K16 := Lib.hid (K15.out.trans kb)
  have Hi := Lib.hid (Hi.out.bel kb)
  have Hc := Lib.hid (Hc.out.bel kb)
  clear C16
  have C17 := Lib.hid (awake w16)
  go_wp2_with fail
  refine C17.out.mono ?_
  rintro x w17 ⟨rfl, kb⟩
  have K17 := Lib.hid (K16.out.trans kb)
  have Hi := Lib.hid (Hi.out.bel kb)
  have Hc := Lib.hid (Hc.out.bel kb)
  clear C17
  go_wp2_with fail
  go_ret
  exact ⟨rfl, K17.out⟩
theorem cutsLawW (A : Option Addr) (n c : Nat) (v h p ow : Int) (w : World) (hn : n ≤ 9223372036854775807) (hi : Ents w A n c) (l0 : -9223372036854775808 ≤ v) (u0 : v ≤ 9223372036854775807) (l1 : -9223372036854775808 ≤ h) (u1 : h ≤ 9223372036854775807) (l2 : 0 ≤ p) (u2 : p ≤ 18446744073709551615) (l3 : -9223372036854775808 ≤ ow) (u3 : ow ≤ 9223372036854775807) :
    Calls Try.prog 5 #[.slice A n c, .int .i64 v, .int .i64 h, .int .u64 p, .int .i64 ow] w fun e w' => e = .returned (.bool true) ∧ Bel w w' := by
  obtain ⟨l, h1, h2⟩ := ents_rs hi
  exact cutsLaw A n c l v h p ow w h1 h2 ⟨l2, u2⟩
end Qu
end Go.Proofs.Ytejmgdanbjkckaa
