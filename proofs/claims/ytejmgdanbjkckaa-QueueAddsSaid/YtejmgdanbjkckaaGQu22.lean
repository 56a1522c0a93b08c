/-
  The law QueueAdds answers true. Conditions: the Balances are words.
-/
import Derived.Test.YtejmgdanbjkckaaQE
namespace Go.Proofs.Ytejmgdanbjkckaa
open Go.RowKit Go.Shelf
set_option linter.unusedVariables false
set_option linter.unusedSimpArgs false
set_option Elab.async false
namespace Qu
open Kk Pm

theorem add_c (A : Option Addr) (n c : Nat) (l : List E8) (x1 x2 x3 x4 x5 x6 x7 x8 m : Int) (w : World) (hi : Rw.RS eR w A n c l) (hw : Wd l) (hx : 0 ≤ x8 ∧ x8 ≤ 18446744073709551615) (E : Int) (L : List E8) (hE : addE l (x1, x2, x3, x4, x5, x6, x7, x8) m = E) (hL : addL l (x1, x2, x3, x4, x5, x6, x7, x8) m = L) (hn : n ≤ 1000000) :
    Calls Try.prog 12 #[.slice A n c, .agg #[.int .i64 x1, .int .i64 x2, .int .i64 x3, .int .i64 x4, .int .i64 x5, .int .i64 x6, .int .u64 x7, .int .u64 x8], .int .i64 m] w fun e w' => ∃ v, e = .returned (.tuple #[v, .int .i64 E]) ∧ OwnE w' w.heap.size v L ∧ Bel w w' := by
  subst hE hL
  exact add A n c l x1 x2 x3 x4 x5 x6 x7 x8 m w hi hn hw hx
theorem addR_c (A : Option Addr) (n c : Nat) (l : List E8) (x1 x2 x3 x4 x5 x6 x7 x8 m : Int) (w : World) (hi : Rw.RS eR w A n c l) (hw : Wd l) (hx : 0 ≤ x8 ∧ x8 ≤ 18446744073709551615) (E : Int) (L : List E8) (hE : addE l (x1, x2, x3, x4, x5, x6, x7, x8) m = E) (hL : addL l (x1, x2, x3, x4, x5, x6, x7, x8) m = L) (hn : n ≤ 1000000) :
    Calls Try.prog 13 #[.slice A n c, .agg #[.int .i64 x1, .int .i64 x2, .int .i64 x3, .int .i64 x4, .int .i64 x5, .int .i64 x6, .int .u64 x7, .int .u64 x8], .int .i64 m] w fun e w' => ∃ v, e = .returned (.tuple #[v, .int .i64 E]) ∧ OwnE w' w.heap.size v L ∧ Bel w w' := by
  subst hE hL
  exact addR A n c l x1 x2 x3 x4 x5 x6 x7 x8 m w hi hn hw hx
set_option maxRecDepth 100000 in
set_option maxHeartbeats 16000000 in
theorem addsLaw (A : Option Addr) (n c : Nat) (l : List E8) (x1 x2 x3 x4 x5 x6 x7 x8 m : Int) (w : World) (hi : Rw.RS eR w A n c l) (hw : Wd l) (hx : 0 ≤ x8 ∧ x8 ≤ 18446744073709551615) :
    Calls Try.prog 3 #[.slice A n c, .agg #[.int .i64 x1, .int .i64 x2, .int .i64 x3, .int .i64 x4, .int .i64 x5, .int .i64 x6, .int .u64 x7, .int .u64 x8], .int .i64 m] w fun e w' => e = .returned (.bool true) ∧ Bel w w' := by
  have HLN := Lib.hid hi.len
  have HWD := Lib.hid hw
  have HX := Lib.hid hx
  have Hp := Lib.hid (Blk.new w #[.int .i64 x1, .int .i64 x2, .int .i64 x3, .int .i64 x4, .int .i64 x5, .int .i64 x6, .int .u64 x7, .int .u64 x8] 27)
  obtain ⟨W, hW⟩ : ∃ W, w.alloc (.cells #[.int .i64 x1, .int .i64 x2, .int .i64 x3, .int .i64 x4, .int .i64 x5, .int .i64 x6, .int .u64 x7, .int .u64 x8] 27) = W := ⟨_, rfl⟩
  have BW := Lib.hid (show Bel w W by rw [← hW]; exact (Bel.refl w).alloc _)
  rw [hW] at Hp
  have Hi := Lib.hid (hi.bel BW.out)
  clear hi hw hx
  go_enter Try.func3, Try.ntmps3
  go_upto_region 1 with fail
  try rw [hW]
  obtain ⟨g, hg⟩ : ∃ g, w.heap.size = g := ⟨_, rfl⟩
  rw [hg] at Hp ⊢
  clear hW hg
  by_cases hlong : 60 < n
  · have hlong3 : (60 : Int) < n := by omega
    go_wp2_with fail
    refine (awake _).mono ?_
    rintro e w1 ⟨rfl, kb⟩
    have KB := Lib.hid (BW.out.trans kb)
    clear kb
    go_wp2_with fail
    go_ret
    exact ⟨rfl, KB.out⟩
  have hlong3 : ¬ (60 : Int) < n := by omega
  have HN := Lib.hid (show n ≤ 60 by omega)
  have C1 := Lib.hid (copy A n c l W Hi.out (by have := HN.out; omega))
  go_wp2_with fail
  refine C1.out.mono ?_
  rintro x w1 ⟨vc, rfl, hc, kb⟩
  have K1 := Lib.hid (BW.out.trans kb)
  have Hi := Lib.hid (Hi.out.bel kb)
  have Hp := Lib.hid (Hp.out.bel kb)
  clear C1
  obtain ⟨Ac, cc, rfl, hcr⟩ := Rw.OwnR.slice hc
  rw [HLN.out] at hcr ⊢
  have Hc := Lib.hid hcr
  clear hc hcr
  obtain ⟨E, hEq⟩ : ∃ x, addE l (x1, x2, x3, x4, x5, x6, x7, x8) m = x := ⟨_, rfl⟩
  have HEq := Lib.hid hEq
  clear hEq
  obtain ⟨La, hLaq⟩ : ∃ x, addL l (x1, x2, x3, x4, x5, x6, x7, x8) m = x := ⟨_, rfl⟩
  have HLaq := Lib.hid hLaq
  clear hLaq
  have KT := Lib.hid (Bel.refl w1)
  have Ks := K1
  have Si := Hi
  have Sp := Hp
  have Sc := Hc
  have c0 := Hp.out.cell 0 rfl
  have c1 := Hp.out.cell 1 rfl
  have c2 := Hp.out.cell 2 rfl
  have c3 := Hp.out.cell 3 rfl
  have c4 := Hp.out.cell 4 rfl
  have c5 := Hp.out.cell 5 rfl
  have c6 := Hp.out.cell 6 rfl
  have c7 := Hp.out.cell 7 rfl
  have C2 := Lib.hid (add_c Ac n cc l x1 x2 x3 x4 x5 x6 x7 x8 m w1 Hc.out HWD.out HX.out E La HEq.out HLaq.out (by have := HN.out; omega))
  go_wp2_with fail
  refine C2.out.mono ?_
  rintro x w2 ⟨va, rfl, ha, kb⟩
  have KT := Lib.hid (KT.out.trans kb)
  have K2 := Lib.hid (K1.out.trans kb)
  have Hi := Lib.hid (Hi.out.bel kb)
  have Hp := Lib.hid (Hp.out.bel kb)
  have Hc := Lib.hid (Hc.out.bel kb)
  clear C2
  clear c0 c1 c2 c3 c4 c5 c6 c7
  obtain ⟨Aa, ca, rfl, hra⟩ := Rw.OwnR.slice ha
  have Hoa := Lib.hid ha
  have Hra := Lib.hid hra
  clear ha hra
  have c0 := Hp.out.cell 0 rfl
  have c1 := Hp.out.cell 1 rfl
  have c2 := Hp.out.cell 2 rfl
  have c3 := Hp.out.cell 3 rfl
  have c4 := Hp.out.cell 4 rfl
  have c5 := Hp.out.cell 5 rfl
  have c6 := Hp.out.cell 6 rfl
  have c7 := Hp.out.cell 7 rfl
  have C3 := Lib.hid (addR_c A n c l x1 x2 x3 x4 x5 x6 x7 x8 m w2 Hi.out HWD.out HX.out E La HEq.out HLaq.out (by have := HN.out; omega))
  go_wp2_with fail
  refine C3.out.mono ?_
  rintro x w3 ⟨vb, rfl, hb, kb⟩
  have KT := Lib.hid (KT.out.trans kb)
  have K3 := Lib.hid (K2.out.trans kb)
  have Hi := Lib.hid (Hi.out.bel kb)
  have Hp := Lib.hid (Hp.out.bel kb)
  have Hc := Lib.hid (Hc.out.bel kb)
  have Hoa := Lib.hid (Hoa.out.bel kb)
  have Hra := Lib.hid (Hra.out.bel kb)
  clear C3
  clear c0 c1 c2 c3 c4 c5 c6 c7
  obtain ⟨Ab, cb, rfl, hrb⟩ := Rw.OwnR.slice hb
  have Hrb := Lib.hid hrb
  clear hb hrb
  obtain ⟨e1, he1q⟩ : ∃ x, (chk l).1 = x := ⟨_, rfl⟩
  have He1q := Lib.hid he1q
  clear he1q
  obtain ⟨e2, he2q⟩ : ∃ x, (chk l).2 = x := ⟨_, rfl⟩
  have He2q := Lib.hid he2q
  clear he2q
  have C4 := Lib.hid ((show Calls Try.prog 14 #[.slice Ac n cc] w3 fun e w' => e = .returned (.tuple #[.int .i64 e1, .int .i64 e2]) ∧ Bel w3 w' by rw [← He1q.out, ← He2q.out]; exact check Ac n cc l w3 Hc.out (by have := HN.out; omega) HWD.out))
  go_wp2_with fail
  refine C4.out.mono ?_
  rintro x w4 ⟨rfl, kb⟩
  have KT := Lib.hid (KT.out.trans kb)
  have K4 := Lib.hid (K3.out.trans kb)
  have Hi := Lib.hid (Hi.out.bel kb)
  have Hp := Lib.hid (Hp.out.bel kb)
  have Hc := Lib.hid (Hc.out.bel kb)
  have Hoa := Lib.hid (Hoa.out.bel kb)
  have Hra := Lib.hid (Hra.out.bel kb)
  have Hrb := Lib.hid (Hrb.out.bel kb)
  clear C4
  have C5 := Lib.hid ((show Calls Try.prog 15 #[.slice A n c] w4 fun e w' => e = .returned (.tuple #[.int .i64 e1, .int .i64 e2]) ∧ Bel w4 w' by rw [← He1q.out, ← He2q.out]; exact checkR A n c l w4 Hi.out (by have := HN.out; omega) HWD.out))
  go_wp2_with fail
  refine C5.out.mono ?_
  rintro x w5 ⟨rfl, kb⟩
  have KT := Lib.hid (KT.out.trans kb)
  have K5 := Lib.hid (K4.out.trans kb)
  have Hi := Lib.hid (Hi.out.bel kb)
  have Hp := Lib.hid (Hp.out.bel kb)
  have Hc := Lib.hid (Hc.out.bel kb)
  have Hoa := Lib.hid (Hoa.out.bel kb)
  have Hra := Lib.hid (Hra.out.bel kb)
  have Hrb := Lib.hid (Hrb.out.bel kb)
  clear C5
  have C6 := Lib.hid ((show Calls Try.prog 16 #[.slice Aa La.length ca, .slice Ab La.length cb] w5 fun e w' => e = .returned (.bool true) ∧ Bel w5 w' by have h := same_entries Aa Ab La.length ca La.length cb La La w5 Hra.out Hrb.out (by have := (show La.length ≤ 61 by rw [← HLaq.out]; have := addL_le l (x1, x2, x3, x4, x5, x6, x7, x8) m; have := HLN.out; have := HN.out; omega); omega) (by have := (show La.length ≤ 61 by rw [← HLaq.out]; have := addL_le l (x1, x2, x3, x4, x5, x6, x7, x8) m; have := HLN.out; have := HN.out; omega); omega); rwa [decide_eq_true (rfl : La = La)] at h))
  go_wp2_with fail
  refine C6.out.mono ?_
  rintro x w6 ⟨rfl, kb⟩
  have KT := Lib.hid (KT.out.trans kb)
  have K6 := Lib.hid (K5.out.trans kb)
  have Hi := Lib.hid (Hi.out.bel kb)
  have Hp := Lib.hid (Hp.out.bel kb)
  have Hc := Lib.hid (Hc.out.bel kb)
  have Hoa := Lib.hid (Hoa.out.bel kb)
  have Hra := Lib.hid (Hra.out.bel kb)
  have Hrb := Lib.hid (Hrb.out.bel kb)
  clear C6
  have C7 := Lib.hid (Qu.over_any Aa La.length ca w6 (lay_own Hoa.out) (by have := (show La.length ≤ 61 by rw [← HLaq.out]; have := addL_le l (x1, x2, x3, x4, x5, x6, x7, x8) m; have := HLN.out; have := HN.out; omega); omega))
  go_wp2_with fail
  refine C7.out.mono ?_
  rintro x w7 ⟨rfl, ko7⟩
  clear C7
  have kb := ov_bel Hoa.out KT.out (Nat.le_refl _) ko7
  clear ko7 Hoa Hra Hrb
  have K7 := Lib.hid (Ks.out.trans kb)
  have Hi := Lib.hid (Si.out.bel kb)
  have Hp := Lib.hid (Sp.out.bel kb)
  have Hc := Lib.hid (Sc.out.bel kb)
  clear Ks KT kb Si Sp Sc
  have C8 := Lib.hid ((show Calls Try.prog 16 #[.slice Ac n cc, .slice A n c] w7 fun e w' => e = .returned (.bool true) ∧ Bel w7 w' by have h := same_entries Ac A n cc n c l l w7 Hc.out Hi.out (by have := HN.out; omega) (by have := HN.out; omega); rwa [decide_eq_true (rfl : l = l)] at h))
  go_wp2_with fail
  refine C8.out.mono ?_
  rintro x w8 ⟨rfl, kb⟩
  have K8 := Lib.hid (K7.out.trans kb)
  have Hi := Lib.hid (Hi.out.bel kb)
  have Hp := Lib.hid (Hp.out.bel kb)
  have Hc := Lib.hid (Hc.out.bel kb)
  clear C8
  have C9 := Lib.hid (awake w8)
  go_wp2_with fail
  refine C9.out.mono ?_
  rintro x w9 ⟨rfl, kb⟩
  have K9 := Lib.hid (K8.out.trans kb)
  have Hi := Lib.hid (Hi.out.bel kb)
  have Hp := Lib.hid (Hp.out.bel kb)
  have Hc := Lib.hid (Hc.out.bel kb)
  clear C9
  go_wp2_with fail
  go_ret
  exact ⟨rfl, K9.out⟩
theorem addsLawW (A : Option Addr) (n c : Nat) (x1 x2 x3 x4 x5 x6 x7 x8 m : Int) (w : World) (hn : n ≤ 9223372036854775807) (hi : Ents w A n c) (l1 : -9223372036854775808 ≤ x1) (u1 : x1 ≤ 9223372036854775807) (l2 : -9223372036854775808 ≤ x2) (u2 : x2 ≤ 9223372036854775807) (l3 : -9223372036854775808 ≤ x3) (u3 : x3 ≤ 9223372036854775807) (l4 : -9223372036854775808 ≤ x4) (u4 : x4 ≤ 9223372036854775807) (l5 : -9223372036854775808 ≤ x5) (u5 : x5 ≤ 9223372036854775807) (l6 : -9223372036854775808 ≤ x6) (u6 : x6 ≤ 9223372036854775807) (l7 : 0 ≤ x7) (u7 : x7 ≤ 18446744073709551615) (l8 : 0 ≤ x8) (u8 : x8 ≤ 18446744073709551615) (hm : -9223372036854775808 ≤ m) (hm2 : m ≤ 9223372036854775807) :
    Calls Try.prog 3 #[.slice A n c, .agg #[.int .i64 x1, .int .i64 x2, .int .i64 x3, .int .i64 x4, .int .i64 x5, .int .i64 x6, .int .u64 x7, .int .u64 x8], .int .i64 m] w fun e w' => e = .returned (.bool true) ∧ Bel w w' := by
  obtain ⟨l, h1, h2⟩ := ents_rs hi
  exact addsLaw A n c l x1 x2 x3 x4 x5 x6 x7 x8 m w h1 h2 ⟨l8, u8⟩
end Qu
end Go.Proofs.Ytejmgdanbjkckaa
