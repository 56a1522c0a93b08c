/-
  Texts of this claim, put together: Ro16, Ro17. What each one says, and under which conditions, stands ahead of it.
-/
import Derived.Test.YtpfdakkameifkaaRF

section
/-
  The law RosterTells answers true. Conditions: the numbers are ints and words.
-/
namespace Go.Proofs.Ytpfdakkameifkaa
open Go.RowKit Go.Shelf
set_option linter.unusedVariables false
set_option linter.unusedSimpArgs false
namespace Ro
open Kk Pm

theorem ov_bel {w1 wb wa : World} {base : Nat} {A : Option Addr} {n c : Nat} {l : List V6} (h : OwnV wb base (.slice A n c) l) (hb : Bel w1 wb) (hbase : w1.heap.size ≤ base) (ko : Ov A n wb wa) : Bel w1 wa :=
  Kep.bel hb ko.kep (fun k hk => by
    obtain ⟨_, x, rfl, rfl⟩ := hk
    exact Nat.le_trans hbase (Rw.own_ge h rfl))
theorem crL_len (l : List V6) (o m : Int) : (crL l o m).length ≤ l.length + 1 := by
  unfold crL
  split
  · simp
  · simp
theorem upd_le (l : List V6) (v E : Int) (f : V6 → V6) : (upd l v E f).length ≤ l.length := by
  unfold upd
  split
  · split
    · simp
    · simp
  · simp
theorem chL_le (l : List V6) (b : List Bool) : (chL l b).length ≤ l.length := by
  unfold chL
  split
  · rw [List.length_zipWith]; omega
  · simp
theorem createR_c (A : Option Addr) (n c : Nat) (l : List V6) (o m : Int) (w : World) (hi : Rw.RS vR w A n c l) (E : Int) (N : Nat) (L : List V6) (hE : crE l o m = E) (hN : crN l o m = N) (hL : crL l o m = L) (hn : n ≤ 1000000) :
    Calls Try.prog 12 #[.slice A n c, .int .i64 o, .int .u64 m] w fun e w' => ∃ v, e = .returned (.tuple #[v, .int .i64 (N : Nat), .int .i64 E]) ∧ OwnV w' w.heap.size v L ∧ Bel w w' := by
  subst hE hN hL
  exact createR A n c l o m w hi hn
theorem chooseR_c (A : Option Addr) (n c : Nat) (l : List V6) (B : Option Addr) (m d : Nat) (bs : List Bool) (w : World) (hi : Rw.RS vR w A n c l) (hb : Rw.RS bR w B m d bs) (E : Int) (L : List V6) (hE : chE l bs = E) (hL : chL l bs = L) (hn : n ≤ 1000000) (hm : m ≤ 1000000) :
    Calls Try.prog 29 #[.slice A n c, .slice B m d] w fun e w' => ∃ v, e = .returned (.tuple #[v, .int .i64 E]) ∧ OwnV w' w.heap.size v L ∧ Bel w w' := by
  subst hE hL
  exact chooseR A n c l B m d bs w hi hn hb hm
theorem jailR_c (A : Option Addr) (n c : Nat) (l : List V6) (v tl : Int) (w : World) (hi : Rw.RS vR w A n c l) (E : Int) (L : List V6) (hE : cgE l v (jaE tl) = E) (hL : upd l v E (jaF tl) = L) (hn : n ≤ 1000000) :
    Calls Try.prog 31 #[.slice A n c, .int .i64 v, .int .i64 tl] w fun e w' => ∃ v, e = .returned (.tuple #[v, .int .i64 E]) ∧ OwnV w' w.heap.size v L ∧ Bel w w' := by
  subst hE hL
  exact jailR A n c l v tl w hi hn
theorem unjailR_c (A : Option Addr) (n c : Nat) (l : List V6) (v b h : Int) (w : World) (hi : Rw.RS vR w A n c l) (E : Int) (L : List V6) (hE : cgE l v (unE b h) = E) (hL : upd l v E (setS 1) = L) (hn : n ≤ 1000000) :
    Calls Try.prog 33 #[.slice A n c, .int .i64 v, .int .i64 b, .int .i64 h] w fun e w' => ∃ v, e = .returned (.tuple #[v, .int .i64 E]) ∧ OwnV w' w.heap.size v L ∧ Bel w w' := by
  subst hE hL
  exact unjailR A n c l v b h w hi hn
theorem punishR_c (A : Option Addr) (n c : Nat) (l : List V6) (v k tl : Int) (w : World) (hi : Rw.RS vR w A n c l) (E : Int) (L : List V6) (hE : puE l v k tl = E) (hL : upd l v E (puF k tl) = L) (hn : n ≤ 1000000) :
    Calls Try.prog 35 #[.slice A n c, .int .i64 v, .int .i64 k, .int .i64 tl] w fun e w' => ∃ v, e = .returned (.tuple #[v, .int .i64 E]) ∧ OwnV w' w.heap.size v L ∧ Bel w w' := by
  subst hE hL
  exact punishR A n c l v k tl w hi hn
set_option maxRecDepth 100000 in
set_option maxHeartbeats 16000000 in
theorem tellsLaw (A : Option Addr) (n c : Nat) (l : List V6) (o m v s : Int) (w : World) (hi : Rw.RS vR w A n c l) (hw : ∀ r ∈ l, WV r) (ho : I64 o) :
    Calls Try.prog 3 #[.slice A n c, .int .i64 o, .int .u64 m, .int .i64 v, .int .i64 s] w fun e w' => e = .returned (.bool true) ∧ Bel w w' := by
  by_cases hlong : 40 < n
  · have AW := Lib.hid (awake w)
    have hlong3 : (40 : Int) < n := by omega
    go_enter Try.func3, Try.ntmps3
    go_wp2_with fail
    refine AW.out.mono ?_
    rintro e w1 ⟨rfl, kb⟩
    have KB := Lib.hid kb
    clear kb
    go_wp2_with fail
    go_ret
    exact ⟨rfl, KB.out⟩
  have hlong3 : ¬ (40 : Int) < n := by omega
  have HN := Lib.hid (show n ≤ 40 by omega)
  have K0 := Lib.hid (Bel.refl w)
  have Hi := Lib.hid hi
  have HLN := Lib.hid hi.len
  have HO := Lib.hid (fun r hr => (hw r hr).i)
  have HOO := Lib.hid ho
  clear hi hw ho
  go_enter Try.func3, Try.ntmps3
  have C1 := Lib.hid (copy A n c l w Hi.out (by have := HN.out; omega))
  go_wp2_with fail
  refine C1.out.mono ?_
  rintro x w1 ⟨vc, rfl, hc, kb⟩
  have K1 := Lib.hid (K0.out.trans kb)
  have Hi := Lib.hid (Hi.out.bel kb)
  clear C1
  obtain ⟨Ac, cc, rfl, hcr⟩ := Rw.OwnR.slice hc
  rw [HLN.out] at hcr ⊢
  have Hc := Lib.hid hcr
  clear hc hcr
  have KT := Lib.hid (Bel.refl w1)
  obtain ⟨E, hEq⟩ : ∃ x, crE l o m = x := ⟨_, rfl⟩
  have HEq := Lib.hid hEq
  clear hEq
  obtain ⟨N, hNq⟩ : ∃ x, crN l o m = x := ⟨_, rfl⟩
  have HNq := Lib.hid hNq
  clear hNq
  obtain ⟨La, hLaq⟩ : ∃ x, crL l o m = x := ⟨_, rfl⟩
  have HLaq := Lib.hid hLaq
  clear hLaq
  have Ks := K1
  have Si := Hi
  have Sc := Hc
  have C2 := Lib.hid (create_c Ac n cc l o m w1 Hc.out E N La HEq.out HNq.out HLaq.out (by have := HN.out; omega) HO.out HOO.out)
  go_wp2_with fail
  refine C2.out.mono ?_
  rintro x w2 ⟨va, rfl, ha, kb⟩
  have KT := Lib.hid (KT.out.trans kb)
  have K2 := Lib.hid (K1.out.trans kb)
  have Hi := Lib.hid (Hi.out.bel kb)
  have Hc := Lib.hid (Hc.out.bel kb)
  clear C2
  have Hoa := Lib.hid ha
  obtain ⟨Aa, ca, rfl, hra⟩ := Rw.OwnR.slice ha
  have Hra := Lib.hid hra
  clear ha hra
  have C3 := Lib.hid (createR_c A n c l o m w2 Hi.out E N La HEq.out HNq.out HLaq.out (by have := HN.out; omega))
  go_wp2_with fail
  refine C3.out.mono ?_
  rintro x w3 ⟨vb, rfl, hb, kb⟩
  have KT := Lib.hid (KT.out.trans kb)
  have K3 := Lib.hid (K2.out.trans kb)
  have Hi := Lib.hid (Hi.out.bel kb)
  have Hc := Lib.hid (Hc.out.bel kb)
  have Hoa := Lib.hid (Hoa.out.bel kb)
  have Hra := Lib.hid (Hra.out.bel kb)
  clear C3
  obtain ⟨Ab, cb, rfl, hrb⟩ := Rw.OwnR.slice hb
  have Hrb := Lib.hid hrb
  clear hb hrb
  have C4 := Lib.hid ((show Calls Try.prog 13 #[.slice Aa La.length ca, .slice Ab La.length cb] w3 fun e w' => e = .returned (.bool true) ∧ Bel w3 w' by have h := same_validators Aa Ab La.length ca La.length cb La La w3 Hra.out Hrb.out (by have := (show La.length ≤ 41 by rw [← HLaq.out]; have := crL_len l o m; have := HLN.out; have := HN.out; omega); omega) (by have := (show La.length ≤ 41 by rw [← HLaq.out]; have := crL_len l o m; have := HLN.out; have := HN.out; omega); omega); rwa [decide_eq_true (rfl : La = La)] at h))
  go_wp2_with fail
  refine C4.out.mono ?_
  rintro x w4 ⟨rfl, kb⟩
  have KT := Lib.hid (KT.out.trans kb)
  have K4 := Lib.hid (K3.out.trans kb)
  have Hi := Lib.hid (Hi.out.bel kb)
  have Hc := Lib.hid (Hc.out.bel kb)
  have Hoa := Lib.hid (Hoa.out.bel kb)
  have Hra := Lib.hid (Hra.out.bel kb)
  have Hrb := Lib.hid (Hrb.out.bel kb)
  clear C4
  have C5 := Lib.hid (over_any Aa La.length ca w4 (lay_own Hoa.out) (by have := (show La.length ≤ 41 by rw [← HLaq.out]; have := crL_len l o m; have := HLN.out; have := HN.out; omega); omega))
  go_wp2_with fail
  refine C5.out.mono ?_
  rintro x w5 ⟨rfl, ko⟩
  have kb := ov_bel Hoa.out (KT.out) (Nat.le_refl _) ko
  have K5 := Lib.hid (Ks.out.trans kb)
  have Hi := Lib.hid (Si.out.bel kb)
  have Hc := Lib.hid (Sc.out.bel kb)
  clear kb ko C5 Hoa Hra Hrb Ks Si Sc
  clear KT
  clear HEq HNq HLaq
  obtain ⟨e1, he1q⟩ : ∃ x, (chk l).1 = x := ⟨_, rfl⟩
  have He1q := Lib.hid he1q
  clear he1q
  obtain ⟨e2, he2q⟩ : ∃ x, (chk l).2 = x := ⟨_, rfl⟩
  have He2q := Lib.hid he2q
  clear he2q
  have C6 := Lib.hid ((show Calls Try.prog 15 #[.slice Ac n cc] w5 fun e w' => e = .returned (.tuple #[.int .i64 e1, .int .i64 e2]) ∧ Bel w5 w' by rw [← He1q.out, ← He2q.out]; exact check Ac n cc l w5 Hc.out (by have := HN.out; omega) HO.out))
  go_wp2_with fail
  refine C6.out.mono ?_
  rintro x w6 ⟨rfl, kb⟩
  have K6 := Lib.hid (K5.out.trans kb)
  have Hi := Lib.hid (Hi.out.bel kb)
  have Hc := Lib.hid (Hc.out.bel kb)
  clear C6
  have C7 := Lib.hid ((show Calls Try.prog 16 #[.slice A n c] w6 fun e w' => e = .returned (.tuple #[.int .i64 e1, .int .i64 e2]) ∧ Bel w6 w' by rw [← He1q.out, ← He2q.out]; exact checkR A n c l w6 Hi.out (by have := HN.out; omega)))
  go_wp2_with fail
  refine C7.out.mono ?_
  rintro x w7 ⟨rfl, kb⟩
  have K7 := Lib.hid (K6.out.trans kb)
  have Hi := Lib.hid (Hi.out.bel kb)
  have Hc := Lib.hid (Hc.out.bel kb)
  clear C7
  obtain ⟨j, hjq⟩ : ∃ x, (fnd l o).getD 0 = x := ⟨_, rfl⟩
  have Hjq := Lib.hid hjq
  clear hjq
  obtain ⟨y, hyq⟩ : ∃ x, (fnd l o).isSome = x := ⟨_, rfl⟩
  have Hyq := Lib.hid hyq
  clear hyq
  have C8 := Lib.hid ((show Calls Try.prog 17 #[.slice Ac n cc, .int .i64 o] w7 fun e w' => e = .returned (.tuple #[.int .i64 (j : Nat), .bool y]) ∧ Bel w7 w' by rw [← Hjq.out, ← Hyq.out]; exact find Ac n cc l o w7 Hc.out (by have := HN.out; omega) HO.out HOO.out))
  go_wp2_with fail
  refine C8.out.mono ?_
  rintro x w8 ⟨rfl, kb⟩
  have K8 := Lib.hid (K7.out.trans kb)
  have Hi := Lib.hid (Hi.out.bel kb)
  have Hc := Lib.hid (Hc.out.bel kb)
  clear C8
  have C9 := Lib.hid ((show Calls Try.prog 18 #[.slice A n c, .int .i64 o] w8 fun e w' => e = .returned (.tuple #[.int .i64 (j : Nat), .bool y]) ∧ Bel w8 w' by rw [← Hjq.out, ← Hyq.out]; exact (findR A n c l o w8 Hi.out (by have := HN.out; omega)).mono (fun e w' h => ⟨h.1, by rw [← h.2]; exact Bel.refl _⟩)))
  go_wp2_with fail
  refine C9.out.mono ?_
  rintro x w9 ⟨rfl, kb⟩
  have K9 := Lib.hid (K8.out.trans kb)
  have Hi := Lib.hid (Hi.out.bel kb)
  have Hc := Lib.hid (Hc.out.bel kb)
  clear C9
  obtain ⟨F, hFq⟩ : ∃ x, l.map free = x := ⟨_, rfl⟩
  have HFq := Lib.hid hFq
  clear hFq
  have HFl := Lib.hid (show F.length = n by rw [← HFq.out, List.length_map, HLN.out])
  have C10 := Lib.hid ((show Calls Try.prog 20 #[.slice Ac n cc] w9 fun e w' => ∃ v, e = .returned v ∧ OwnB w' (World.heap w9).size v F ∧ Bel w9 w' by rw [← HFq.out]; exact free_ Ac n cc l w9 Hc.out (by have := HN.out; omega)))
  go_wp2_with fail
  refine C10.out.mono ?_
  rintro x w10 ⟨v, rfl, hb, kb⟩
  have K10 := Lib.hid (K9.out.trans kb)
  have Hi := Lib.hid (Hi.out.bel kb)
  have Hc := Lib.hid (Hc.out.bel kb)
  clear C10
  obtain ⟨Ap, cp, rfl, hr⟩ := Rw.OwnR.slice hb
  rw [HFl.out] at hr ⊢
  have Hp := Lib.hid hr
  clear hb hr
  have C11 := Lib.hid ((show Calls Try.prog 21 #[.slice A n c] w10 fun e w' => ∃ v, e = .returned v ∧ OwnB w' (World.heap w10).size v F ∧ Bel w10 w' by rw [← HFq.out]; exact freeR A n c l w10 Hi.out (by have := HN.out; omega)))
  go_wp2_with fail
  refine C11.out.mono ?_
  rintro x w11 ⟨v, rfl, hb, kb⟩
  have K11 := Lib.hid (K10.out.trans kb)
  have Hi := Lib.hid (Hi.out.bel kb)
  have Hc := Lib.hid (Hc.out.bel kb)
  have Hp := Lib.hid (Hp.out.bel kb)
  clear C11
  obtain ⟨Aq, cq, rfl, hr⟩ := Rw.OwnR.slice hb
  rw [HFl.out] at hr ⊢
  have Hq := Lib.hid hr
  clear hb hr
  have C12 := Lib.hid ((show Calls Try.prog 19 #[.slice Ap n cp, .slice Aq n cq] w11 fun e w' => e = .returned (.bool true) ∧ Bel w11 w' by have h := same_bools Ap Aq n cp n cq F F w11 Hp.out Hq.out (by have := HN.out; omega) (by have := HN.out; omega); rwa [decide_eq_true (rfl : F = F)] at h))
  go_wp2_with fail
  refine C12.out.mono ?_
  rintro x w12 ⟨rfl, kb⟩
  have K12 := Lib.hid (K11.out.trans kb)
  have Hi := Lib.hid (Hi.out.bel kb)
  have Hc := Lib.hid (Hc.out.bel kb)
  have Hp := Lib.hid (Hp.out.bel kb)
  have Hq := Lib.hid (Hq.out.bel kb)
  clear C12
  clear Hp Hq
  obtain ⟨G, hGq⟩ : ∃ x, l.map acts = x := ⟨_, rfl⟩
  have HGq := Lib.hid hGq
  clear hGq
  have HGl := Lib.hid (show G.length = n by rw [← HGq.out, List.length_map, HLN.out])
  have C13 := Lib.hid ((show Calls Try.prog 22 #[.slice Ac n cc] w12 fun e w' => ∃ v, e = .returned v ∧ OwnB w' (World.heap w12).size v G ∧ Bel w12 w' by rw [← HGq.out]; exact acts_ Ac n cc l w12 Hc.out (by have := HN.out; omega)))
  go_wp2_with fail
  refine C13.out.mono ?_
  rintro x w13 ⟨v, rfl, hb, kb⟩
  have K13 := Lib.hid (K12.out.trans kb)
  have Hi := Lib.hid (Hi.out.bel kb)
  have Hc := Lib.hid (Hc.out.bel kb)
  clear C13
  obtain ⟨Ap, cp, rfl, hr⟩ := Rw.OwnR.slice hb
  rw [HGl.out] at hr ⊢
  have Hp := Lib.hid hr
  clear hb hr
  have C14 := Lib.hid ((show Calls Try.prog 23 #[.slice A n c] w13 fun e w' => ∃ v, e = .returned v ∧ OwnB w' (World.heap w13).size v G ∧ Bel w13 w' by rw [← HGq.out]; exact actsR A n c l w13 Hi.out (by have := HN.out; omega)))
  go_wp2_with fail
  refine C14.out.mono ?_
  rintro x w14 ⟨v, rfl, hb, kb⟩
  have K14 := Lib.hid (K13.out.trans kb)
  have Hi := Lib.hid (Hi.out.bel kb)
  have Hc := Lib.hid (Hc.out.bel kb)
  have Hp := Lib.hid (Hp.out.bel kb)
  clear C14
  obtain ⟨Aq, cq, rfl, hr⟩ := Rw.OwnR.slice hb
  rw [HGl.out] at hr ⊢
  have Hq := Lib.hid hr
  clear hb hr
  have C15 := Lib.hid ((show Calls Try.prog 19 #[.slice Ap n cp, .slice Aq n cq] w14 fun e w' => e = .returned (.bool true) ∧ Bel w14 w' by have h := same_bools Ap Aq n cp n cq G G w14 Hp.out Hq.out (by have := HN.out; omega) (by have := HN.out; omega); rwa [decide_eq_true (rfl : G = G)] at h))
  go_wp2_with fail
  refine C15.out.mono ?_
  rintro x w15 ⟨rfl, kb⟩
  have K15 := Lib.hid (K14.out.trans kb)
  have Hi := Lib.hid (Hi.out.bel kb)
  have Hc := Lib.hid (Hc.out.bel kb)
  have Hp := Lib.hid (Hp.out.bel kb)
  have Hq := Lib.hid (Hq.out.bel kb)
  clear C15
  clear Hp Hq
  obtain ⟨r, hrq⟩ : ∃ x, reE l v = x := ⟨_, rfl⟩
  have Hrq := Lib.hid hrq
  clear hrq
  have C16 := Lib.hid ((show Calls Try.prog 24 #[.slice Ac n cc, .int .i64 v] w15 fun e w' => e = .returned (.int .i64 r) ∧ Bel w15 w' by rw [← Hrq.out]; exact refuse Ac n cc l v w15 Hc.out (by have := HN.out; omega)))
  go_wp2_with fail
  refine C16.out.mono ?_
  rintro x w16 ⟨rfl, kb⟩
  have K16 := Lib.hid (K15.out.trans kb)
  have Hi := Lib.hid (Hi.out.bel kb)
  have Hc := Lib.hid (Hc.out.bel kb)
  clear C16
  have C17 := Lib.hid ((show Calls Try.prog 25 #[.slice A n c, .int .i64 v] w16 fun e w' => e = .returned (.int .i64 r) ∧ Bel w16 w' by rw [← Hrq.out]; exact refuseR A n c l v w16 Hi.out (by have := HN.out; omega)))
  go_wp2_with fail
  refine C17.out.mono ?_
  rintro x w17 ⟨rfl, kb⟩
  have K17 := Lib.hid (K16.out.trans kb)
  have Hi := Lib.hid (Hi.out.bel kb)
  have Hc := Lib.hid (Hc.out.bel kb)
  clear C17
  obtain ⟨nm, hnmq⟩ : ∃ x, nmS s = x := ⟨_, rfl⟩
  have Hnmq := Lib.hid hnmq
  clear hnmq
  have C18 := Lib.hid ((show Calls Try.prog 26 #[.int .i64 s] w17 fun e w' => e = .returned (.string nm) ∧ Bel w17 w' by rw [← Hnmq.out]; exact (name_ s w17).mono (fun e w' h => ⟨h.1, by rw [← h.2]; exact Bel.refl _⟩)))
  go_wp2_with fail
  refine C18.out.mono ?_
  rintro x w18 ⟨rfl, kb⟩
  have K18 := Lib.hid (K17.out.trans kb)
  have Hi := Lib.hid (Hi.out.bel kb)
  have Hc := Lib.hid (Hc.out.bel kb)
  clear C18
  have C19 := Lib.hid ((show Calls Try.prog 27 #[.int .i64 s] w18 fun e w' => e = .returned (.string nm) ∧ Bel w18 w' by rw [← Hnmq.out]; exact (nameR s w18).mono (fun e w' h => ⟨h.1, by rw [← h.2]; exact Bel.refl _⟩)))
  go_wp2_with fail
  refine C19.out.mono ?_
  rintro x w19 ⟨rfl, kb⟩
  have K19 := Lib.hid (K18.out.trans kb)
  have Hi := Lib.hid (Hi.out.bel kb)
  have Hc := Lib.hid (Hc.out.bel kb)
  clear C19
  have C20 := Lib.hid ((show Calls Try.prog 13 #[.slice Ac n cc, .slice A n c] w19 fun e w' => e = .returned (.bool true) ∧ Bel w19 w' by have h := same_validators Ac A n cc n c l l w19 Hc.out Hi.out (by have := HN.out; omega) (by have := HN.out; omega); rwa [decide_eq_true (rfl : l = l)] at h))
  go_wp2_with fail
  refine C20.out.mono ?_
  rintro x w20 ⟨rfl, kb⟩
  have K20 := Lib.hid (K19.out.trans kb)
  have Hi := Lib.hid (Hi.out.bel kb)
  have Hc := Lib.hid (Hc.out.bel kb)
  clear C20
  have C21 := Lib.hid (awake w20)
  go_wp2_with fail
  refine C21.out.mono ?_
  rintro x w21 ⟨rfl, kb⟩
  have K21 := Lib.hid (K20.out.trans kb)
  have Hi := Lib.hid (Hi.out.bel kb)
  have Hc := Lib.hid (Hc.out.bel kb)
  clear C21
  go_wp2_with fail
  go_ret
  exact ⟨rfl, K21.out⟩
theorem tellsLawW (A : Option Addr) (n c : Nat) (o m v s : Int) (w : World) (hn : n ≤ 9223372036854775807) (hi : Vals w A n c) (ho : -9223372036854775808 ≤ o) (ho2 : o ≤ 9223372036854775807) (hm : 0 ≤ m) (hm2 : m ≤ 18446744073709551615) (hv : -9223372036854775808 ≤ v) (hv2 : v ≤ 9223372036854775807) (hs : -9223372036854775808 ≤ s) (hs2 : s ≤ 9223372036854775807) :
    Calls Try.prog 3 #[.slice A n c, .int .i64 o, .int .u64 m, .int .i64 v, .int .i64 s] w fun e w' => e = .returned (.bool true) ∧ Bel w w' := by
  obtain ⟨l, h1, h2⟩ := vals_rs hi
  exact tellsLaw A n c l o m v s w h1 h2 ⟨ho, ho2⟩
end Ro
end Go.Proofs.Ytpfdakkameifkaa
end

section
/-
  The law RosterTurns answers true. Conditions: the numbers are ints and words.
-/
namespace Go.Proofs.Ytpfdakkameifkaa
open Go.RowKit Go.Shelf
set_option linter.unusedVariables false
set_option linter.unusedSimpArgs false
namespace Ro
open Kk Pm

set_option maxRecDepth 100000 in
set_option maxHeartbeats 16000000 in
theorem turnsLaw (A : Option Addr) (n c : Nat) (l : List V6) (B : Option Addr) (m d : Nat) (bs : List Bool) (v until_ by_ h_ cl : Int) (w : World) (hi : Rw.RS vR w A n c l) (hw : ∀ r ∈ l, WV r) (hb : Rw.RS bR w B m d bs) :
    Calls Try.prog 4 #[.slice A n c, .slice B m d, .int .i64 v, .int .i64 until_, .int .i64 by_, .int .i64 h_, .int .i64 cl] w fun e w' => e = .returned (.bool true) ∧ Bel w w' := by
  by_cases hlong : 40 < n
  · have hlong3 : (40 : Int) < n := by omega
    have AW := Lib.hid (awake w)
    go_enter Try.func4, Try.ntmps4
    go_wp2_with fail
    refine AW.out.mono ?_
    rintro e w1 ⟨rfl, kb⟩
    have KB := Lib.hid kb
    clear kb
    go_wp2_with fail
    go_ret
    exact ⟨rfl, KB.out⟩
  have hlong3 : ¬ (40 : Int) < n := by omega
  by_cases hlong2 : 40 < m
  · have hlong4 : (40 : Int) < m := by omega
    have AW := Lib.hid (awake w)
    go_enter Try.func4, Try.ntmps4
    go_wp2_with fail
    refine AW.out.mono ?_
    rintro e w1 ⟨rfl, kb⟩
    have KB := Lib.hid kb
    clear kb
    go_wp2_with fail
    go_ret
    exact ⟨rfl, KB.out⟩
  have hlong4 : ¬ (40 : Int) < m := by omega
  have HN := Lib.hid (show n ≤ 40 by omega)
  have HM := Lib.hid (show m ≤ 40 by omega)
  have K0 := Lib.hid (Bel.refl w)
  have Hi := Lib.hid hi
  have Hb := Lib.hid hb
  have HLN := Lib.hid hi.len
  have HO := Lib.hid (fun r hr => (hw r hr).i)
  clear hi hw hb
  go_enter Try.func4, Try.ntmps4
  have C1 := Lib.hid (copy A n c l w Hi.out (by have := HN.out; omega))
  go_wp2_with fail
  refine C1.out.mono ?_
  rintro x w1 ⟨vc, rfl, hc, kb⟩
  have K1 := Lib.hid (K0.out.trans kb)
  have Hi := Lib.hid (Hi.out.bel kb)
  have Hb := Lib.hid (Hb.out.bel kb)
  clear C1
  obtain ⟨Ac, cc, rfl, hcr⟩ := Rw.OwnR.slice hc
  rw [HLN.out] at hcr ⊢
  have Hc := Lib.hid hcr
  clear hc hcr
  have KT := Lib.hid (Bel.refl w1)
  obtain ⟨E, hEq⟩ : ∃ x, chE l bs = x := ⟨_, rfl⟩
  have HEq := Lib.hid hEq
  clear hEq
  obtain ⟨La, hLaq⟩ : ∃ x, chL l bs = x := ⟨_, rfl⟩
  have HLaq := Lib.hid hLaq
  clear hLaq
  have Ks := K1
  have Si := Hi
  have Sb := Hb
  have Sc := Hc
  have C2 := Lib.hid (choose_c Ac n cc l B m d bs w1 Hc.out Hb.out E La HEq.out HLaq.out (by have := HN.out; omega) HO.out (by have := HM.out; omega))
  go_wp2_with fail
  refine C2.out.mono ?_
  rintro x w2 ⟨va, rfl, ha, kb⟩
  have KT := Lib.hid (KT.out.trans kb)
  have K2 := Lib.hid (K1.out.trans kb)
  have Hi := Lib.hid (Hi.out.bel kb)
  have Hb := Lib.hid (Hb.out.bel kb)
  have Hc := Lib.hid (Hc.out.bel kb)
  clear C2
  have Hoa := Lib.hid ha
  obtain ⟨Aa, ca, rfl, hra⟩ := Rw.OwnR.slice ha
  have Hra := Lib.hid hra
  clear ha hra
  have C3 := Lib.hid (chooseR_c A n c l B m d bs w2 Hi.out Hb.out E La HEq.out HLaq.out (by have := HN.out; omega) (by have := HM.out; omega))
  go_wp2_with fail
  refine C3.out.mono ?_
  rintro x w3 ⟨vb, rfl, hb, kb⟩
  have KT := Lib.hid (KT.out.trans kb)
  have K3 := Lib.hid (K2.out.trans kb)
  have Hi := Lib.hid (Hi.out.bel kb)
  have Hb := Lib.hid (Hb.out.bel kb)
  have Hc := Lib.hid (Hc.out.bel kb)
  have Hoa := Lib.hid (Hoa.out.bel kb)
  have Hra := Lib.hid (Hra.out.bel kb)
  clear C3
  obtain ⟨Ab, cb, rfl, hrb⟩ := Rw.OwnR.slice hb
  have Hrb := Lib.hid hrb
  clear hb hrb
  have C4 := Lib.hid ((show Calls Try.prog 13 #[.slice Aa La.length ca, .slice Ab La.length cb] w3 fun e w' => e = .returned (.bool true) ∧ Bel w3 w' by have h := same_validators Aa Ab La.length ca La.length cb La La w3 Hra.out Hrb.out (by have := (show La.length ≤ 41 by rw [← HLaq.out]; have := chL_le l bs; have := HLN.out; have := HN.out; omega); omega) (by have := (show La.length ≤ 41 by rw [← HLaq.out]; have := chL_le l bs; have := HLN.out; have := HN.out; omega); omega); rwa [decide_eq_true (rfl : La = La)] at h))
  go_wp2_with fail
  refine C4.out.mono ?_
  rintro x w4 ⟨rfl, kb⟩
  have KT := Lib.hid (KT.out.trans kb)
  have K4 := Lib.hid (K3.out.trans kb)
  have Hi := Lib.hid (Hi.out.bel kb)
  have Hb := Lib.hid (Hb.out.bel kb)
  have Hc := Lib.hid (Hc.out.bel kb)
  have Hoa := Lib.hid (Hoa.out.bel kb)
  have Hra := Lib.hid (Hra.out.bel kb)
  have Hrb := Lib.hid (Hrb.out.bel kb)
  clear C4
  have C5 := Lib.hid (over_any Aa La.length ca w4 (lay_own Hoa.out) (by have := (show La.length ≤ 41 by rw [← HLaq.out]; have := chL_le l bs; have := HLN.out; have := HN.out; omega); omega))
  go_wp2_with fail
  refine C5.out.mono ?_
  rintro x w5 ⟨rfl, ko⟩
  have kb := ov_bel Hoa.out (KT.out) (Nat.le_refl _) ko
  have K5 := Lib.hid (Ks.out.trans kb)
  have Hi := Lib.hid (Si.out.bel kb)
  have Hb := Lib.hid (Sb.out.bel kb)
  have Hc := Lib.hid (Sc.out.bel kb)
  clear kb ko C5 Hoa Hra Hrb Ks Si Sb Sc
  clear KT
  clear HEq HLaq
  have KT := Lib.hid (Bel.refl w5)
  obtain ⟨E, hEq⟩ : ∃ x, cgE l v (jaE until_) = x := ⟨_, rfl⟩
  have HEq := Lib.hid hEq
  clear hEq
  obtain ⟨La, hLaq⟩ : ∃ x, upd l v E (jaF until_) = x := ⟨_, rfl⟩
  have HLaq := Lib.hid hLaq
  clear hLaq
  have Ks := K5
  have Si := Hi
  have Sb := Hb
  have Sc := Hc
  have C6 := Lib.hid (jail_c Ac n cc l v until_ w5 Hc.out E La HEq.out HLaq.out (by have := HN.out; omega) HO.out)
  go_wp2_with fail
  refine C6.out.mono ?_
  rintro x w6 ⟨va, rfl, ha, kb⟩
  have KT := Lib.hid (KT.out.trans kb)
  have K6 := Lib.hid (K5.out.trans kb)
  have Hi := Lib.hid (Hi.out.bel kb)
  have Hb := Lib.hid (Hb.out.bel kb)
  have Hc := Lib.hid (Hc.out.bel kb)
  clear C6
  have Hoa := Lib.hid ha
  obtain ⟨Aa, ca, rfl, hra⟩ := Rw.OwnR.slice ha
  have Hra := Lib.hid hra
  clear ha hra
  have C7 := Lib.hid (jailR_c A n c l v until_ w6 Hi.out E La HEq.out HLaq.out (by have := HN.out; omega))
  go_wp2_with fail
  refine C7.out.mono ?_
  rintro x w7 ⟨vb, rfl, hb, kb⟩
  have KT := Lib.hid (KT.out.trans kb)
  have K7 := Lib.hid (K6.out.trans kb)
  have Hi := Lib.hid (Hi.out.bel kb)
  have Hb := Lib.hid (Hb.out.bel kb)
  have Hc := Lib.hid (Hc.out.bel kb)
  have Hoa := Lib.hid (Hoa.out.bel kb)
  have Hra := Lib.hid (Hra.out.bel kb)
  clear C7
  obtain ⟨Ab, cb, rfl, hrb⟩ := Rw.OwnR.slice hb
  have Hrb := Lib.hid hrb
  clear hb hrb
  have C8 := Lib.hid ((show Calls Try.prog 13 #[.slice Aa La.length ca, .slice Ab La.length cb] w7 fun e w' => e = .returned (.bool true) ∧ Bel w7 w' by have h := same_validators Aa Ab La.length ca La.length cb La La w7 Hra.out Hrb.out (by have := (show La.length ≤ 41 by rw [← HLaq.out]; have := upd_le l v E (jaF until_); have := HLN.out; have := HN.out; omega); omega) (by have := (show La.length ≤ 41 by rw [← HLaq.out]; have := upd_le l v E (jaF until_); have := HLN.out; have := HN.out; omega); omega); rwa [decide_eq_true (rfl : La = La)] at h))
  go_wp2_with fail
  refine C8.out.mono ?_
  rintro x w8 ⟨rfl, kb⟩
  have KT := Lib.hid (KT.out.trans kb)
  have K8 := Lib.hid (K7.out.trans kb)
  have Hi := Lib.hid (Hi.out.bel kb)
  have Hb := Lib.hid (Hb.out.bel kb)
  have Hc := Lib.hid (Hc.out.bel kb)
  have Hoa := Lib.hid (Hoa.out.bel kb)
  have Hra := Lib.hid (Hra.out.bel kb)
  have Hrb := Lib.hid (Hrb.out.bel kb)
  clear C8
  have C9 := Lib.hid (over_any Aa La.length ca w8 (lay_own Hoa.out) (by have := (show La.length ≤ 41 by rw [← HLaq.out]; have := upd_le l v E (jaF until_); have := HLN.out; have := HN.out; omega); omega))
  go_wp2_with fail
  refine C9.out.mono ?_
  rintro x w9 ⟨rfl, ko⟩
  have kb := ov_bel Hoa.out (KT.out) (Nat.le_refl _) ko
  have K9 := Lib.hid (Ks.out.trans kb)
  have Hi := Lib.hid (Si.out.bel kb)
  have Hb := Lib.hid (Sb.out.bel kb)
  have Hc := Lib.hid (Sc.out.bel kb)
  clear kb ko C9 Hoa Hra Hrb Ks Si Sb Sc
  clear KT
  clear HEq HLaq
  have KT := Lib.hid (Bel.refl w9)
  obtain ⟨E, hEq⟩ : ∃ x, cgE l v (unE by_ h_) = x := ⟨_, rfl⟩
  have HEq := Lib.hid hEq
  clear hEq
  obtain ⟨La, hLaq⟩ : ∃ x, upd l v E (setS 1) = x := ⟨_, rfl⟩
  have HLaq := Lib.hid hLaq
  clear hLaq
  have Ks := K9
  have Si := Hi
  have Sb := Hb
  have Sc := Hc
  have C10 := Lib.hid (unjail_c Ac n cc l v by_ h_ w9 Hc.out E La HEq.out HLaq.out (by have := HN.out; omega) HO.out)
  go_wp2_with fail
  refine C10.out.mono ?_
  rintro x w10 ⟨va, rfl, ha, kb⟩
  have KT := Lib.hid (KT.out.trans kb)
  have K10 := Lib.hid (K9.out.trans kb)
  have Hi := Lib.hid (Hi.out.bel kb)
  have Hb := Lib.hid (Hb.out.bel kb)
  have Hc := Lib.hid (Hc.out.bel kb)
  clear C10
  have Hoa := Lib.hid ha
  obtain ⟨Aa, ca, rfl, hra⟩ := Rw.OwnR.slice ha
  have Hra := Lib.hid hra
  clear ha hra
  have C11 := Lib.hid (unjailR_c A n c l v by_ h_ w10 Hi.out E La HEq.out HLaq.out (by have := HN.out; omega))
  go_wp2_with fail
  refine C11.out.mono ?_
  rintro x w11 ⟨vb, rfl, hb, kb⟩
  have KT := Lib.hid (KT.out.trans kb)
  have K11 := Lib.hid (K10.out.trans kb)
  have Hi := Lib.hid (Hi.out.bel kb)
  have Hb := Lib.hid (Hb.out.bel kb)
  have Hc := Lib.hid (Hc.out.bel kb)
  have Hoa := Lib.hid (Hoa.out.bel kb)
  have Hra := Lib.hid (Hra.out.bel kb)
  clear C11
  obtain ⟨Ab, cb, rfl, hrb⟩ := Rw.OwnR.slice hb
  have Hrb := Lib.hid hrb
  clear hb hrb
  have C12 := Lib.hid ((show Calls Try.prog 13 #[.slice Aa La.length ca, .slice Ab La.length cb] w11 fun e w' => e = .returned (.bool true) ∧ Bel w11 w' by have h := same_validators Aa Ab La.length ca La.length cb La La w11 Hra.out Hrb.out (by have := (show La.length ≤ 41 by rw [← HLaq.out]; have := upd_le l v E (setS 1); have := HLN.out; have := HN.out; omega); omega) (by have := (show La.length ≤ 41 by rw [← HLaq.out]; have := upd_le l v E (setS 1); have := HLN.out; have := HN.out; omega); omega); rwa [decide_eq_true (rfl : La = La)] at h))
  go_wp2_with fail
  refine C12.out.mono ?_
  rintro x w12 ⟨rfl, kb⟩
  have KT := Lib.hid (KT.out.trans kb)
  have K12 := Lib.hid (K11.out.trans kb)
  have Hi := Lib.hid (Hi.out.bel kb)
  have Hb := Lib.hid (Hb.out.bel kb)
  have Hc := Lib.hid (Hc.out.bel kb)
  have Hoa := Lib.hid (Hoa.out.bel kb)
  have Hra := Lib.hid (Hra.out.bel kb)
  have Hrb := Lib.hid (Hrb.out.bel kb)
  clear C12
  have C13 := Lib.hid (over_any Aa La.length ca w12 (lay_own Hoa.out) (by have := (show La.length ≤ 41 by rw [← HLaq.out]; have := upd_le l v E (setS 1); have := HLN.out; have := HN.out; omega); omega))
  go_wp2_with fail
  refine C13.out.mono ?_
  rintro x w13 ⟨rfl, ko⟩
  have kb := ov_bel Hoa.out (KT.out) (Nat.le_refl _) ko
  have K13 := Lib.hid (Ks.out.trans kb)
  have Hi := Lib.hid (Si.out.bel kb)
  have Hb := Lib.hid (Sb.out.bel kb)
  have Hc := Lib.hid (Sc.out.bel kb)
  clear kb ko C13 Hoa Hra Hrb Ks Si Sb Sc
  clear KT
  clear HEq HLaq
  have KT := Lib.hid (Bel.refl w13)
  obtain ⟨E, hEq⟩ : ∃ x, puE l v cl until_ = x := ⟨_, rfl⟩
  have HEq := Lib.hid hEq
  clear hEq
  obtain ⟨La, hLaq⟩ : ∃ x, upd l v E (puF cl until_) = x := ⟨_, rfl⟩
  have HLaq := Lib.hid hLaq
  clear hLaq
  have Ks := K13
  have Si := Hi
  have Sb := Hb
  have Sc := Hc
  have C14 := Lib.hid (punish_c Ac n cc l v cl until_ w13 Hc.out E La HEq.out HLaq.out (by have := HN.out; omega) HO.out)
  go_wp2_with fail
  refine C14.out.mono ?_
  rintro x w14 ⟨va, rfl, ha, kb⟩
  have KT := Lib.hid (KT.out.trans kb)
  have K14 := Lib.hid (K13.out.trans kb)
  have Hi := Lib.hid (Hi.out.bel kb)
  have Hb := Lib.hid (Hb.out.bel kb)
  have Hc := Lib.hid (Hc.out.bel kb)
  clear C14
  have Hoa := Lib.hid ha
  obtain ⟨Aa, ca, rfl, hra⟩ := Rw.OwnR.slice ha
  have Hra := Lib.hid hra
  clear ha hra
  have C15 := Lib.hid (punishR_c A n c l v cl until_ w14 Hi.out E La HEq.out HLaq.out (by have := HN.out; omega))
  go_wp2_with fail
  refine C15.out.mono ?_
  rintro x w15 ⟨vb, rfl, hb, kb⟩
  have KT := Lib.hid (KT.out.trans kb)
  have K15 := Lib.hid (K14.out.trans kb)
  have Hi := Lib.hid (Hi.out.bel kb)
  have Hb := Lib.hid (Hb.out.bel kb)
  have Hc := Lib.hid (Hc.out.bel kb)
  have Hoa := Lib.hid (Hoa.out.bel kb)
  have Hra := Lib.hid (Hra.out.bel kb)
  clear C15
  obtain ⟨Ab, cb, rfl, hrb⟩ := Rw.OwnR.slice hb
  have Hrb := Lib.hid hrb
  clear hb hrb
  have C16 := Lib.hid ((show Calls Try.prog 13 #[.slice Aa La.length ca, .slice Ab La.length cb] w15 fun e w' => e = .returned (.bool true) ∧ Bel w15 w' by have h := same_validators Aa Ab La.length ca La.length cb La La w15 Hra.out Hrb.out (by have := (show La.length ≤ 41 by rw [← HLaq.out]; have := upd_le l v E (puF cl until_); have := HLN.out; have := HN.out; omega); omega) (by have := (show La.length ≤ 41 by rw [← HLaq.out]; have := upd_le l v E (puF cl until_); have := HLN.out; have := HN.out; omega); omega); rwa [decide_eq_true (rfl : La = La)] at h))
  go_wp2_with fail
  refine C16.out.mono ?_
  rintro x w16 ⟨rfl, kb⟩
  have KT := Lib.hid (KT.out.trans kb)
  have K16 := Lib.hid (K15.out.trans kb)
  have Hi := Lib.hid (Hi.out.bel kb)
  have Hb := Lib.hid (Hb.out.bel kb)
  have Hc := Lib.hid (Hc.out.bel kb)
  have Hoa := Lib.hid (Hoa.out.bel kb)
  have Hra := Lib.hid (Hra.out.bel kb)
  have Hrb := Lib.hid (Hrb.out.bel kb)
  clear C16
  have C17 := Lib.hid (over_any Aa La.length ca w16 (lay_own Hoa.out) (by have := (show La.length ≤ 41 by rw [← HLaq.out]; have := upd_le l v E (puF cl until_); have := HLN.out; have := HN.out; omega); omega))
  go_wp2_with fail
  refine C17.out.mono ?_
  rintro x w17 ⟨rfl, ko⟩
  have kb := ov_bel Hoa.out (KT.out) (Nat.le_refl _) ko
  have K17 := Lib.hid (Ks.out.trans kb)
  have Hi := Lib.hid (Si.out.bel kb)
  have Hb := Lib.hid (Sb.out.bel kb)
  have Hc := Lib.hid (Sc.out.bel kb)
  clear kb ko C17 Hoa Hra Hrb Ks Si Sb Sc
  clear KT
  clear HEq HLaq
  obtain ⟨r, hrq⟩ : ∃ x, pdE l v cl = x := ⟨_, rfl⟩
  have Hrq := Lib.hid hrq
  clear hrq
  have C18 := Lib.hid ((show Calls Try.prog 36 #[.slice Ac n cc, .int .i64 v, .int .i64 cl] w17 fun e w' => e = .returned (.int .i64 r) ∧ Bel w17 w' by rw [← Hrq.out]; exact punished Ac n cc l v cl w17 Hc.out (by have := HN.out; omega) HO.out))
  go_wp2_with fail
  refine C18.out.mono ?_
  rintro x w18 ⟨rfl, kb⟩
  have K18 := Lib.hid (K17.out.trans kb)
  have Hi := Lib.hid (Hi.out.bel kb)
  have Hb := Lib.hid (Hb.out.bel kb)
  have Hc := Lib.hid (Hc.out.bel kb)
  clear C18
  have C19 := Lib.hid ((show Calls Try.prog 37 #[.slice A n c, .int .i64 v, .int .i64 cl] w18 fun e w' => e = .returned (.int .i64 r) ∧ Bel w18 w' by rw [← Hrq.out]; exact punishedR A n c l v cl w18 Hi.out (by have := HN.out; omega)))
  go_wp2_with fail
  refine C19.out.mono ?_
  rintro x w19 ⟨rfl, kb⟩
  have K19 := Lib.hid (K18.out.trans kb)
  have Hi := Lib.hid (Hi.out.bel kb)
  have Hb := Lib.hid (Hb.out.bel kb)
  have Hc := Lib.hid (Hc.out.bel kb)
  clear C19
  have C20 := Lib.hid ((show Calls Try.prog 13 #[.slice Ac n cc, .slice A n c] w19 fun e w' => e = .returned (.bool true) ∧ Bel w19 w' by have h := same_validators Ac A n cc n c l l w19 Hc.out Hi.out (by have := HN.out; omega) (by have := HN.out; omega); rwa [decide_eq_true (rfl : l = l)] at h))
  go_wp2_with fail
  refine C20.out.mono ?_
  rintro x w20 ⟨rfl, kb⟩
  have K20 := Lib.hid (K19.out.trans kb)
  have Hi := Lib.hid (Hi.out.bel kb)
  have Hb := Lib.hid (Hb.out.bel kb)
  have Hc := Lib.hid (Hc.out.bel kb)
  clear C20
  have C21 := Lib.hid (awake w20)
  go_wp2_with fail
  refine C21.out.mono ?_
  rintro x w21 ⟨rfl, kb⟩
  have K21 := Lib.hid (K20.out.trans kb)
  have Hi := Lib.hid (Hi.out.bel kb)
  have Hb := Lib.hid (Hb.out.bel kb)
  have Hc := Lib.hid (Hc.out.bel kb)
  clear C21
  go_wp2_with fail
  go_ret
  exact ⟨rfl, K21.out⟩
theorem turnsLawW (A : Option Addr) (n c : Nat) (B : Option Addr) (m d : Nat) (v until_ by_ h_ cl : Int) (w : World) (hn : n ≤ 9223372036854775807) (hi : Vals w A n c) (hm : m ≤ 9223372036854775807) (hb : Bools w B m d)
    (a0 : -9223372036854775808 ≤ v) (a1 : v ≤ 9223372036854775807) (b0 : -9223372036854775808 ≤ until_) (b1 : until_ ≤ 9223372036854775807) (c0 : -9223372036854775808 ≤ by_) (c1 : by_ ≤ 9223372036854775807) (d0 : -9223372036854775808 ≤ h_) (d1 : h_ ≤ 9223372036854775807) (e0 : -9223372036854775808 ≤ cl) (e1 : cl ≤ 9223372036854775807) :
    Calls Try.prog 4 #[.slice A n c, .slice B m d, .int .i64 v, .int .i64 until_, .int .i64 by_, .int .i64 h_, .int .i64 cl] w fun e w' => e = .returned (.bool true) ∧ Bel w w' := by
  obtain ⟨l, h1, h2⟩ := vals_rs hi
  obtain ⟨bs, h3⟩ := bools_rs hb
  exact turnsLaw A n c l B m d bs v until_ by_ h_ cl w h1 h2 h3
end Ro
end Go.Proofs.Ytpfdakkameifkaa
end
