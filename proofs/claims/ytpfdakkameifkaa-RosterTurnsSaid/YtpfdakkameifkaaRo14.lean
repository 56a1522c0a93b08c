/-
  What the reference's Punished, Punish and Choose answer of any list. Conditions: at most a million validators and bools.
-/
import Derived.Test.YtpfdakkameifkaaRo13
namespace Go.Proofs.Ytpfdakkameifkaa
open Go.RowKit Go.Shelf
set_option linter.unusedVariables false
set_option linter.unusedSimpArgs false
namespace Ro
open Kk Pm

set_option maxRecDepth 100000 in
set_option maxHeartbeats 4000000 in
theorem punishedR (A : Option Addr) (n c : Nat) (l : List V6) (v cl : Int) (w : World) (hi : Rw.RS vR w A n c l) (hn : n ≤ 1000000) :
    Calls Try.prog 37 #[.slice A n c, .int .i64 v, .int .i64 cl] w fun x w' => x = .returned (.int .i64 (pdE l v cl)) ∧ Bel w w' := by
  have HI := Lib.hid hi
  have HLN := Lib.hid hi.len
  have CK := Lib.hid (checkR A n c l w hi (by omega))
  have RE := Lib.hid (fun V (hv : Bel w V) => refuseR A n c l v V (hi.bel hv) (by omega))
  obtain ⟨e1, he1⟩ : ∃ e, (chk l).1 = e := ⟨_, rfl⟩
  obtain ⟨e2, he2⟩ : ∃ e, (chk l).2 = e := ⟨_, rfl⟩
  obtain ⟨e3, he3⟩ : ∃ e, reE l v = e := ⟨_, rfl⟩
  obtain ⟨E, hE⟩ : ∃ E, pdE l v cl = E := ⟨_, rfl⟩
  have H1 := Lib.hid he1
  have HE := Lib.hid hE
  rw [pdE_def, he1, he3] at HE
  rw [he1, he2] at CK
  rw [he3] at RE
  rw [hE]
  have H3 := Lib.hid he3
  clear hi he1 he2 he3 hE
  go_enter Try.func37, Try.ntmps37
  go_wp2_with fail
  refine CK.out.mono ?_
  rintro x w1 ⟨rfl, kb⟩
  have K1 := Lib.hid kb
  clear kb CK
  by_cases h0 : e1 = 0
  case neg =>
    have hne : (e1 != 0) = true := by rw [bne_iff_ne]; exact h0
    obtain rfl : e1 = E := by have := HE.out; rwa [if_pos h0] at this
    go_wp2_with fail
    go_ret
    exact ⟨rfl, K1.out⟩
  subst h0
  by_cases h1 : cl = 1 ∨ cl = 2
  case neg =>
    obtain rfl : E = 2 := by have := HE.out; rw [if_neg (by decide), if_pos h1] at this; exact this.symm
    have q1 : (cl != 1) = true := by rw [bne_iff_ne]; omega
    have q2 : (cl != 2) = true := by rw [bne_iff_ne]; omega
    clear h1
    go_wp2_with fail
    go_ret
    exact ⟨rfl, K1.out⟩
  have HE2 := Lib.hid (show (if e3 ≠ 0 then e3 else (nth l v).elim 10 (fun r => if cl = 2 ∧ pro r = true then 19 else 0)) = E by have := HE.out; rwa [if_neg (by decide), if_neg (fun h => h h1)] at this)
  clear HE
  have RE := Lib.hid (RE.out w1 K1.out)
  rcases h1 with rfl | rfl
  · by_cases h3 : e3 = 0
    case neg =>
      have hne : (e3 != 0) = true := by rw [bne_iff_ne]; exact h3
      obtain rfl : e3 = E := by have := HE2.out; rwa [if_pos h3] at this
      go_wp2_with fail
      refine RE.out.mono ?_
      rintro x w2 ⟨rfl, kb⟩
      have K2 := Lib.hid (K1.out.trans kb)
      clear kb RE
      go_wp2_with fail
      go_ret
      exact ⟨rfl, K2.out⟩
    subst h3
    obtain ⟨k, rfl, ⟨r1, r2, r3, r4, r5, r6⟩, hr, h4⟩ := re_at H3.out
    have hlt : k < n := by have := (List.getElem?_eq_some_iff.1 hr).1; have := HLN.out; omega
    have hlt3 : (k : Int) < n := by omega
    have HGD := gd_at H1.out hr
    have HE3 := Lib.hid (show (if (1 : Int) = 2 ∧ r6 = true then (19 : Int) else 0) = E by have := HE2.out; rw [if_neg (by decide), nth_some hr] at this; exact this)
    clear HE2
    go_wp2_with fail
    refine RE.out.mono ?_
    rintro x w2 ⟨rfl, kb⟩
    have K2 := Lib.hid (K1.out.trans kb)
    clear kb RE
    obtain ⟨b, q, rfl, hb, hrow⟩ := (HI.out.bel K2.out).at hlt hr
    obtain ⟨c0, c1, c2, c3, c4, c5⟩ := rng6 (show w2.rangeAt b (q + k * 6) [.int .i64 r1, .int .u64 r2, .int .i64 r3, .int .i64 r4, .bool r5, .bool r6] from hrow)
    obtain rfl : false = r5 := by
      cases r5
      · rfl
      · exact absurd (HGD.2.2.2.2.2.2.2.1.2 rfl) h4
    obtain rfl : E = 0 := by have := HE3.out; rw [if_neg (fun h => by cases h.1)] at this; exact this.symm
    clear hr hrow H3 HGD h4 c0 c1 c2 c3 c5
    go_wp2_with fail
    go_ret
    exact ⟨rfl, K2.out⟩
  · by_cases h3 : e3 = 0
    case neg =>
      have hne : (e3 != 0) = true := by rw [bne_iff_ne]; exact h3
      obtain rfl : e3 = E := by have := HE2.out; rwa [if_pos h3] at this
      go_wp2_with fail
      refine RE.out.mono ?_
      rintro x w2 ⟨rfl, kb⟩
      have K2 := Lib.hid (K1.out.trans kb)
      clear kb RE
      go_wp2_with fail
      go_ret
      exact ⟨rfl, K2.out⟩
    subst h3
    obtain ⟨k, rfl, ⟨r1, r2, r3, r4, r5, r6⟩, hr, h4⟩ := re_at H3.out
    have hlt : k < n := by have := (List.getElem?_eq_some_iff.1 hr).1; have := HLN.out; omega
    have hlt3 : (k : Int) < n := by omega
    have HGD := gd_at H1.out hr
    have HE3 := Lib.hid (show (if (2 : Int) = 2 ∧ r6 = true then (19 : Int) else 0) = E by have := HE2.out; rw [if_neg (by decide), nth_some hr] at this; exact this)
    clear HE2
    go_wp2_with fail
    refine RE.out.mono ?_
    rintro x w2 ⟨rfl, kb⟩
    have K2 := Lib.hid (K1.out.trans kb)
    clear kb RE
    obtain ⟨b, q, rfl, hb, hrow⟩ := (HI.out.bel K2.out).at hlt hr
    obtain ⟨c0, c1, c2, c3, c4, c5⟩ := rng6 (show w2.rangeAt b (q + k * 6) [.int .i64 r1, .int .u64 r2, .int .i64 r3, .int .i64 r4, .bool r5, .bool r6] from hrow)
    clear hr hrow H3 HGD h4 c0 c1 c2 c3 c4
    cases r6 with
    | true =>
      obtain rfl : E = 19 := by have := HE3.out; rw [if_pos (by simp)] at this; exact this.symm
      go_wp2_with fail
      go_ret
      exact ⟨rfl, K2.out⟩
    | false =>
      obtain rfl : E = 0 := by have := HE3.out; rw [if_neg (fun h => by cases h.2)] at this; exact this.symm
      go_wp2_with fail
      go_ret
      exact ⟨rfl, K2.out⟩
set_option maxRecDepth 100000 in
set_option maxHeartbeats 8000000 in
theorem punishR (A : Option Addr) (n c : Nat) (l : List V6) (v cl tl : Int) (w : World) (hi : Rw.RS vR w A n c l) (hn : n ≤ 1000000) :
    Calls Try.prog 35 #[.slice A n c, .int .i64 v, .int .i64 cl, .int .i64 tl] w fun x w' => CgR w w' l v (puE l v cl tl) (puF cl tl) x := by
  have HI := Lib.hid hi
  have HLN := Lib.hid hi.len
  have PD := Lib.hid (punishedR A n c l v cl w hi hn)
  have CP := Lib.hid (fun V (hv : Bel w V) => copy A n c l V (hi.bel hv) (by omega))
  have HK := Lib.hid (@pdE_ok l v cl)
  obtain ⟨D, hD⟩ : ∃ D, pdE l v cl = D := ⟨_, rfl⟩
  obtain ⟨E, hE⟩ : ∃ E, puE l v cl tl = E := ⟨_, rfl⟩
  have HE := Lib.hid (show (if D ≠ 0 then D else if untB tl = false then 3 else 0) = E by rw [← hE, ← hD]; rfl)
  rw [hD] at PD HK
  rw [hE]
  clear hi hE hD
  go_enter Try.func35, Try.ntmps35
  go_wp2_with fail
  refine PD.out.mono ?_
  rintro x w2 ⟨rfl, kb⟩
  have K2 := Lib.hid kb
  clear kb PD
  by_cases h0 : D = 0
  case neg =>
    have hne : (D != 0) = true := by rw [bne_iff_ne]; exact h0
    obtain rfl : D = E := by have := HE.out; rwa [if_pos h0] at this
    go_wp2_with fail
    go_ret2
    exact cgR_no K2.out h0
  subst h0
  have HE2 := Lib.hid (show (if untB tl = false then (3 : Int) else 0) = E by have := HE.out; rwa [if_neg (by decide)] at this)
  clear HE
  have IU := untilR tl w2
  cases hu : untB tl
  · rw [hu] at IU HE2
    obtain rfl : 3 = E := HE2.out
    clear hu
    go_wp2_with fail
    refine IU.mono ?_
    rintro x wz ⟨rfl, rfl⟩
    go_wp2_with fail
    go_ret2
    exact cgR_no K2.out (by decide)
  rw [hu] at IU HE2
  obtain rfl : 0 = E := HE2.out
  clear hu
  have hnn := (HK.out rfl).2
  obtain ⟨k, rfl, r, hr⟩ : ∃ k : Nat, v = k ∧ ∃ r, l[k]? = some r := by
    by_cases hb : v < 0 ∨ (l.length : Int) ≤ v
    · exact absurd (nth_none hb) hnn
    · obtain ⟨k, rfl⟩ : ∃ k : Nat, v = k := ⟨v.toNat, by omega⟩
      exact ⟨k, rfl, _, List.getElem?_eq_getElem (show k < l.length by omega)⟩
  obtain ⟨r1, r2, r3, r4, r5, r6⟩ := r
  have HR := Lib.hid hr
  have hlt : k < n := by have := (List.getElem?_eq_some_iff.1 hr).1; have := HLN.out; omega
  have hlt3 : (k : Int) < n := by omega
  clear hr hnn HK
  go_wp2_with fail
  refine IU.mono ?_
  rintro x wz ⟨rfl, rfl⟩
  clear IU
  have CP := Lib.hid (CP.out w2 K2.out)
  go_wp2_with fail
  refine CP.out.mono ?_
  rintro x wc ⟨vc, rfl, ho, kb⟩
  obtain ⟨g, cap, rfl, hg, hrb, hcm⟩ := Rw.rb_own vR ho (by rw [HLN.out]; omega)
  rw [HLN.out]
  have KC := Lib.hid (K2.out.trans kb)
  have HG := Lib.hid (Nat.le_trans (Below.size K2.out) hg)
  have HCM := Lib.hid hcm
  obtain ⟨c0, c1, c2, c3, c4, c5⟩ := rb_cells hrb HR.out
  have HKL := Lib.hid (List.getElem?_eq_some_iff.1 HR.out).1
  have f2 := hrb.frozen (k * 6 + 2)
  have f3 := hrb.frozen (k * 6 + 3)
  have f4 := hrb.frozen (k * 6 + 4)
  have f5 := hrb.frozen (k * 6 + 5)
  obtain ⟨M, hM⟩ : ∃ M, (if r4 < tl then tl else r4) = M := ⟨_, rfl⟩
  have HMX := Lib.hid (show max r4 tl = M by rw [← hM]; split <;> omega)
  have S1 : Rw.RB vR 66 (wc.setCell ⟨g, k * 6 + 3, none⟩ (.int .i64 M)) g (l.set k (r1, r2, r3, M, r5, r6)) cap := hrb.set (o := 3) (by decide) HR.out rfl
  obtain ⟨W1, hW1⟩ : ∃ W, wc.setCell ⟨g, k * 6 + 3, none⟩ (.int .i64 M) = W := ⟨_, rfl⟩
  rw [hW1] at S1
  obtain ⟨_, _, d2, _, d4, d5⟩ := rb_cells S1 (List.getElem?_set_self HKL.out)
  have e2 := S1.frozen (k * 6 + 2)
  have B1 := Lib.hid (show Bel w W1 by rw [← hW1]; exact KC.out.set HG.out _)
  have S2 : Rw.RB vR 66 (W1.setCell ⟨g, k * 6 + 2, none⟩ (.int .i64 3)) g ((l.set k (r1, r2, r3, M, r5, r6)).set k (r1, r2, 3, M, r5, r6)) cap := S1.set (o := 2) (r := (r1, r2, r3, M, r5, r6)) (by decide) (List.getElem?_set_self HKL.out) rfl
  rw [List.set_set] at S2
  obtain ⟨W2, hW2⟩ : ∃ W, W1.setCell ⟨g, k * 6 + 2, none⟩ (.int .i64 3) = W := ⟨_, rfl⟩
  rw [hW2] at S2
  have B2 := Lib.hid (show Bel w W2 by rw [← hW2]; exact B1.out.set HG.out _)
  have S4 : Rw.RB vR 66 (W2.setCell ⟨g, k * 6 + 4, none⟩ (.bool true)) g ((l.set k (r1, r2, 3, M, r5, r6)).set k (r1, r2, 3, M, true, r6)) cap := S2.set (o := 4) (r := (r1, r2, 3, M, r5, r6)) (by decide) (List.getElem?_set_self HKL.out) rfl
  rw [List.set_set] at S4
  have S5 : Rw.RB vR 66 (W2.setCell ⟨g, k * 6 + 5, none⟩ (.bool true)) g ((l.set k (r1, r2, 3, M, r5, r6)).set k (r1, r2, 3, M, r5, true)) cap := S2.set (o := 5) (r := (r1, r2, 3, M, r5, r6)) (by decide) (List.getElem?_set_self HKL.out) rfl
  rw [List.set_set] at S5
  have S6 : Rw.RB vR 66 ((W2.setCell ⟨g, k * 6 + 4, none⟩ (.bool true)).setCell ⟨g, k * 6 + 2, none⟩ (.int .i64 4)) g ((l.set k (r1, r2, 3, M, true, r6)).set k (r1, r2, 4, M, true, r6)) cap := S4.set (o := 2) (r := (r1, r2, 3, M, true, r6)) (by decide) (List.getElem?_set_self HKL.out) rfl
  rw [List.set_set] at S6
  obtain ⟨_, _, _, _, g4, g5⟩ := rb_cells S2 (List.getElem?_set_self HKL.out)
  obtain ⟨_, _, k2, _, _, _⟩ := rb_cells S4 (List.getElem?_set_self HKL.out)
  have e4 := S2.frozen (k * 6 + 4)
  have e5 := S2.frozen (k * 6 + 5)
  have e6 := S4.frozen (k * 6 + 2)
  have HS5 := Lib.hid S5
  have HS6 := Lib.hid S6
  have HM := Lib.hid hM
  have HW1 := Lib.hid hW1
  have HW2 := Lib.hid hW2
  have FIN : ∀ (W : World) (x : V6), Rw.RB vR 66 W g (l.set k x) cap → Bel w W → puF cl tl (r1, r2, r3, r4, r5, r6) = x → CgR w W l k 0 (puF cl tl) (.returned (.tuple #[.slice (some ⟨g, 0, none⟩) n cap, .int .i64 0])) := fun W x h hb hx => by
    refine ⟨_, rfl, ?_, hb⟩
    rw [upd_at HR.out, hx]
    have := own_rb h HG.out HCM.out
    rw [List.length_set, HLN.out] at this
    exact this
  have FIN := Lib.hid FIN
  clear S1 S2 S4 S5 S6 hW1 hW2 hM hg hrb hcm ho kb c0 c1 c2 c4 c5 CP f2 f4 f5
  go_upto_region 8 with fail
  rw [HM.out, HW1.out]
  by_cases h1 : cl = 1
  · subst h1
    have HP := Lib.hid (FIN.out _ _ HS6.out ((B2.out.set (p := ⟨g, k * 6 + 4, none⟩) HG.out _).set HG.out _) (by show (if (1 : Int) = 1 then (r1, r2, 4, max r4 tl, true, r6) else (r1, r2, 3, max r4 tl, r5, true)) = (r1, r2, 4, M, true, r6); rw [if_pos rfl, HMX.out]))
    go_upto_region 9 with fail
    rw [HW2.out]
    go_wp2_with fail
    go_ret2
    exact HP.out
  · have e1 : (cl == 1) = false := beq_eq_false_iff_ne.2 h1
    have HP := Lib.hid (FIN.out _ _ HS5.out (B2.out.set HG.out _) (by show (if cl = 1 then (r1, r2, 4, max r4 tl, true, r6) else (r1, r2, 3, max r4 tl, r5, true)) = (r1, r2, 3, M, r5, true); rw [if_neg h1, HMX.out]))
    clear h1
    go_upto_region 9 with fail
    rw [HW2.out]
    go_wp2_with fail
    go_ret2
    exact HP.out
end Ro
end Go.Proofs.Ytpfdakkameifkaa
