/-
  Texts of this claim, put together: Ro14, Ro15, RoIn. What each one says, and under which conditions, stands ahead of it.
-/
import Derived.Test.YtpfdakkameifkaaRE

section
/-
  What the reference's Punished, Punish and Choose answer of any list. Conditions: at most a million validators and bools.
-/
namespace Go.Proofs.Ytpfdakkameifkaa
open Go.RowKit Go.Shelf
set_option linter.unusedVariables false
set_option linter.unusedSimpArgs false
namespace Ro
open Kk Pm

set_option maxRecDepth 100000 in
set_option maxHeartbeats 4000000 in
theorem punishedR (A : Option Addr) (n c : Nat) (l : List V6) (v cl : Int) (w : World) (hi : Rw.RS vR w A n c l) (hn : n ≤ 1000000) :
    Calls Try.prog 37 #[.slice A n c, .int .i64 v, .int .i64 cl] w fun x w' => x = .returned (.int .i64 (pdE l v cl)) ∧ Bel w w' := by
  have HI := Lib.hid hi
  have HLN := Lib.hid hi.len
  have CK := Lib.hid (checkR A n c l w hi (by omega))
  have RE := Lib.hid (fun V (hv : Bel w V) => refuseR A n c l v V (hi.bel hv) (by omega))
  obtain ⟨e1, he1⟩ : ∃ e, (chk l).1 = e := ⟨_, rfl⟩
  obtain ⟨e2, he2⟩ : ∃ e, (chk l).2 = e := ⟨_, rfl⟩
  obtain ⟨e3, he3⟩ : ∃ e, reE l v = e := ⟨_, rfl⟩
  obtain ⟨E, hE⟩ : ∃ E, pdE l v cl = E := ⟨_, rfl⟩
  have H1 := Lib.hid he1
  have HE := Lib.hid hE
  rw [pdE_def, he1, he3] at HE
  rw [he1, he2] at CK
  rw [he3] at RE
  rw [hE]
  have H3 := Lib.hid he3
  clear hi he1 he2 he3 hE
  go_enter Try.func37, Try.ntmps37
  go_wp2_with fail
  refine CK.out.mono ?_
  rintro x w1 ⟨rfl, kb⟩
  have K1 := Lib.hid kb
  clear kb CK
  by_cases h0 : e1 = 0
  case neg =>
    have hne : (e1 != 0) = true := by rw [bne_iff_ne]; exact h0
    obtain rfl : e1 = E := by have := HE.out; rwa [if_pos h0] at this
    go_wp2_with fail
    go_ret
    exact ⟨rfl, K1.out⟩
  subst h0
  by_cases h1 : cl = 1 ∨ cl = 2
  case neg =>
    obtain rfl : E = 2 := by have := HE.out; rw [if_neg (by decide), if_pos h1] at this; exact this.symm
    have q1 : (cl != 1) = true := by rw [bne_iff_ne]; omega
    have q2 : (cl != 2) = true := by rw [bne_iff_ne]; omega
    clear h1
    go_wp2_with fail
    go_ret
    exact ⟨rfl, K1.out⟩
  have HE2 := Lib.hid (show (if e3 ≠ 0 then e3 else (nth l v).elim 10 (fun r => if cl = 2 ∧ pro r = true then 19 else 0)) = E by have := HE.out; rwa [if_neg (by decide), if_neg (fun h => h h1)] at this)
  clear HE
  have RE := Lib.hid (RE.out w1 K1.out)
  rcases h1 with rfl | rfl
  · by_cases h3 : e3 = 0
    case neg =>
      have hne : (e3 != 0) = true := by rw [bne_iff_ne]; exact h3
      obtain rfl : e3 = E := by have := HE2.out; rwa [if_pos h3] at this
      go_wp2_with fail
      refine RE.out.mono ?_
      rintro x w2 ⟨rfl, kb⟩
      have K2 := Lib.hid (K1.out.trans kb)
      clear kb RE
      go_wp2_with fail
      go_ret
      exact ⟨rfl, K2.out⟩
    subst h3
    obtain ⟨k, rfl, ⟨r1, r2, r3, r4, r5, r6⟩, hr, h4⟩ := re_at H3.out
    have hlt : k < n := by have := (List.getElem?_eq_some_iff.1 hr).1; have := HLN.out; omega
    have hlt3 : (k : Int) < n := by omega
    have HGD := gd_at H1.out hr
    have HE3 := Lib.hid (show (if (1 : Int) = 2 ∧ r6 = true then (19 : Int) else 0) = E by have := HE2.out; rw [if_neg (by decide), nth_some hr] at this; exact this)
    clear HE2
    go_wp2_with fail
    refine RE.out.mono ?_
    rintro x w2 ⟨rfl, kb⟩
    have K2 := Lib.hid (K1.out.trans kb)
    clear kb RE
    obtain ⟨b, q, rfl, hb, hrow⟩ := (HI.out.bel K2.out).at hlt hr
    obtain ⟨c0, c1, c2, c3, c4, c5⟩ := rng6 (show w2.rangeAt b (q + k * 6) [.int .i64 r1, .int .u64 r2, .int .i64 r3, .int .i64 r4, .bool r5, .bool r6] from hrow)
    obtain rfl : false = r5 := by
      cases r5
      · rfl
      · exact absurd (HGD.2.2.2.2.2.2.2.1.2 rfl) h4
    obtain rfl : E = 0 := by have := HE3.out; rw [if_neg (fun h => by cases h.1)] at this; exact this.symm
    clear hr hrow H3 HGD h4 c0 c1 c2 c3 c5
    go_wp2_with fail
    go_ret
    exact ⟨rfl, K2.out⟩
  · by_cases h3 : e3 = 0
    case neg =>
      have hne : (e3 != 0) = true := by rw [bne_iff_ne]; exact h3
      obtain rfl : e3 = E := by have := HE2.out; rwa [if_pos h3] at this
      go_wp2_with fail
      refine RE.out.mono ?_
      rintro x w2 ⟨rfl, kb⟩
      have K2 := Lib.hid (K1.out.trans kb)
      clear kb RE
      go_wp2_with fail
      go_ret
      exact ⟨rfl, K2.out⟩
    subst h3
    obtain ⟨k, rfl, ⟨r1, r2, r3, r4, r5, r6⟩, hr, h4⟩ := re_at H3.out
    have hlt : k < n := by have := (List.getElem?_eq_some_iff.1 hr).1; have := HLN.out; omega
    have hlt3 : (k : Int) < n := by omega
    have HGD := gd_at H1.out hr
    have HE3 := Lib.hid (show (if (2 : Int) = 2 ∧ r6 = true then (19 : Int) else 0) = E by have := HE2.out; rw [if_neg (by decide), nth_some hr] at this; exact this)
    clear HE2
    go_wp2_with fail
    refine RE.out.mono ?_
    rintro x w2 ⟨rfl, kb⟩
    have K2 := Lib.hid (K1.out.trans kb)
    clear kb RE
    obtain ⟨b, q, rfl, hb, hrow⟩ := (HI.out.bel K2.out).at hlt hr
    obtain ⟨c0, c1, c2, c3, c4, c5⟩ := rng6 (show w2.rangeAt b (q + k * 6) [.int .i64 r1, .int .u64 r2, .int .i64 r3, .int .i64 r4, .bool r5, .bool r6] from hrow)
    clear hr hrow H3 HGD h4 c0 c1 c2 c3 c4
    cases r6 with
    | true =>
      obtain rfl : E = 19 := by have := HE3.out; rw [if_pos (by simp)] at this; exact this.symm
      go_wp2_with fail
      go_ret
      exact ⟨rfl, K2.out⟩
    | false =>
      obtain rfl : E = 0 := by have := HE3.out; rw [if_neg (fun h => by cases h.2)] at this; exact this.symm
      go_wp2_with fail
      go_ret
      exact ⟨rfl, K2.out⟩
set_option maxRecDepth 100000 in
set_option maxHeartbeats 8000000 in
theorem punishR (A : Option Addr) (n c : Nat) (l : List V6) (v cl tl : Int) (w : World) (hi : Rw.RS vR w A n c l) (hn : n ≤ 1000000) :
    Calls Try.prog 35 #[.slice A n c, .int .i64 v, .int .i64 cl, .int .i64 tl] w fun x w' => CgR w w' l v (puE l v cl tl) (puF cl tl) x := by
  have HI := Lib.hid hi
  have HLN := Lib.hid hi.len
  have PD := Lib.hid (punishedR A n c l v cl w hi hn)
  have CP := Lib.hid (fun V (hv : Bel w V) => copy A n c l V (hi.bel hv) (by omega))
  have HK := Lib.hid (@pdE_ok l v cl)
  obtain ⟨D, hD⟩ : ∃ D, pdE l v cl = D := ⟨_, rfl⟩
  obtain ⟨E, hE⟩ : ∃ E, puE l v cl tl = E := ⟨_, rfl⟩
  have HE := Lib.hid (show (if D ≠ 0 then D else if untB tl = false then 3 else 0) = E by rw [← hE, ← hD]; rfl)
  rw [hD] at PD HK
  rw [hE]
  clear hi hE hD
  go_enter Try.func35, Try.ntmps35
  go_wp2_with fail
  refine PD.out.mono ?_
  rintro x w2 ⟨rfl, kb⟩
  have K2 := Lib.hid kb
  clear kb PD
  by_cases h0 : D = 0
  case neg =>
    have hne : (D != 0) = true := by rw [bne_iff_ne]; exact h0
    obtain rfl : D = E := by have := HE.out; rwa [if_pos h0] at this
    go_wp2_with fail
    go_ret2
    exact cgR_no K2.out h0
  subst h0
  have HE2 := Lib.hid (show (if untB tl = false then (3 : Int) else 0) = E by have := HE.out; rwa [if_neg (by decide)] at this)
  clear HE
  have IU := untilR tl w2
  cases hu : untB tl
  · rw [hu] at IU HE2
    obtain rfl : 3 = E := HE2.out
    clear hu
    go_wp2_with fail
    refine IU.mono ?_
    rintro x wz ⟨rfl, rfl⟩
    go_wp2_with fail
    go_ret2
    exact cgR_no K2.out (by decide)
  rw [hu] at IU HE2
  obtain rfl : 0 = E := HE2.out
  clear hu
  have hnn := (HK.out rfl).2
  obtain ⟨k, rfl, r, hr⟩ : ∃ k : Nat, v = k ∧ ∃ r, l[k]? = some r := by
    by_cases hb : v < 0 ∨ (l.length : Int) ≤ v
    · exact absurd (nth_none hb) hnn
    · obtain ⟨k, rfl⟩ : ∃ k : Nat, v = k := ⟨v.toNat, by omega⟩
      exact ⟨k, rfl, _, List.getElem?_eq_getElem (show k < l.length by omega)⟩
  obtain ⟨r1, r2, r3, r4, r5, r6⟩ := r
  have HR := Lib.hid hr
  have hlt : k < n := by have := (List.getElem?_eq_some_iff.1 hr).1; have := HLN.out; omega
  have hlt3 : (k : Int) < n := by omega
  clear hr hnn HK
  go_wp2_with fail
  refine IU.mono ?_
  rintro x wz ⟨rfl, rfl⟩
  clear IU
  have CP := Lib.hid (CP.out w2 K2.out)
  go_wp2_with fail
  refine CP.out.mono ?_
  rintro x wc ⟨vc, rfl, ho, kb⟩
  obtain ⟨g, cap, rfl, hg, hrb, hcm⟩ := Rw.rb_own vR ho (by rw [HLN.out]; omega)
  rw [HLN.out]
  have KC := Lib.hid (K2.out.trans kb)
  have HG := Lib.hid (Nat.le_trans (Below.size K2.out) hg)
  have HCM := Lib.hid hcm
  obtain ⟨c0, c1, c2, c3, c4, c5⟩ := rb_cells hrb HR.out
  have HKL := Lib.hid (List.getElem?_eq_some_iff.1 HR.out).1
  have f2 := hrb.frozen (k * 6 + 2)
  have f3 := hrb.frozen (k * 6 + 3)
  have f4 := hrb.frozen (k * 6 + 4)
  have f5 := hrb.frozen (k * 6 + 5)
  obtain ⟨M, hM⟩ : ∃ M, (if r4 < tl then tl else r4) = M := ⟨_, rfl⟩
  have HMX := Lib.hid (show max r4 tl = M by rw [← hM]; split <;> omega)
  have S1 : Rw.RB vR 66 (wc.setCell ⟨g, k * 6 + 3, none⟩ (.int .i64 M)) g (l.set k (r1, r2, r3, M, r5, r6)) cap := hrb.set (o := 3) (by decide) HR.out rfl
  obtain ⟨W1, hW1⟩ : ∃ W, wc.setCell ⟨g, k * 6 + 3, none⟩ (.int .i64 M) = W := ⟨_, rfl⟩
  rw [hW1] at S1
  obtain ⟨_, _, d2, _, d4, d5⟩ := rb_cells S1 (List.getElem?_set_self HKL.out)
  have e2 := S1.frozen (k * 6 + 2)
  have B1 := Lib.hid (show Bel w W1 by rw [← hW1]; exact KC.out.set HG.out _)
  have S2 : Rw.RB vR 66 (W1.setCell ⟨g, k * 6 + 2, none⟩ (.int .i64 3)) g ((l.set k (r1, r2, r3, M, r5, r6)).set k (r1, r2, 3, M, r5, r6)) cap := S1.set (o := 2) (r := (r1, r2, r3, M, r5, r6)) (by decide) (List.getElem?_set_self HKL.out) rfl
  rw [List.set_set] at S2
  obtain ⟨W2, hW2⟩ : ∃ W, W1.setCell ⟨g, k * 6 + 2, none⟩ (.int .i64 3) = W := ⟨_, rfl⟩
  rw [hW2] at S2
  have B2 := Lib.hid (show Bel w W2 by rw [← hW2]; exact B1.out.set HG.out _)
  have S4 : Rw.RB vR 66 (W2.setCell ⟨g, k * 6 + 4, none⟩ (.bool true)) g ((l.set k (r1, r2, 3, M, r5, r6)).set k (r1, r2, 3, M, true, r6)) cap := S2.set (o := 4) (r := (r1, r2, 3, M, r5, r6)) (by decide) (List.getElem?_set_self HKL.out) rfl
  rw [List.set_set] at S4
  have S5 : Rw.RB vR 66 (W2.setCell ⟨g, k * 6 + 5, none⟩ (.bool true)) g ((l.set k (r1, r2, 3, M, r5, r6)).set k (r1, r2, 3, M, r5, true)) cap := S2.set (o := 5) (r := (r1, r2, 3, M, r5, r6)) (by decide) (List.getElem?_set_self HKL.out) rfl
  rw [List.set_set] at S5
  have S6 : Rw.RB vR 66 ((W2.setCell ⟨g, k * 6 + 4, none⟩ (.bool true)).setCell ⟨g, k * 6 + 2, none⟩ (.int .i64 4)) g ((l.set k (r1, r2, 3, M, true, r6)).set k (r1, r2, 4, M, true, r6)) cap := S4.set (o := 2) (r := (r1, r2, 3, M, true, r6)) (by decide) (List.getElem?_set_self HKL.out) rfl
  rw [List.set_set] at S6
  obtain ⟨_, _, _, _, g4, g5⟩ := rb_cells S2 (List.getElem?_set_self HKL.out)
  obtain ⟨_, _, k2, _, _, _⟩ := rb_cells S4 (List.getElem?_set_self HKL.out)
  have e4 := S2.frozen (k * 6 + 4)
  have e5 := S2.frozen (k * 6 + 5)
  have e6 := S4.frozen (k * 6 + 2)
  have HS5 := Lib.hid S5
  have HS6 := Lib.hid S6
  have HM := Lib.hid hM
  have HW1 := Lib.hid hW1
  have HW2 := Lib.hid hW2
  have FIN : ∀ (W : World) (x : V6), Rw.RB vR 66 W g (l.set k x) cap → Bel w W → puF cl tl (r1, r2, r3, r4, r5, r6) = x → CgR w W l k 0 (puF cl tl) (.returned (.tuple #[.slice (some ⟨g, 0, none⟩) n cap, .int .i64 0])) := fun W x h hb hx => by
    refine ⟨_, rfl, ?_, hb⟩
    rw [upd_at HR.out, hx]
    have := own_rb h HG.out HCM.out
    rw [List.length_set, HLN.out] at this
    exact this
  have FIN := Lib.hid FIN
  clear S1 S2 S4 S5 S6 hW1 hW2 hM hg hrb hcm ho kb c0 c1 c2 c4 c5 CP f2 f4 f5
  go_upto_region 8 with fail
  rw [HM.out, HW1.out]
  by_cases h1 : cl = 1
  · subst h1
    have HP := Lib.hid (FIN.out _ _ HS6.out ((B2.out.set (p := ⟨g, k * 6 + 4, none⟩) HG.out _).set HG.out _) (by show (if (1 : Int) = 1 then (r1, r2, 4, max r4 tl, true, r6) else (r1, r2, 3, max r4 tl, r5, true)) = (r1, r2, 4, M, true, r6); rw [if_pos rfl, HMX.out]))
    go_upto_region 9 with fail
    rw [HW2.out]
    go_wp2_with fail
    go_ret2
    exact HP.out
  · have e1 : (cl == 1) = false := beq_eq_false_iff_ne.2 h1
    have HP := Lib.hid (FIN.out _ _ HS5.out (B2.out.set HG.out _) (by show (if cl = 1 then (r1, r2, 4, max r4 tl, true, r6) else (r1, r2, 3, max r4 tl, r5, true)) = (r1, r2, 3, M, r5, true); rw [if_neg h1, HMX.out]))
    clear h1
    go_upto_region 9 with fail
    rw [HW2.out]
    go_wp2_with fail
    go_ret2
    exact HP.out
end Ro
end Go.Proofs.Ytpfdakkameifkaa
end

section
/-
  What the reference's Choose answers of any list. Conditions: at most a million validators and bools.
-/
namespace Go.Proofs.Ytpfdakkameifkaa
open Go.RowKit Go.Shelf
set_option linter.unusedVariables false
set_option linter.unusedSimpArgs false
namespace Ro
open Kk Pm

set_option maxRecDepth 100000 in
set_option maxHeartbeats 8000000 in
theorem chooseR (A : Option Addr) (n c : Nat) (l : List V6) (B : Option Addr) (m d : Nat) (bs : List Bool) (w : World) (hi : Rw.RS vR w A n c l) (hn : n ≤ 1000000) (hb : Rw.RS bR w B m d bs) (hm : m ≤ 1000000) :
    Calls Try.prog 29 #[.slice A n c, .slice B m d] w fun x w' => ChR w w' l bs x := by
  have HI := Lib.hid hi
  have HLN := Lib.hid hi.len
  have HLB := Lib.hid hb.len
  have HB := Lib.hid hb
  have CK := Lib.hid (checkR A n c l w hi (by omega))
  have CN := Lib.hid (fun V (hv : Bel w V) => copy A n c l V (hi.bel hv) (by omega))
  obtain ⟨e1, he1⟩ : ∃ e, (chk l).1 = e := ⟨_, rfl⟩
  obtain ⟨e2, he2⟩ : ∃ e, (chk l).2 = e := ⟨_, rfl⟩
  have H1 := Lib.hid he1
  rw [he1, he2] at CK
  clear hi he1 he2 hb
  go_enter Try.func29, Try.ntmps29
  go_wp2_with fail
  refine CK.out.mono ?_
  rintro x w1 ⟨rfl, kb⟩
  have K1 := Lib.hid kb
  clear kb CK
  by_cases h0 : e1 = 0
  case neg =>
    have hne : (e1 != 0) = true := by rw [bne_iff_ne]; exact h0
    have HE := Lib.hid (chE_0 (l := l) (b := bs) (by rw [H1.out]; exact h0))
    go_wp2_with fail
    go_ret2
    exact chR_no K1.out (HE.out.trans H1.out) h0
  subst h0
  by_cases hmn : m = n
  case neg =>
    have hne : ((m : Int) != n) = true := by rw [bne_iff_ne]; omega
    have HE := Lib.hid (chE_2 (l := l) (b := bs) H1.out (by rw [HLN.out, HLB.out]; exact hmn))
    go_wp2_with fail
    go_ret2
    exact chR_no K1.out HE.out (by decide)
  subst hmn
  have hne : ((m : Int) != m) = false := by simp
  have HEQ := Lib.hid (show bs.length = l.length by rw [HLN.out, HLB.out])
  have CN := Lib.hid (CN.out w1 K1.out)
  go_wp2_with fail
  refine CN.out.mono ?_
  rintro x w2 ⟨vc, rfl, ho, kb⟩
  obtain ⟨Ac, cc, rfl, hrs⟩ := ho.slice
  rw [HLN.out] at hrs ho ⊢
  have K2 := Lib.hid (K1.out.trans kb)
  have HO := Lib.hid (ho.mono (Below.size K1.out))
  have FR := Lib.hid (freeR A m c l w2 (HI.out.bel K2.out) (by omega))
  clear kb ho hrs CN
  go_wp2_with fail
  refine FR.out.mono ?_
  rintro x w3 ⟨vf, rfl, hf, kb⟩
  obtain ⟨Af, cf, rfl, hfr⟩ := hf.slice
  rw [List.length_map, HLN.out] at hf hfr ⊢
  have K3 := Lib.hid (K2.out.trans kb)
  have HO3 := Lib.hid (HO.out.bel kb)
  have HF3 := Lib.hid hf
  clear kb hf hfr FR HO
  go_wp2_with fail
  go_loopw [4, 5, 10] (fun s4 s5 s10 wr => ∃ k : Nat, k ≤ m ∧ s10 = .int .i64 k ∧ s4 = .slice none 0 0 ∧ s5 = .int .i64 0 ∧ Hid (OwnV wr w.heap.size (.slice Ac m cc) (cur l bs k)) ∧ Hid (OwnB wr w2.heap.size (.slice Af m cf) (l.map free)) ∧ Hid (Bel w wr) ∧ Hid (∀ (j : Nat) (r : V6) (x : Bool), j < k → l[j]? = some r → bs[j]? = some x → (x && !free r) = false)) (fun _ _ s10 _ => m - (intOf s10).toNat)
  case atStart => exact ⟨0, Nat.zero_le _, rfl, rfl, rfl, Lib.hid (by rw [cur_zero]; exact HO3.out), HF3, K3, Lib.hid (fun j r x hj => absurd hj (by omega))⟩
  case round =>
    obtain ⟨k, hk, rfl, rfl, rfl, ho, hf, hh, hz⟩ := hrel
    by_cases hlt : k < m
    · obtain ⟨⟨r1, r2, r3, r4, r5, r6⟩, hr⟩ := HI.out.get hlt
      obtain ⟨a1, a2, x, rfl, _, hx, ca⟩ := bool_at (HB.out.bel hh.out) hlt
      have hfs : Rw.RS bR wr Af m cf (l.map free) := by
        obtain ⟨A', c', e, h⟩ := hf.out.slice
        injection e with e1 e2 e3
        subst e1 e3
        rw [List.length_map, HLN.out] at h
        exact h
      obtain ⟨b1, b2, y, rfl, _, hy, cb⟩ := bool_at hfs hlt
      have hy2 : free (r1, r2, r3, r4, r5, r6) = y := by
        rw [List.getElem?_map, hr] at hy
        exact Option.some.inj hy
      clear hfs hy
      obtain ⟨g, cap, e, hge, hrb, hcm⟩ := Rw.rb_own vR ho.out (by rw [cur_len HEQ.out (by rw [HLN.out]; omega), HLN.out]; omega)
      rw [cur_len HEQ.out (by rw [HLN.out]; omega), HLN.out] at e
      injection e with ea eb ec
      subst ea ec
      have HRB := Lib.hid hrb
      have HGE := Lib.hid hge
      have HCM := Lib.hid hcm
      have HAL := Lib.hid (show a1 < w.heap.size from by
        obtain ⟨b', o', e', hlt', _⟩ := HB.out.row (by omega)
        injection e' with e'
        injection e' with e1' _
        rw [e1']; exact hlt')
      have HR := Lib.hid hr
      have HX := Lib.hid hx
      have HY := Lib.hid hy2
      have hlt3 : (k : Int) < m := by omega
      have hlt0 : (0 : Int) ≤ k := by omega
      have hfz := hrb.frozen (k * 6 + 2)
      have hthere : wr.cell? ⟨g, k * 6 + 2, none⟩ = some (.int .i64 r3) := (rb_cells hrb (cur_at HEQ.out hr)).2.2.1
      have STEP := fun (s : Int) (hp : pick (r1, r2, r3, r4, r5, r6) x = (r1, r2, s, r4, r5, r6)) => (show
          OwnV (wr.setCell ⟨g, k * 6 + 2, none⟩ (.int .i64 s)) w.heap.size (.slice (some ⟨g, 0, none⟩) m cc) (cur l bs (k + 1)) ∧ OwnB (wr.setCell ⟨g, k * 6 + 2, none⟩ (.int .i64 s)) w2.heap.size (.slice (some ⟨b1, b2, none⟩) m cf) (l.map free) ∧ Bel w (wr.setCell ⟨g, k * 6 + 2, none⟩ (.int .i64 s)) from by
        have h1 := HRB.out.set (o := 2) (r' := (r1, r2, s, r4, r5, r6)) (v := .int .i64 s) (by decide) (cur_at HEQ.out HR.out) rfl
        rw [← hp, cur_set HEQ.out HR.out HX.out] at h1
        have h2 := own_rb h1 HGE.out HCM.out
        rw [cur_len HEQ.out (by rw [HLN.out]; omega), HLN.out] at h2
        refine ⟨h2, hf.out.kep (S := fun b => b = g) (Kep.set_self (Kep.refl _ _) _ _) (fun i e e' => ?_), hh.out.set HGE.out _⟩
        obtain ⟨C, hC, _⟩ := HRB.out.blk
        subst e'
        exact Rw.own_ne hf.out hC (by decide) e)
      have STEP := Lib.hid STEP
      have HZ := fun (h : (x && !y) = false) => (show ∀ (j : Nat) (r : V6) (x : Bool), j < k + 1 → l[j]? = some r → bs[j]? = some x → (x && !free r) = false from fun j r x' hj h1 h2 => by
        rcases Nat.lt_or_ge j k with h' | h'
        · exact hz.out j r x' h' h1 h2
        · obtain rfl : j = k := by omega
          rw [HR.out] at h1
          rw [HX.out] at h2
          injection h1 with h1
          injection h2 with h2
          subst h1 h2
          rw [HY.out]; exact h)
      have HZ := Lib.hid HZ
      have HNE := Lib.hid (fun h : (x && !y) = true => chE_11 (l := l) (b := bs) H1.out HEQ.out (clash_at HR.out HX.out (by rw [HY.out]; exact h)))
      have HSM := Lib.hid (fun h : pick (r1, r2, r3, r4, r5, r6) x = (r1, r2, r3, r4, r5, r6) => cur_same HEQ.out HR.out HX.out h)
      clear hrb hge hcm hr hx hy2
      cases x with
      | true =>
        cases y with
        | true =>
          have hp := pick_t HY.out
          have hgz := Kep.set_self (Kep.refl (fun b => b = g) wr) (k * 6 + 2) (.int .i64 1)
          have h1 := HRB.out.set (o := 2) (r' := (r1, r2, 1, r4, r5, r6)) (v := .int .i64 1) (by decide) (cur_at HEQ.out HR.out) rfl
          have hkl : k < (cur l bs k).length := by rw [cur_len HEQ.out (by rw [HLN.out]; omega), HLN.out]; exact hlt
          have hthere2 := (rb_cells h1 (List.getElem?_set_self hkl)).2.2.1
          have hfz2 := h1.frozen (k * 6 + 2)
          have h2 := h1.set (o := 2) (r' := (r1, r2, 2, r4, r5, r6)) (v := .int .i64 2) (by decide) (List.getElem?_set_self hkl) rfl
          rw [List.set_set, ← hp, cur_set HEQ.out HR.out HX.out] at h2
          have h3 := own_rb h2 HGE.out HCM.out
          rw [cur_len HEQ.out (by rw [HLN.out]; omega), HLN.out] at h3
          have S1 := Lib.hid h3
          have S2 := Lib.hid (hf.out.kep (S := fun b => b = g) (Kep.set_self hgz (k * 6 + 2) (.int .i64 2)) (fun i e e' => by
            obtain ⟨C, hC, _⟩ := HRB.out.blk
            subst e'
            exact Rw.own_ne hf.out hC (by decide) e))
          have S3 := Lib.hid ((hh.out.set (p := ⟨g, k * 6 + 2, none⟩) HGE.out (.int .i64 1)).set (p := ⟨g, k * 6 + 2, none⟩) HGE.out (.int .i64 2))
          have Z := Lib.hid (HZ.out rfl)
          have cb2 := hgz.cell (S := fun b => b = g) (b := b1) (o := b2 + k) (fun e => by
            obtain ⟨C, hC, _⟩ := HRB.out.blk
            subst e
            exact Rw.own_ne hf.out hC (by decide) rfl) cb
          have ca2 := hgz.cell (S := fun b => b = g) (b := a1) (o := a2 + k) (fun e => by
            have := HGE.out
            have := HAL.out
            omega) ca
          clear h1 h2 h3 hp hgz hkl STEP HZ HNE HSM
          go_wp2_with fail
          go_roundw
          case rel => exact ⟨k + 1, by omega, by go_num, rfl, rfl, S1, S2, S3, Z⟩
          case measure => simp [intOf]; omega
        | false =>
          have HE := Lib.hid (HNE.out rfl)
          clear STEP HZ HNE HSM
          go_wp2_with fail
          (try rw [Exit.noGoto_ret])
          go_ret2
          exact chR_no hh.out HE.out (by decide)
      | false =>
        cases y with
        | true =>
          have hp := pick_f HY.out
          obtain ⟨s1, s2, s3⟩ := STEP.out 1 hp
          have ca2 := (Kep.set_self (Kep.refl (fun b => b = g) wr) (k * 6 + 2) (.int .i64 1)).cell (S := fun b => b = g) (b := a1) (o := a2 + k) (fun e => by
            have := HGE.out
            have := HAL.out
            omega) ca
          have S1 := Lib.hid s1
          have S2 := Lib.hid s2
          have S3 := Lib.hid s3
          have Z := Lib.hid (HZ.out rfl)
          clear s1 s2 s3 hp STEP HZ HNE HSM
          go_wp2_with fail
          go_roundw
          case rel => exact ⟨k + 1, by omega, by go_num, rfl, rfl, S1, S2, S3, Z⟩
          case measure => simp [intOf]; omega
        | false =>
          have S1 := Lib.hid (show OwnV wr w.heap.size (.slice (some ⟨g, 0, none⟩) m cc) (cur l bs (k + 1)) by rw [HSM.out (pick_n HY.out)]; exact ho.out)
          have Z := Lib.hid (HZ.out rfl)
          clear STEP HZ HNE HSM
          go_wp2_with fail
          go_roundw
          case rel => exact ⟨k + 1, by omega, by go_num, rfl, rfl, S1, hf, hh, Z⟩
          case measure => simp [intOf]; omega
    · obtain rfl : k = m := by omega
      have HE := Lib.hid (chE_ok (l := l) (b := bs) H1.out HEQ.out (clash_no HEQ.out (fun j r x h1 h2 => hz.out j r x (by have := (List.getElem?_eq_some_iff.1 h1).1; have := HLN.out; omega) h1 h2)))
      go_wp2_with fail
      (try rw [Exit.noGoto_ret])
      go_ret2
      refine ⟨_, by rw [HE.out]; rfl, ?_, hh.out⟩
      unfold chL
      rw [if_pos HE.out, ← cur_end HEQ.out, HLN.out]
      exact ho.out
end Ro
end Go.Proofs.Ytpfdakkameifkaa
end

section
/-
  Lists of validators and of bools as they come in. No condition.
-/
namespace Go.Proofs.Ytpfdakkameifkaa
open Go.RowKit Go.Shelf
set_option linter.unusedVariables false
namespace Ro
open Kk Pm

/-- Validators as they come in. -/
def Vals (w : World) (A : Option Addr) (n c : Nat) : Prop :=
  n ≤ c ∧ (A = none → c = 0) ∧ (0 < n → ∃ b o, A = some ⟨b, o, none⟩ ∧ b < w.heap.size ∧ ∀ i, i < n → ∃ (z0 : Int) (z1 : Int) (z2 : Int) (z3 : Int) (z4 : Bool) (z5 : Bool), (-9223372036854775808 ≤ z0 ∧ z0 ≤ 9223372036854775807 ∧ 0 ≤ z1 ∧ z1 ≤ 18446744073709551615 ∧ -9223372036854775808 ≤ z2 ∧ z2 ≤ 9223372036854775807 ∧ -9223372036854775808 ≤ z3 ∧ z3 ≤ 9223372036854775807) ∧ w.rangeAt b (o + i * 6) [.int .i64 z0, .int .u64 z1, .int .i64 z2, .int .i64 z3, .bool z4, .bool z5])
/-- Bools as they come in. -/
def Bools (w : World) (A : Option Addr) (n c : Nat) : Prop :=
  n ≤ c ∧ (A = none → c = 0) ∧ (0 < n → ∃ b o, A = some ⟨b, o, none⟩ ∧ b < w.heap.size ∧ ∀ i, i < n → ∃ (z0 : Bool), (True) ∧ w.rangeAt b (o + i * 1) [.bool z0])
/-- A validator whose numbers are ints and words. -/
def WV : V6 → Prop
  | (a, b, c, d, _, _) => I64 a ∧ (0 ≤ b ∧ b ≤ 18446744073709551615) ∧ I64 c ∧ I64 d
theorem rows_in {α : Type} (K : Rw.Row α) (G : α → Prop) {w : World} {b o : Nat} : ∀ (n : Nat), (∀ i, i < n → ∃ r : α, G r ∧ w.rangeAt b (o + i * K.z) (K.k r)) →
    ∃ l : List α, l.length = n ∧ (∀ r ∈ l, G r) ∧ ∀ i r, l[i]? = some r → w.rangeAt b (o + i * K.z) (K.k r)
  | 0, _ => ⟨[], rfl, fun r h => (by cases h), fun i r h => (by simp at h)⟩
  | n + 1, h => by
    obtain ⟨l, h1, h2, h3⟩ := rows_in K G n (fun i hi => h i (by omega))
    obtain ⟨r0, hz, hr⟩ := h n (by omega)
    refine ⟨l ++ [r0], by simp [h1], fun r hr' => ?_, fun i r hi => ?_⟩
    · rcases List.mem_append.1 hr' with h' | h'
      · exact h2 r h'
      · rw [List.mem_singleton] at h'
        subst h'
        exact hz
    · rcases Nat.lt_or_ge i n with h' | h'
      · rw [List.getElem?_append_left (by omega)] at hi
        exact h3 i r hi
      · have hin : i = n := by have := (List.getElem?_eq_some_iff.1 hi).1; simp at this; omega
        subst hin
        rw [List.getElem?_append_right (by omega), h1, Nat.sub_self] at hi
        injection hi with hi
        subst hi
        exact hr
theorem rs_in {α : Type} (K : Rw.Row α) (G : α → Prop) {w : World} {A : Option Addr} {n c : Nat} (h1 : n ≤ c) (h2 : A = none → c = 0) (h3 : 0 < n → ∃ b o, A = some ⟨b, o, none⟩ ∧ b < w.heap.size ∧ ∀ i, i < n → ∃ r : α, G r ∧ w.rangeAt b (o + i * K.z) (K.k r)) : ∃ l, Rw.RS K w A n c l ∧ ∀ r ∈ l, G r := by
  by_cases h0 : 0 < n
  · obtain ⟨b, o, e, hlt, hr⟩ := h3 h0
    obtain ⟨l, q1, q2, q3⟩ := rows_in K G n hr
    exact ⟨l, ⟨q1, h1, h2, fun _ => ⟨b, o, e, hlt, q3⟩⟩, q2⟩
  · obtain rfl : n = 0 := by omega
    exact ⟨[], ⟨rfl, h1, h2, fun h => absurd h h0⟩, fun r h => by cases h⟩
theorem vals_rs {w : World} {A : Option Addr} {n c : Nat} (h : Vals w A n c) : ∃ l, Rw.RS vR w A n c l ∧ ∀ r ∈ l, WV r := by
  obtain ⟨h1, h2, h3⟩ := h
  refine rs_in vR WV h1 h2 fun h0 => ?_
  obtain ⟨b, o, e, hlt, hr⟩ := h3 h0
  refine ⟨b, o, e, hlt, fun i hi => ?_⟩
  obtain ⟨z0, z1, z2, z3, z4, z5, hz, hc⟩ := hr i hi
  exact ⟨(z0, z1, z2, z3, z4, z5), ⟨⟨hz.1, hz.2.1⟩, ⟨hz.2.2.1, hz.2.2.2.1⟩, ⟨hz.2.2.2.2.1, hz.2.2.2.2.2.1⟩, ⟨hz.2.2.2.2.2.2.1, hz.2.2.2.2.2.2.2⟩⟩, hc⟩
theorem bools_rs {w : World} {A : Option Addr} {n c : Nat} (h : Bools w A n c) : ∃ l, Rw.RS bR w A n c l := by
  obtain ⟨h1, h2, h3⟩ := h
  obtain ⟨l, hl, _⟩ := rs_in bR (fun _ => True) h1 h2 fun h0 => (by
    obtain ⟨b, o, e, hlt, hr⟩ := h3 h0
    refine ⟨b, o, e, hlt, fun i hi => ?_⟩
    obtain ⟨z0, hz, hc⟩ := hr i hi
    exact ⟨z0, trivial, hc⟩)
  exact ⟨l, hl⟩
theorem WV.i {r : V6} (h : WV r) : I64 (op r) := by
  obtain ⟨a, b, c, d, e, f⟩ := r
  exact h.1
end Ro
end Go.Proofs.Ytpfdakkameifkaa
end
