/-
  What roster.Jail, Unjail, Punished, Punish and Choose answer of any list. Conditions: at most a million validators and bools; operators are ints.
-/
import Derived.Test.YtpfdakkameifkaaRo8
namespace Go.Proofs.Ytpfdakkameifkaa
open Go.RowKit Go.Shelf
set_option linter.unusedVariables false
set_option linter.unusedSimpArgs false
namespace Ro
open Kk Pm

set_option maxRecDepth 100000 in
set_option maxHeartbeats 2000000 in
theorem jail (A : Option Addr) (n c : Nat) (l : List V6) (v tl : Int) (w : World) (hi : Rw.RS vR w A n c l) (hn : n ≤ 1000000) (hO : ∀ r ∈ l, I64 (op r)) :
    Calls Try.prog 30 #[.slice A n c, .int .i64 v, .int .i64 tl] w fun x w' => CgR w w' l v (cgE l v (jaE tl)) (jaF tl) x := by
  obtain ⟨W, hW⟩ : ∃ W, w.alloc (.cells #[.int .i64 tl] 3) = W := ⟨_, rfl⟩
  have BW := Lib.hid (show Bel w W by rw [← hW]; exact (Bel.refl w).alloc _)
  have P0 := Lib.hid (show Blk W (w.heap.size) #[.int .i64 tl] 3 by rw [← hW]; exact (Blk.new w _ _))
  have CH := Lib.hid (changed A n c l v 64 #[.pointer (some ⟨w.heap.size, 0, none⟩)] (jaE tl) (jaF tl) W (hi.bel BW.out) hn hO (fun args w => rfl) (jail1 W l w.heap.size tl P0.out))
  obtain ⟨E, hE⟩ : ∃ E, cgE l v (jaE tl) = E := ⟨_, rfl⟩
  rw [hE] at CH ⊢
  have HW := Lib.hid hW
  clear hi hO hE hW
  go_enter Try.func30, Try.ntmps30
  go_upto_region 1 with fail
  try rw [HW.out]
  go_wp2_with fail
  refine CH.out.mono ?_
  rintro x w1 ⟨y, rfl, ho, kb⟩
  have HO := Lib.hid (ho.mono (Below.size BW.out))
  have KB := Lib.hid (BW.out.trans kb)
  clear ho kb CH
  go_wp2_with fail
  go_ret2
  exact ⟨_, rfl, HO.out, KB.out⟩
set_option maxRecDepth 100000 in
set_option maxHeartbeats 2000000 in
theorem unjail (A : Option Addr) (n c : Nat) (l : List V6) (v by_ h_ : Int) (w : World) (hi : Rw.RS vR w A n c l) (hn : n ≤ 1000000) (hO : ∀ r ∈ l, I64 (op r)) :
    Calls Try.prog 32 #[.slice A n c, .int .i64 v, .int .i64 by_, .int .i64 h_] w fun x w' => CgR w w' l v (cgE l v (unE by_ h_)) (setS 1) x := by
  obtain ⟨W, hW⟩ : ∃ W, (w.alloc (.cells #[.int .i64 by_] 3)).alloc (.cells #[.int .i64 h_] 3) = W := ⟨_, rfl⟩
  have BW := Lib.hid (show Bel w W by rw [← hW]; exact ((Bel.refl w).alloc _).alloc _)
  have P0 := Lib.hid (show Blk W (w.heap.size) #[.int .i64 by_] 3 by rw [← hW]; exact ((Blk.new w _ _).alloc _))
  have P1 := Lib.hid (show Blk W (w.heap.size + 1) #[.int .i64 h_] 3 by rw [← hW]; have h := Blk.new (w.alloc (.cells #[.int .i64 by_] 3)) #[.int .i64 h_] 3; simpa using h)
  have CH := Lib.hid (changed A n c l v 67 #[.pointer (some ⟨w.heap.size, 0, none⟩), .pointer (some ⟨w.heap.size + 1, 0, none⟩)] (unE by_ h_) (setS 1) W (hi.bel BW.out) hn hO (fun args w => rfl) (unjail1 W l w.heap.size (w.heap.size + 1) by_ h_ P0.out P1.out))
  obtain ⟨E, hE⟩ : ∃ E, cgE l v (unE by_ h_) = E := ⟨_, rfl⟩
  rw [hE] at CH ⊢
  have HW := Lib.hid hW
  clear hi hO hE hW
  go_enter Try.func32, Try.ntmps32
  go_upto_region 1 with fail
  try rw [HW.out]
  go_wp2_with fail
  refine CH.out.mono ?_
  rintro x w1 ⟨y, rfl, ho, kb⟩
  have HO := Lib.hid (ho.mono (Below.size BW.out))
  have KB := Lib.hid (BW.out.trans kb)
  clear ho kb CH
  go_wp2_with fail
  go_ret2
  exact ⟨_, rfl, HO.out, KB.out⟩
theorem pdE_def (l : List V6) (v c : Int) : pdE l v c = if (chk l).1 ≠ 0 then (chk l).1 else if ¬ (c = 1 ∨ c = 2) then 2 else if reE l v ≠ 0 then reE l v else (nth l v).elim 10 (fun r => if c = 2 ∧ pro r = true then 19 else 0) := by
  unfold pdE
  by_cases h0 : (chk l).1 ≠ 0
  · rw [if_pos h0, if_pos h0]
  · rw [if_neg h0, if_neg h0]
    by_cases h1 : c = 1 ∨ c = 2
    · rw [if_neg (fun h => h h1), if_neg (fun h => h h1)]
      unfold reE
      cases hn : nth l v with
      | none => rfl
      | some r =>
        by_cases h4 : st r = 4 <;> simp [h4]
    · rw [if_pos h1, if_pos h1]
set_option maxRecDepth 100000 in
set_option maxHeartbeats 2000000 in
theorem punished (A : Option Addr) (n c : Nat) (l : List V6) (v cl : Int) (w : World) (hi : Rw.RS vR w A n c l) (hn : n ≤ 1000000) (hO : ∀ r ∈ l, I64 (op r)) :
    Calls Try.prog 36 #[.slice A n c, .int .i64 v, .int .i64 cl] w fun x w' => x = .returned (.int .i64 (pdE l v cl)) ∧ Bel w w' := by
  have HI := Lib.hid hi
  have HLN := Lib.hid hi.len
  have CK := Lib.hid (check A n c l w hi (by omega) hO)
  have RE := Lib.hid (fun V (hv : Bel w V) => refuse A n c l v V (hi.bel hv) (by omega))
  obtain ⟨e1, he1⟩ : ∃ e, (chk l).1 = e := ⟨_, rfl⟩
  obtain ⟨e2, he2⟩ : ∃ e, (chk l).2 = e := ⟨_, rfl⟩
  obtain ⟨e3, he3⟩ : ∃ e, reE l v = e := ⟨_, rfl⟩
  obtain ⟨E, hE⟩ : ∃ E, pdE l v cl = E := ⟨_, rfl⟩
  have HE := Lib.hid hE
  rw [pdE_def, he1, he3] at HE
  rw [he1, he2] at CK
  rw [he3] at RE
  rw [hE]
  have H3 := Lib.hid (show (nth l v).elim 10 (fun r => if st r = 4 then 20 else 0) = e3 from he3)
  clear hi he1 he2 he3 hE hO
  go_enter Try.func36, Try.ntmps36
  go_wp2_with fail
  refine CK.out.mono ?_
  rintro x w1 ⟨rfl, kb⟩
  have K1 := Lib.hid kb
  clear kb CK
  by_cases h0 : e1 = 0
  case neg =>
    have hne : (e1 != 0) = true := by rw [bne_iff_ne]; exact h0
    obtain rfl : e1 = E := by have := HE.out; rwa [if_pos h0] at this
    go_wp2_with fail
    go_ret
    exact ⟨rfl, K1.out⟩
  subst h0
  have IC := isClass cl w1
  by_cases h1 : cl = 1 ∨ cl = 2
  case neg =>
    rw [decide_eq_false h1] at IC
    obtain rfl : E = 2 := by have := HE.out; rw [if_neg (by decide), if_pos h1] at this; exact this.symm
    clear h1
    go_wp2_with fail
    refine IC.mono ?_
    rintro x wz ⟨rfl, rfl⟩
    go_wp2_with fail
    go_ret
    exact ⟨rfl, K1.out⟩
  have HE := Lib.hid (show (if e3 ≠ 0 then e3 else (nth l v).elim 10 (fun r => if cl = 2 ∧ pro r = true then 19 else 0)) = E by have := HE.out; rwa [if_neg (by decide), if_neg (fun h => h h1)] at this)
  rw [decide_eq_true h1] at IC
  have H1 := Lib.hid h1
  clear h1
  have RE := Lib.hid (RE.out w1 K1.out)
  go_wp2_with fail
  refine IC.mono ?_
  rintro x wz ⟨rfl, rfl⟩
  clear IC
  go_wp2_with fail
  refine RE.out.mono ?_
  rintro x w2 ⟨rfl, kb⟩
  have K2 := Lib.hid (K1.out.trans kb)
  clear kb RE
  by_cases h3 : e3 = 0
  case neg =>
    have hne : (e3 != 0) = true := by rw [bne_iff_ne]; exact h3
    obtain rfl : e3 = E := by have := HE.out; rwa [if_pos h3] at this
    go_wp2_with fail
    go_ret
    exact ⟨rfl, K2.out⟩
  subst h3
  have HE := Lib.hid (show (nth l v).elim 10 (fun r => if cl = 2 ∧ pro r = true then 19 else 0) = E by have := HE.out; rwa [if_neg (by decide)] at this)
  have hv : 0 ≤ v ∧ v < l.length := by
    have := H3.out
    by_cases hb : v < 0 ∨ (l.length : Int) ≤ v
    · rw [nth_none hb] at this; cases this
    · omega
  obtain ⟨k, rfl⟩ : ∃ k : Nat, v = k := ⟨v.toNat, by omega⟩
  have hlt : k < n := by have := HLN.out; omega
  clear hv
  obtain ⟨⟨r1, r2, r3, r4, r5, r6⟩, hr⟩ := HI.out.get hlt
  obtain ⟨b, q, rfl, hb, hrow⟩ := (HI.out.bel K2.out).at hlt hr
  have HE := Lib.hid (show (if cl = 2 ∧ r6 = true then (19 : Int) else 0) = E by have := HE.out; rw [nth_some hr] at this; exact this)
  have hlt3 : (k : Int) < n := by omega
  obtain ⟨c0, c1, c2, c3, c4, c5⟩ := rng6 (show w2.rangeAt b (q + k * 6) [.int .i64 r1, .int .u64 r2, .int .i64 r3, .int .i64 r4, .bool r5, .bool r6] from hrow)
  clear hr hrow H3 c0 c1 c2 c3 c4
  by_cases h2 : cl = 2
  · subst h2
    cases r6 with
    | true =>
      obtain rfl : E = 19 := by have := HE.out; rw [if_pos ⟨rfl, rfl⟩] at this; exact this.symm
      go_wp2_with fail
      go_ret
      exact ⟨rfl, K2.out⟩
    | false =>
      obtain rfl : E = 0 := by have := HE.out; rw [if_neg (fun h => by cases h.2)] at this; exact this.symm
      go_wp2_with fail
      go_ret
      exact ⟨rfl, K2.out⟩
  · have e2 : (cl == 2) = false := beq_eq_false_iff_ne.2 h2
    obtain rfl : E = 0 := by have := HE.out; rw [if_neg (fun h => h2 h.1)] at this; exact this.symm
    clear h2
    go_wp2_with fail
    go_ret
    exact ⟨rfl, K2.out⟩
theorem pdE_ok {l : List V6} {v c : Int} (h : pdE l v c = 0) : (chk l).1 = 0 ∧ nth l v ≠ none := by
  unfold pdE at h
  by_cases h0 : (chk l).1 ≠ 0
  · rw [if_pos h0] at h; exact absurd h h0
  · rw [if_neg h0] at h
    refine ⟨by omega, fun hn => ?_⟩
    by_cases h1 : ¬ (c = 1 ∨ c = 2)
    · rw [if_pos h1] at h; cases h
    · rw [if_neg h1, hn] at h; cases h
theorem cgE_const {l : List V6} {v x : Int} (h : (chk l).1 = 0) (h2 : nth l v ≠ none) : cgE l v (fun _ => x) = x := by
  unfold cgE
  rw [if_neg (by omega)]
  cases hn : nth l v with
  | none => exact absurd hn h2
  | some r => rfl
set_option maxRecDepth 100000 in
set_option maxHeartbeats 2000000 in
theorem punish (A : Option Addr) (n c : Nat) (l : List V6) (v cl tl : Int) (w : World) (hi : Rw.RS vR w A n c l) (hn : n ≤ 1000000) (hO : ∀ r ∈ l, I64 (op r)) :
    Calls Try.prog 34 #[.slice A n c, .int .i64 v, .int .i64 cl, .int .i64 tl] w fun x w' => CgR w w' l v (puE l v cl tl) (puF cl tl) x := by
  obtain ⟨W, hW⟩ : ∃ W, (w.alloc (.cells #[.int .i64 cl] 3)).alloc (.cells #[.int .i64 tl] 3) = W := ⟨_, rfl⟩
  have BW := Lib.hid (show Bel w W by rw [← hW]; exact ((Bel.refl w).alloc _).alloc _)
  have P0 := Lib.hid (show Blk W w.heap.size #[.int .i64 cl] 3 by rw [← hW]; exact (Blk.new w _ _).alloc _)
  have P1 := Lib.hid (show Blk W (w.heap.size + 1) #[.int .i64 tl] 3 by rw [← hW]; have h := Blk.new (w.alloc (.cells #[.int .i64 cl] 3)) #[.int .i64 tl] 3; simpa using h)
  have PD := Lib.hid (punished A n c l v cl W (hi.bel BW.out) hn hO)
  have CH := Lib.hid (fun V (hv : Bel W V) => changed A n c l v 68 #[.pointer (some ⟨w.heap.size, 0, none⟩), .pointer (some ⟨w.heap.size + 1, 0, none⟩)] (fun _ => if untB tl = false then 3 else 0) (puF cl tl) V (hi.bel (BW.out.trans hv)) hn hO (fun args w => rfl) (punish1 V l w.heap.size (w.heap.size + 1) cl tl (P0.out.bel hv) (P1.out.bel hv)))
  have HK := Lib.hid (@pdE_ok l v cl)
  obtain ⟨D, hD⟩ : ∃ D, pdE l v cl = D := ⟨_, rfl⟩
  obtain ⟨E, hE⟩ : ∃ E, puE l v cl tl = E := ⟨_, rfl⟩
  have HE := Lib.hid (show (if D ≠ 0 then D else if untB tl = false then 3 else 0) = E by rw [← hE, ← hD]; rfl)
  rw [hD] at PD HK
  rw [hE]
  have HW := Lib.hid hW
  clear hi hO hE hD hW
  have p0 := P0.out.cell 0 rfl
  go_enter Try.func34, Try.ntmps34
  go_upto_region 1 with fail
  try rw [HW.out]
  go_wp2_with fail
  refine PD.out.mono ?_
  rintro x w1 ⟨rfl, kb⟩
  have K1 := Lib.hid kb
  clear kb PD p0
  by_cases h0 : D = 0
  case neg =>
    have hne : (D != 0) = true := by rw [bne_iff_ne]; exact h0
    obtain rfl : D = E := by have := HE.out; rwa [if_pos h0] at this
    go_wp2_with fail
    go_ret2
    exact cgR_no (BW.out.trans K1.out) h0
  subst h0
  have CH := Lib.hid (CH.out w1 K1.out)
  rw [cgE_const (HK.out rfl).1 (HK.out rfl).2, show (if untB tl = false then (3 : Int) else 0) = E by have := HE.out; rwa [if_neg (by decide)] at this] at CH
  clear HK HE
  go_wp2_with fail
  refine CH.out.mono ?_
  rintro x w2 ⟨y, rfl, ho, kb⟩
  have HO := Lib.hid (ho.mono (Below.size (BW.out.trans K1.out)))
  have KB := Lib.hid ((BW.out.trans K1.out).trans kb)
  clear ho kb CH
  go_wp2_with fail
  go_ret2
  exact ⟨_, rfl, HO.out, KB.out⟩
end Ro
end Go.Proofs.Ytpfdakkameifkaa
