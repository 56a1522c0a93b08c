/-
  The chapter's examples are answered as it says: awake and ActiveKnown. No condition.
-/
import Derived.Test.YtmbodfmdaocppaaAc10
import Derived.Test.YtmbodfmdaocppaaAc5
namespace Go.Proofs.Ytmbodfmdaocppaa
open Go.RowKit Go.Shelf
set_option linter.unusedVariables false
set_option linter.unusedSimpArgs false
namespace Ac
open Kk Pm Ro

theorem lit_u (w : World) (l : List Int) (n : Nat) (hl : l.length = n) : Rw.RS uR (w.alloc (.cells (l.map (Value.int .u64)).toArray 36)) (some ⟨w.heap.size, 0, none⟩) n n l :=
  Rw.rs_blk uR (Blk.new w _ _) hl (Nat.le_refl _) (by
    have e : Rw.flat uR l = l.map (Value.int .u64) := by
      induction l generalizing n with
      | nil => rfl
      | cons x l ih =>
        show [Value.int .u64 x] ++ Rw.flat uR l = _
        rw [ih _ rfl]; rfl
    rw [e]
    show (l.map (Value.int .u64)).take (n * 1) = _
    rw [List.take_of_length_le (by rw [List.length_map]; omega)])
theorem lit_i (w : World) (l : List Nat) (n : Nat) (hl : l.length = n) : Rw.RS iR (w.alloc (.cells (l.map (fun x : Nat => Value.int .i64 (x : Int))).toArray 3)) (some ⟨w.heap.size, 0, none⟩) n n l :=
  Rw.rs_blk iR (Blk.new w _ _) hl (Nat.le_refl _) (by
    have e : Rw.flat iR l = l.map (fun x : Nat => Value.int .i64 (x : Int)) := by
      induction l generalizing n with
      | nil => rfl
      | cons x l ih =>
        show [Value.int .i64 x] ++ Rw.flat iR l = _
        rw [ih _ rfl]; rfl
    rw [e]
    show (l.map (fun x : Nat => Value.int .i64 (x : Int))).take (n * 1) = _
    rw [List.take_of_length_le (by rw [List.length_map]; omega)])
theorem wds_of {l : List Int} (h : ∀ x ∈ l, 0 ≤ x ∧ x ≤ 18446744073709551615) : Wds l := fun i => by
  unfold tk
  rw [List.getD_eq_getElem?_getD]
  cases hx : l[i]? with
  | none => exact ⟨by decide, by decide⟩
  | some x => exact h x (List.mem_of_getElem? hx)
theorem bools_c (s : ByteArray) (l : List Bool) (n : Nat) (h : bts s = l) (hs : s.size ≤ 1000000) (hl : l.length = n) (w : World) : Calls Try.prog 20 #[.string s] w fun e w' => ∃ A c, e = .returned (.slice A n c) ∧ Rw.RS bR w' A n c l ∧ Bel w w' :=
  (bools_ s hs w).mono fun e w' ⟨v, he, ho, kb⟩ => by
    rw [h] at ho
    obtain ⟨A, c, e', hr, _⟩ := ho.rs bR
    rw [hl] at e' hr
    exact ⟨A, c, by rw [he, e'], hr, kb⟩
section
variable {T : Option Addr} {tn tc : Nat} {t : List Int} {M : Option Addr} {mn mc : Nat} {m : List Bool} {w : World}
theorem rank_c (ht : Rw.RS uR w T tn tc t) (hm : Rw.RS bR w M mn mc m) (htn : tn ≤ 1000000) (hmn : mn ≤ 1000000) (r : List Nat) (n : Nat) (h : rk t m = r) (hl : r.length = n) : Calls Try.prog 11 #[.slice T tn tc, .slice M mn mc] w fun e w' => ∃ A c, e = .returned (.slice A n c) ∧ Rw.RS iR w' A n c r ∧ Bel w w' :=
  (rank T tn tc t M mn mc m w ht hm htn hmn).mono fun e w' ⟨v, he, ho, kb⟩ => by
    rw [h] at ho
    obtain ⟨A, c, e', hr, _⟩ := ho.rs iR
    rw [hl] at e' hr
    exact ⟨A, c, by rw [he, e'], hr, kb⟩
theorem choose_c (ht : Rw.RS uR w T tn tc t) (hm : Rw.RS bR w M mn mc m) (htn : tn ≤ 1000000) (hmn : mn ≤ 1000000) (most : Int) (m0 : -9223372036854775808 ≤ most) (m1 : most ≤ 9223372036854775807) (r : List Bool) (n : Nat) (h : ch t m most = r) (hl : r.length = n) : Calls Try.prog 12 #[.slice T tn tc, .slice M mn mc, .int .i64 most] w fun e w' => ∃ A c, e = .returned (.slice A n c) ∧ Rw.RS bR w' A n c r ∧ Bel w w' :=
  (Ac.choose T tn tc t M mn mc m most w ht hm htn hmn m0 m1).mono fun e w' ⟨v, he, ho, kb⟩ => by
    rw [h] at ho
    obtain ⟨A, c, e', hr, _⟩ := ho.rs bR
    rw [hl] at e' hr
    exact ⟨A, c, by rw [he, e'], hr, kb⟩
theorem sum_c (ht : Rw.RS uR w T tn tc t) (hm : Rw.RS bR w M mn mc m) (htn : tn ≤ 1000000) (hmn : mn ≤ 1000000) (hw : Wds t) (s : Int) (h : su (owL t m mn) = s) : Calls Try.prog 23 #[.slice T tn tc, .slice M mn mc] w fun e w' => e = .returned (.int .u64 s) ∧ Bel w w' := by
  rw [← h]; exact sum_ T tn tc t M mn mc m w ht hm htn hmn hw
theorem floor_c (ht : Rw.RS uR w T tn tc t) (hm : Rw.RS bR w M mn mc m) (htn : tn ≤ 1000000) (hmn : mn ≤ 1000000) (hw : Wds t) (s : Int) (b : Bool) (h : flo (owL t m mn) = (s, b)) : Calls Try.prog 22 #[.slice T tn tc, .slice M mn mc] w fun e w' => e = .returned (.tuple #[.int .u64 s, .bool b]) ∧ Bel w w' := by
  have := floor_ T tn tc t M mn mc m w ht hm htn hmn hw
  rwa [h] at this
theorem quorum_c (s q : Int) (h0 : 0 ≤ s) (h1 : s ≤ 18446744073709551615) (h : quo s = q) : Calls Try.prog 24 #[.int .u64 s] w fun e w' => e = .returned (.int .u64 q) ∧ Bel w w' := by
  rw [← h]; exact quorum_ s w h0 h1
end
theorem diff_c {A : Option Addr} {an ac : Nat} {l1 : List Bool} {B : Option Addr} {bn bc : Nat} {l2 : List Bool} {w : World} (h1 : Rw.RS bR w A an ac l1) (h2 : Rw.RS bR w B bn bc l2) (hn : an ≤ 1000000) (hm : bn ≤ 1000000) (r1 r2 : List Nat) (n1 n2 : Nat) (e1 : dfL (isb l2) (isb l1) (max an bn) = r1) (e2 : dfL (isb l1) (isb l2) (max an bn) = r2) (k1 : r1.length = n1) (k2 : r2.length = n2) :
    Calls Try.prog 21 #[.slice A an ac, .slice B bn bc] w fun e w' => ∃ P c Q d, e = .returned (.tuple #[.slice P n1 c, .slice Q n2 d]) ∧ Rw.RS iR w' P n1 c r1 ∧ Rw.RS iR w' Q n2 d r2 ∧ Bel w w' :=
  (diff_ A an ac l1 B bn bc l2 w h1 h2 hn hm).mono fun e w' ⟨u, v, he, ht⟩ => by
    have o1 := ht.o1
    have o2 := ht.o2
    rw [e1] at o1
    rw [e2] at o2
    obtain ⟨P, c, e3, g1, _⟩ := o1.rs iR
    obtain ⟨Q, d, e4, g2, _⟩ := o2.rs iR
    rw [k1] at e3 g1
    rw [k2] at e4 g2
    exact ⟨P, c, Q, d, by rw [he, e3, e4], g1, g2, ht.bel⟩
theorem same_ic {A : Option Addr} {n c : Nat} {B : Option Addr} {m d : Nat} {l1 l2 : List Nat} {w : World} (h1 : Rw.RS iR w A n c l1) (h2 : Rw.RS iR w B m d l2) (hn : n ≤ 1000000000) (hm : m ≤ 1000000000) (e : l1 = l2) : Calls Try.prog 13 #[.slice A n c, .slice B m d] w fun e w' => e = .returned (.bool true) ∧ Bel w w' := by
  have := same_i A B n c m d l1 l2 w h1 h2 hn hm
  rwa [decide_eq_true e] at this
theorem same_wc {A : Option Addr} {n c : Nat} {B : Option Addr} {m d : Nat} {l1 l2 : List Int} {w : World} (h1 : Rw.RS uR w A n c l1) (h2 : Rw.RS uR w B m d l2) (hn : n ≤ 1000000000) (hm : m ≤ 1000000000) (e : l1 = l2) : Calls Try.prog 19 #[.slice A n c, .slice B m d] w fun e w' => e = .returned (.bool true) ∧ Bel w w' := by
  have := same_w A B n c m d l1 l2 w h1 h2 hn hm
  rwa [decide_eq_true e] at this
theorem same_bc {A : Option Addr} {n c : Nat} {B : Option Addr} {m d : Nat} {l1 l2 : List Bool} {w : World} (h1 : Rw.RS bR w A n c l1) (h2 : Rw.RS bR w B m d l2) (hn : n ≤ 1000000000) (hm : m ≤ 1000000000) (e : l1 = l2) : Calls Try.prog 15 #[.slice A n c, .slice B m d] w fun e w' => e = .returned (.bool true) ∧ Bel w w' := by
  have := same_b A B n c m d l1 l2 w h1 h2 hn hm
  rwa [decide_eq_true e] at this

set_option maxRecDepth 100000 in
set_option maxHeartbeats 8000000 in
theorem awake_ (w : World) : Calls Try.prog 8 #[] w fun e w' => e = .returned (.bool true) ∧ Bel w w' := by
  go_enter Try.func8, Try.ntmps8
  obtain ⟨w1, hw1⟩ : ∃ W, w.alloc (.cells #[.int .u64 5, .int .u64 9, .int .u64 5, .int .u64 0, .int .u64 7] 36) = W := ⟨_, rfl⟩
  obtain ⟨gw1, hgw1⟩ : ∃ g, w.heap.size = g := ⟨_, rfl⟩
  have K1 := Lib.hid (show Bel w w1 by rw [← hw1]; exact (Bel.refl _).alloc _)
  have Lw1 := Lib.hid (show Rw.RS uR w1 (some ⟨gw1, 0, none⟩) 5 5 [5, 9, 5, 0, 7] by rw [← hw1, ← hgw1]; exact lit_u w [5, 9, 5, 0, 7] 5 rfl)
  go_wp2_with fail
  refine (bools_c _ [true, true, true, true, true] 5 (by first | rfl | decide +kernel) (by first | decide | decide +kernel) rfl _).mono ?_
  rintro e w2 ⟨A2, c2, rfl, h, kb⟩
  have K2 := Lib.hid kb
  have H2 := Lib.hid h
  clear h
  clear kb
  go_wp2_with fail
  refine (rank_c (Lw1.out.bel K2.out) H2.out (by decide) (by decide) [1, 4, 0, 2] 4 (by decide +kernel) rfl).mono ?_
  rintro e w3 ⟨A3, c3, rfl, h, kb⟩
  have K3 := Lib.hid kb
  have H3 := Lib.hid h
  clear h
  clear kb
  obtain ⟨w4, hw4⟩ : ∃ W, w3.alloc (.cells #[.int .i64 1, .int .i64 4, .int .i64 0, .int .i64 2] 3) = W := ⟨_, rfl⟩
  obtain ⟨gw4, hgw4⟩ : ∃ g, w3.heap.size = g := ⟨_, rfl⟩
  have K4 := Lib.hid (show Bel w3 w4 by rw [← hw4]; exact (Bel.refl _).alloc _)
  have Lw4 := Lib.hid (show Rw.RS iR w4 (some ⟨gw4, 0, none⟩) 4 4 [1, 4, 0, 2] by rw [← hw4, ← hgw4]; exact lit_i w3 [1, 4, 0, 2] 4 rfl)
  go_wp2_with fail
  refine (same_ic (H3.out.bel K4.out) Lw4.out (by decide) (by decide) rfl).mono ?_
  rintro e w5 ⟨rfl, kb⟩
  have K5 := Lib.hid kb
  clear kb
  go_wp2_with fail
  refine (bools_c _ [true, true, true, true, true] 5 (by first | rfl | decide +kernel) (by first | decide | decide +kernel) rfl _).mono ?_
  rintro e w6 ⟨A6, c6, rfl, h, kb⟩
  have K6 := Lib.hid kb
  have H6 := Lib.hid h
  clear h
  clear kb
  go_wp2_with fail
  refine (choose_c (((((Lw1.out.bel K2.out).bel K3.out).bel K4.out).bel K5.out).bel K6.out) H6.out (by decide) (by decide) 3 (by decide) (by decide) [true, true, false, false, true] 5 (by decide +kernel) rfl).mono ?_
  rintro e w7 ⟨A7, c7, rfl, h, kb⟩
  have K7 := Lib.hid kb
  have H7 := Lib.hid h
  clear h
  clear kb
  go_wp2_with fail
  refine (bools_c _ [true, true, false, false, true] 5 (by first | rfl | decide +kernel) (by first | decide | decide +kernel) rfl _).mono ?_
  rintro e w8 ⟨A8, c8, rfl, h, kb⟩
  have K8 := Lib.hid kb
  have H8 := Lib.hid h
  clear h
  clear kb
  go_wp2_with fail
  refine (same_bc (H7.out.bel K8.out) H8.out (by decide) (by decide) rfl).mono ?_
  rintro e w9 ⟨rfl, kb⟩
  have K9 := Lib.hid kb
  clear kb
  obtain ⟨w10, hw10⟩ : ∃ W, w9.alloc (.cells #[.int .u64 5, .int .u64 9] 36) = W := ⟨_, rfl⟩
  obtain ⟨gw10, hgw10⟩ : ∃ g, w9.heap.size = g := ⟨_, rfl⟩
  have K10 := Lib.hid (show Bel w9 w10 by rw [← hw10]; exact (Bel.refl _).alloc _)
  have Lw10 := Lib.hid (show Rw.RS uR w10 (some ⟨gw10, 0, none⟩) 2 2 [5, 9] by rw [← hw10, ← hgw10]; exact lit_u w9 [5, 9] 2 rfl)
  go_wp2_with fail
  refine (bools_c _ [true, true, true] 3 (by first | rfl | decide +kernel) (by first | decide | decide +kernel) rfl _).mono ?_
  rintro e w11 ⟨A11, c11, rfl, h, kb⟩
  have K11 := Lib.hid kb
  have H11 := Lib.hid h
  clear h
  clear kb
  go_wp2_with fail
  refine (sum_c (Lw10.out.bel K11.out) H11.out (by decide) (by decide) (wds_of (by decide)) 14 (by decide +kernel)).mono ?_
  rintro e w12 ⟨rfl, kb⟩
  have K12 := Lib.hid kb
  clear kb
  go_wp2_with fail
  refine (quorum_c 100 67 (by decide) (by decide) (by decide +kernel)).mono ?_
  rintro e w13 ⟨rfl, kb⟩
  have K13 := Lib.hid kb
  clear kb
  go_wp2_with fail
  go_ret
  exact ⟨rfl, ((((((((((((K1.out.trans K2.out).trans K3.out).trans K4.out).trans K5.out).trans K6.out).trans K7.out).trans K8.out).trans K9.out).trans K10.out).trans K11.out).trans K12.out).trans K13.out)⟩
set_option maxRecDepth 100000 in
set_option maxHeartbeats 8000000 in
theorem known (w : World) : Calls Try.prog 4 #[] w fun e w' => e = .returned (.bool true) ∧ Bel w w' := by
  go_enter Try.func4, Try.ntmps4
  obtain ⟨w1, hw1⟩ : ∃ W, w.alloc (.cells #[.int .u64 5, .int .u64 9] 36) = W := ⟨_, rfl⟩
  obtain ⟨gw1, hgw1⟩ : ∃ g, w.heap.size = g := ⟨_, rfl⟩
  have K1 := Lib.hid (show Bel w w1 by rw [← hw1]; exact (Bel.refl _).alloc _)
  have Lw1 := Lib.hid (show Rw.RS uR w1 (some ⟨gw1, 0, none⟩) 2 2 [5, 9] by rw [← hw1, ← hgw1]; exact lit_u w [5, 9] 2 rfl)
  go_wp2_with fail
  refine (bools_c _ [false, true] 2 (by first | rfl | decide +kernel) (by first | decide | decide +kernel) rfl _).mono ?_
  rintro e w2 ⟨A2, c2, rfl, h, kb⟩
  have K2 := Lib.hid kb
  have H2 := Lib.hid h
  clear h
  clear kb
  go_wp2_with fail
  refine (rank_c (Lw1.out.bel K2.out) H2.out (by decide) (by decide) [1] 1 (by decide +kernel) rfl).mono ?_
  rintro e w3 ⟨A3, c3, rfl, h, kb⟩
  have K3 := Lib.hid kb
  have H3 := Lib.hid h
  clear h
  clear kb
  obtain ⟨w4, hw4⟩ : ∃ W, w3.alloc (.cells #[.int .i64 1] 3) = W := ⟨_, rfl⟩
  obtain ⟨gw4, hgw4⟩ : ∃ g, w3.heap.size = g := ⟨_, rfl⟩
  have K4 := Lib.hid (show Bel w3 w4 by rw [← hw4]; exact (Bel.refl _).alloc _)
  have Lw4 := Lib.hid (show Rw.RS iR w4 (some ⟨gw4, 0, none⟩) 1 1 [1] by rw [← hw4, ← hgw4]; exact lit_i w3 [1] 1 rfl)
  go_wp2_with fail
  refine (same_ic (H3.out.bel K4.out) Lw4.out (by decide) (by decide) rfl).mono ?_
  rintro e w5 ⟨rfl, kb⟩
  have K5 := Lib.hid kb
  clear kb
  obtain ⟨w6, hw6⟩ : ∃ W, w5.alloc (.cells #[.int .u64 5] 36) = W := ⟨_, rfl⟩
  obtain ⟨gw6, hgw6⟩ : ∃ g, w5.heap.size = g := ⟨_, rfl⟩
  have K6 := Lib.hid (show Bel w5 w6 by rw [← hw6]; exact (Bel.refl _).alloc _)
  have Lw6 := Lib.hid (show Rw.RS uR w6 (some ⟨gw6, 0, none⟩) 1 1 [5] by rw [← hw6, ← hgw6]; exact lit_u w5 [5] 1 rfl)
  go_wp2_with fail
  refine (rank_c Lw6.out Rw.RS.nil_ (by decide) (by decide) [] 0 (by decide +kernel) rfl).mono ?_
  rintro e w7 ⟨A7, c7, rfl, h, kb⟩
  have K7 := Lib.hid kb
  have H7 := Lib.hid h
  clear h
  clear kb
  obtain ⟨w8, hw8⟩ : ∃ W, w7.alloc (.cells #[.int .u64 5, .int .u64 9] 36) = W := ⟨_, rfl⟩
  obtain ⟨gw8, hgw8⟩ : ∃ g, w7.heap.size = g := ⟨_, rfl⟩
  have K8 := Lib.hid (show Bel w7 w8 by rw [← hw8]; exact (Bel.refl _).alloc _)
  have Lw8 := Lib.hid (show Rw.RS uR w8 (some ⟨gw8, 0, none⟩) 2 2 [5, 9] by rw [← hw8, ← hgw8]; exact lit_u w7 [5, 9] 2 rfl)
  go_wp2_with fail
  refine (bools_c _ [true, true] 2 (by first | rfl | decide +kernel) (by first | decide | decide +kernel) rfl _).mono ?_
  rintro e w9 ⟨A9, c9, rfl, h, kb⟩
  have K9 := Lib.hid kb
  have H9 := Lib.hid h
  clear h
  clear kb
  go_wp2_with fail
  refine (choose_c (Lw8.out.bel K9.out) H9.out (by decide) (by decide) 0 (by decide) (by decide) [false, false] 2 (by decide +kernel) rfl).mono ?_
  rintro e w10 ⟨A10, c10, rfl, h, kb⟩
  have K10 := Lib.hid kb
  have H10 := Lib.hid h
  clear h
  clear kb
  go_wp2_with fail
  refine (bools_c _ [false, false] 2 (by first | rfl | decide +kernel) (by first | decide | decide +kernel) rfl _).mono ?_
  rintro e w11 ⟨A11, c11, rfl, h, kb⟩
  have K11 := Lib.hid kb
  have H11 := Lib.hid h
  clear h
  clear kb
  go_wp2_with fail
  refine (same_bc (H10.out.bel K11.out) H11.out (by decide) (by decide) rfl).mono ?_
  rintro e w12 ⟨rfl, kb⟩
  have K12 := Lib.hid kb
  clear kb
  go_wp2_with fail
  refine (bools_c _ [true] 1 (by first | rfl | decide +kernel) (by first | decide | decide +kernel) rfl _).mono ?_
  rintro e w13 ⟨A13, c13, rfl, h, kb⟩
  have K13 := Lib.hid kb
  have H13 := Lib.hid h
  clear h
  clear kb
  go_wp2_with fail
  refine (choose_c Rw.RS.nil_ H13.out (by decide) (by decide) 1 (by decide) (by decide) [false] 1 (by decide +kernel) rfl).mono ?_
  rintro e w14 ⟨A14, c14, rfl, h, kb⟩
  have K14 := Lib.hid kb
  have H14 := Lib.hid h
  clear h
  clear kb
  go_wp2_with fail
  refine (bools_c _ [false] 1 (by first | rfl | decide +kernel) (by first | decide | decide +kernel) rfl _).mono ?_
  rintro e w15 ⟨A15, c15, rfl, h, kb⟩
  have K15 := Lib.hid kb
  have H15 := Lib.hid h
  clear h
  clear kb
  go_wp2_with fail
  refine (same_bc (H14.out.bel K15.out) H15.out (by decide) (by decide) rfl).mono ?_
  rintro e w16 ⟨rfl, kb⟩
  have K16 := Lib.hid kb
  clear kb
  go_wp2_with fail
  refine (bools_c _ [true, true] 2 (by first | rfl | decide +kernel) (by first | decide | decide +kernel) rfl _).mono ?_
  rintro e w17 ⟨A17, c17, rfl, h, kb⟩
  have K17 := Lib.hid kb
  have H17 := Lib.hid h
  clear h
  clear kb
  go_wp2_with fail
  refine (bools_c _ [false, true, true] 3 (by first | rfl | decide +kernel) (by first | decide | decide +kernel) rfl _).mono ?_
  rintro e w18 ⟨A18, c18, rfl, h, kb⟩
  have K18 := Lib.hid kb
  have H18 := Lib.hid h
  clear h
  clear kb
  go_wp2_with fail
  refine (diff_c (H17.out.bel K18.out) H18.out (by decide) (by decide) [2] [0] 1 1 (by decide +kernel) (by decide +kernel) rfl rfl).mono ?_
  rintro e w19 ⟨A19, c19, B19, d19, rfl, h, h2, kb⟩
  have K19 := Lib.hid kb
  have H19 := Lib.hid h
  have J19 := Lib.hid h2
  clear h h2
  clear kb
  go_wp2_with fail
  refine (diff_c Rw.RS.nil_ Rw.RS.nil_ (by decide) (by decide) [] [] 0 0 (by decide +kernel) (by decide +kernel) rfl rfl).mono ?_
  rintro e w20 ⟨A20, c20, B20, d20, rfl, h, h2, kb⟩
  have K20 := Lib.hid kb
  have H20 := Lib.hid h
  have J20 := Lib.hid h2
  clear h h2
  clear kb
  obtain ⟨w21, hw21⟩ : ∃ W, w20.alloc (.cells #[.int .i64 2] 3) = W := ⟨_, rfl⟩
  obtain ⟨gw21, hgw21⟩ : ∃ g, w20.heap.size = g := ⟨_, rfl⟩
  have K21 := Lib.hid (show Bel w20 w21 by rw [← hw21]; exact (Bel.refl _).alloc _)
  have Lw21 := Lib.hid (show Rw.RS iR w21 (some ⟨gw21, 0, none⟩) 1 1 [2] by rw [← hw21, ← hgw21]; exact lit_i w20 [2] 1 rfl)
  go_wp2_with fail
  refine (same_ic ((H19.out.bel K20.out).bel K21.out) Lw21.out (by decide) (by decide) rfl).mono ?_
  rintro e w22 ⟨rfl, kb⟩
  have K22 := Lib.hid kb
  clear kb
  obtain ⟨w23, hw23⟩ : ∃ W, w22.alloc (.cells #[.int .i64 0] 3) = W := ⟨_, rfl⟩
  obtain ⟨gw23, hgw23⟩ : ∃ g, w22.heap.size = g := ⟨_, rfl⟩
  have K23 := Lib.hid (show Bel w22 w23 by rw [← hw23]; exact (Bel.refl _).alloc _)
  have Lw23 := Lib.hid (show Rw.RS iR w23 (some ⟨gw23, 0, none⟩) 1 1 [0] by rw [← hw23, ← hgw23]; exact lit_i w22 [0] 1 rfl)
  go_wp2_with fail
  refine (same_ic ((((J19.out.bel K20.out).bel K21.out).bel K22.out).bel K23.out) Lw23.out (by decide) (by decide) rfl).mono ?_
  rintro e w24 ⟨rfl, kb⟩
  have K24 := Lib.hid kb
  clear kb
  obtain ⟨w25, hw25⟩ : ∃ W, w24.alloc (.cells #[.int .u64 5, .int .u64 9, .int .u64 3] 36) = W := ⟨_, rfl⟩
  obtain ⟨gw25, hgw25⟩ : ∃ g, w24.heap.size = g := ⟨_, rfl⟩
  have K25 := Lib.hid (show Bel w24 w25 by rw [← hw25]; exact (Bel.refl _).alloc _)
  have Lw25 := Lib.hid (show Rw.RS uR w25 (some ⟨gw25, 0, none⟩) 3 3 [5, 9, 3] by rw [← hw25, ← hgw25]; exact lit_u w24 [5, 9, 3] 3 rfl)
  go_wp2_with fail
  refine (bools_c _ [true, true] 2 (by first | rfl | decide +kernel) (by first | decide | decide +kernel) rfl _).mono ?_
  rintro e w26 ⟨A26, c26, rfl, h, kb⟩
  have K26 := Lib.hid kb
  have H26 := Lib.hid h
  clear h
  clear kb
  go_wp2_with fail
  refine (floor_c (Lw25.out.bel K26.out) H26.out (by decide) (by decide) (wds_of (by decide)) 5 true (by decide +kernel)).mono ?_
  rintro e w27 ⟨rfl, kb⟩
  have K27 := Lib.hid kb
  clear kb
  obtain ⟨w28, hw28⟩ : ∃ W, w27.alloc (.cells #[.int .u64 5] 36) = W := ⟨_, rfl⟩
  obtain ⟨gw28, hgw28⟩ : ∃ g, w27.heap.size = g := ⟨_, rfl⟩
  have K28 := Lib.hid (show Bel w27 w28 by rw [← hw28]; exact (Bel.refl _).alloc _)
  have Lw28 := Lib.hid (show Rw.RS uR w28 (some ⟨gw28, 0, none⟩) 1 1 [5] by rw [← hw28, ← hgw28]; exact lit_u w27 [5] 1 rfl)
  go_wp2_with fail
  refine (bools_c _ [true, true] 2 (by first | rfl | decide +kernel) (by first | decide | decide +kernel) rfl _).mono ?_
  rintro e w29 ⟨A29, c29, rfl, h, kb⟩
  have K29 := Lib.hid kb
  have H29 := Lib.hid h
  clear h
  clear kb
  go_wp2_with fail
  refine (floor_c (Lw28.out.bel K29.out) H29.out (by decide) (by decide) (wds_of (by decide)) 0 true (by decide +kernel)).mono ?_
  rintro e w30 ⟨rfl, kb⟩
  have K30 := Lib.hid kb
  clear kb
  obtain ⟨w31, hw31⟩ : ∃ W, w30.alloc (.cells #[.int .u64 5] 36) = W := ⟨_, rfl⟩
  obtain ⟨gw31, hgw31⟩ : ∃ g, w30.heap.size = g := ⟨_, rfl⟩
  have K31 := Lib.hid (show Bel w30 w31 by rw [← hw31]; exact (Bel.refl _).alloc _)
  have Lw31 := Lib.hid (show Rw.RS uR w31 (some ⟨gw31, 0, none⟩) 1 1 [5] by rw [← hw31, ← hgw31]; exact lit_u w30 [5] 1 rfl)
  go_wp2_with fail
  refine (floor_c Lw31.out Rw.RS.nil_ (by decide) (by decide) (wds_of (by decide)) 0 false (by decide +kernel)).mono ?_
  rintro e w32 ⟨rfl, kb⟩
  have K32 := Lib.hid kb
  clear kb
  obtain ⟨w33, hw33⟩ : ∃ W, w32.alloc (.cells #[.int .u64 18446744073709551615, .int .u64 18446744073709551615] 36) = W := ⟨_, rfl⟩
  obtain ⟨gw33, hgw33⟩ : ∃ g, w32.heap.size = g := ⟨_, rfl⟩
  have K33 := Lib.hid (show Bel w32 w33 by rw [← hw33]; exact (Bel.refl _).alloc _)
  have Lw33 := Lib.hid (show Rw.RS uR w33 (some ⟨gw33, 0, none⟩) 2 2 [18446744073709551615, 18446744073709551615] by rw [← hw33, ← hgw33]; exact lit_u w32 [18446744073709551615, 18446744073709551615] 2 rfl)
  go_wp2_with fail
  refine (bools_c _ [true, true] 2 (by first | rfl | decide +kernel) (by first | decide | decide +kernel) rfl _).mono ?_
  rintro e w34 ⟨A34, c34, rfl, h, kb⟩
  have K34 := Lib.hid kb
  have H34 := Lib.hid h
  clear h
  clear kb
  go_wp2_with fail
  refine (sum_c (Lw33.out.bel K34.out) H34.out (by decide) (by decide) (wds_of (by decide)) 18446744073709551615 (by decide +kernel)).mono ?_
  rintro e w35 ⟨rfl, kb⟩
  have K35 := Lib.hid kb
  clear kb
  go_wp2_with fail
  refine (awake_ _).mono ?_
  rintro e w36 ⟨rfl, kb⟩
  have K36 := Lib.hid kb
  clear kb
  go_wp2_with fail
  refine (quorum_c 0 1 (by decide) (by decide) (by decide +kernel)).mono ?_
  rintro e w37 ⟨rfl, kb⟩
  have K37 := Lib.hid kb
  clear kb
  go_wp2_with fail
  refine (quorum_c 3 3 (by decide) (by decide) (by decide +kernel)).mono ?_
  rintro e w38 ⟨rfl, kb⟩
  have K38 := Lib.hid kb
  clear kb
  go_wp2_with fail
  refine (quorum_c 18446744073709551615 12297829382473034411 (by decide) (by decide) (by decide +kernel)).mono ?_
  rintro e w39 ⟨rfl, kb⟩
  have K39 := Lib.hid kb
  clear kb
  go_wp2_with fail
  go_ret
  exact ⟨rfl, ((((((((((((((((((((((((((((((((((((((K1.out.trans K2.out).trans K3.out).trans K4.out).trans K5.out).trans K6.out).trans K7.out).trans K8.out).trans K9.out).trans K10.out).trans K11.out).trans K12.out).trans K13.out).trans K14.out).trans K15.out).trans K16.out).trans K17.out).trans K18.out).trans K19.out).trans K20.out).trans K21.out).trans K22.out).trans K23.out).trans K24.out).trans K25.out).trans K26.out).trans K27.out).trans K28.out).trans K29.out).trans K30.out).trans K31.out).trans K32.out).trans K33.out).trans K34.out).trans K35.out).trans K36.out).trans K37.out).trans K38.out).trans K39.out)⟩
end Ac
end Go.Proofs.Ytmbodfmdaocppaa
