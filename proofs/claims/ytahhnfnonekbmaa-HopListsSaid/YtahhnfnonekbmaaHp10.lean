/-
  What awake of the laws answers: true. No condition.
-/
import Derived.Test.YtahhnfnonekbmaaHp9
namespace Go.Proofs.Ytahhnfnonekbmaa
open Go.RowKit Go.Shelf
set_option linter.unusedVariables false
set_option linter.unusedSimpArgs false
namespace Hp
open Kk Pm

theorem w3c (l : List R4) (h : (l.all fun r => decide (-1000 ≤ r.1 ∧ r.1 ≤ 1000 ∧ -1000 ≤ r.2.1 ∧ r.2.1 ≤ 1000 ∧ -1000 ≤ r.2.2.1 ∧ r.2.2.1 ≤ 1000)) = true) : ∀ r ∈ l, W3 r := fun r hr => by
  have := of_decide_eq_true (List.all_eq_true.1 h r hr)
  obtain ⟨a, b, c, d⟩ := r
  simp only at this
  unfold W3 I64
  omega
set_option maxRecDepth 100000 in
set_option maxHeartbeats 4000000 in
theorem awake (w : World) : Calls Try.prog 9 #[] w fun e w' => e = .returned (.bool true) ∧ Bel w w' := by
  have K0 := Lib.hid (Bel.refl w)
  go_enter Try.func9, Try.ntmps9
  go_wp2_with fail
  refine (one 0 1 2 5 _).mono ?_
  rintro e w1 ⟨rfl, kb⟩
  have K1 := Lib.hid (K0.out.trans kb)
  clear kb
  go_wp2_with fail
  refine (one 1 1 2 6 _).mono ?_
  rintro e w2 ⟨rfl, kb⟩
  have K2 := Lib.hid (K1.out.trans kb)
  clear kb
  have B_ := Lib.hid (Blk.new w2 #[.int .i64 0, .int .i64 1, .int .i64 2, .int .i64 5, .int .i64 1, .int .i64 1, .int .i64 2, .int .i64 6] 24)
  have BW_ := (Bel.refl w2).alloc (.cells #[.int .i64 0, .int .i64 1, .int .i64 2, .int .i64 5, .int .i64 1, .int .i64 1, .int .i64 2, .int .i64 6] 24)
  go_wp2_with fail
  refine (list_ _ _).mono ?_
  rintro e w0_ ⟨rfl, rfl⟩
  obtain ⟨w3, hW_⟩ : ∃ W, World.alloc w2 (.cells #[.int .i64 0, .int .i64 1, .int .i64 2, .int .i64 5, .int .i64 1, .int .i64 1, .int .i64 2, .int .i64 6] 24) = W := ⟨_, rfl⟩
  obtain ⟨ga, hg_⟩ : ∃ g, (World.heap w2).size = g := ⟨_, rfl⟩
  rw [hW_] at B_ BW_ ⊢
  rw [hg_] at B_ ⊢
  have K3 := Lib.hid (K2.out.trans BW_)
  have Ra := Lib.hid (show Rw.RS hR w3 (some ⟨ga, 0, none⟩) 2 2 [(0, 1, 2, 5), (1, 1, 2, 6)] from Rw.rs_blk hR B_.out rfl (Nat.le_refl _) rfl)
  clear hW_ hg_ BW_ B_
  go_wp2_with fail
  refine (one 0 1 2 5 _).mono ?_
  rintro e w4 ⟨rfl, kb⟩
  have K4 := Lib.hid (K3.out.trans kb)
  have Ra := Lib.hid (Ra.out.bel kb)
  clear kb
  have B_ := Lib.hid (Blk.new w4 #[.int .i64 0, .int .i64 1, .int .i64 2, .int .i64 5] 24)
  have BW_ := (Bel.refl w4).alloc (.cells #[.int .i64 0, .int .i64 1, .int .i64 2, .int .i64 5] 24)
  go_wp2_with fail
  refine (list_ _ _).mono ?_
  rintro e w0_ ⟨rfl, rfl⟩
  obtain ⟨w5, hW_⟩ : ∃ W, World.alloc w4 (.cells #[.int .i64 0, .int .i64 1, .int .i64 2, .int .i64 5] 24) = W := ⟨_, rfl⟩
  obtain ⟨gb, hg_⟩ : ∃ g, (World.heap w4).size = g := ⟨_, rfl⟩
  rw [hW_] at B_ BW_ ⊢
  rw [hg_] at B_ ⊢
  have K5 := Lib.hid (K4.out.trans BW_)
  have Rb := Lib.hid (show Rw.RS hR w5 (some ⟨gb, 0, none⟩) 1 1 [(0, 1, 2, 5)] from Rw.rs_blk hR B_.out rfl (Nat.le_refl _) rfl)
  have Ra := Lib.hid (Ra.out.bel BW_)
  clear hW_ hg_ BW_ B_
  go_wp2_with fail
  refine (one 0 1 3 5 _).mono ?_
  rintro e w6 ⟨rfl, kb⟩
  have K6 := Lib.hid (K5.out.trans kb)
  have Ra := Lib.hid (Ra.out.bel kb)
  have Rb := Lib.hid (Rb.out.bel kb)
  clear kb
  have e_ : addE [(0, 1, 2, 5)] (0, 1, 3, 5) 1 = 0 := by decide
  have e2_ : addL [(0, 1, 2, 5)] (0, 1, 3, 5) 1 = [(0, 1, 2, 5), (0, 1, 3, 5)] := by decide
  go_wp2_with fail
  refine (add _ 1 1 [(0, 1, 2, 5)] 0 1 3 5 1 _ Rb.out (by decide) (w3c _ (by decide))).mono ?_
  rintro e w7 ⟨vm, rfl, hm, kb⟩
  have K7 := Lib.hid (K6.out.trans kb)
  have Ra := Lib.hid (Ra.out.bel kb)
  have Rb := Lib.hid (Rb.out.bel kb)
  rw [e2_] at hm
  rw [e_]
  obtain ⟨Am, cm, rfl, hrm, _⟩ := Rw.OwnR.rs hR hm
  have Rm := Lib.hid (show Rw.RS hR _ Am 2 cm [(0, 1, 2, 5), (0, 1, 3, 5)] from hrm)
  clear hm hrm e_ e2_
  clear kb
  go_wp2_with fail
  refine (next _ 2 2 [(0, 1, 2, 5), (1, 1, 2, 6)] 10 _ Ra.out (by decide)).mono ?_
  rintro e w8 ⟨rfl, kb⟩
  have K8 := Lib.hid (K7.out.trans kb)
  have Ra := Lib.hid (Ra.out.bel kb)
  have Rb := Lib.hid (Rb.out.bel kb)
  have Rm := Lib.hid (Rm.out.bel kb)
  rw [show nxt [(0, 1, 2, 5), (1, 1, 2, 6)] 10 = (15, true) by decide]
  clear kb
  go_wp2_with fail
  refine (checks _ 2 2 [(0, 1, 2, 5), (1, 1, 2, 6)] 0 0 _ Ra.out (by decide)).mono ?_
  rintro e w9 ⟨rfl, kb⟩
  have K9 := Lib.hid (K8.out.trans kb)
  have Ra := Lib.hid (Ra.out.bel kb)
  have Rb := Lib.hid (Rb.out.bel kb)
  have Rm := Lib.hid (Rm.out.bel kb)
  rw [show ((0 : Int) == (chk [(0, 1, 2, 5), (1, 1, 2, 6)]).1 && (((chk [(0, 1, 2, 5), (1, 1, 2, 6)]).2 : Int) == 0)) = true by decide]
  clear kb
  go_wp2_with fail
  refine (one 0 1 2 5 _).mono ?_
  rintro e w10 ⟨rfl, kb⟩
  have K10 := Lib.hid (K9.out.trans kb)
  have Ra := Lib.hid (Ra.out.bel kb)
  have Rb := Lib.hid (Rb.out.bel kb)
  have Rm := Lib.hid (Rm.out.bel kb)
  clear kb
  go_wp2_with fail
  refine (one 0 1 3 5 _).mono ?_
  rintro e w11 ⟨rfl, kb⟩
  have K11 := Lib.hid (K10.out.trans kb)
  have Ra := Lib.hid (Ra.out.bel kb)
  have Rb := Lib.hid (Rb.out.bel kb)
  have Rm := Lib.hid (Rm.out.bel kb)
  clear kb
  have B_ := Lib.hid (Blk.new w11 #[.int .i64 0, .int .i64 1, .int .i64 2, .int .i64 5, .int .i64 0, .int .i64 1, .int .i64 3, .int .i64 5] 24)
  have BW_ := (Bel.refl w11).alloc (.cells #[.int .i64 0, .int .i64 1, .int .i64 2, .int .i64 5, .int .i64 0, .int .i64 1, .int .i64 3, .int .i64 5] 24)
  go_wp2_with fail
  refine (list_ _ _).mono ?_
  rintro e w0_ ⟨rfl, rfl⟩
  obtain ⟨w12, hW_⟩ : ∃ W, World.alloc w11 (.cells #[.int .i64 0, .int .i64 1, .int .i64 2, .int .i64 5, .int .i64 0, .int .i64 1, .int .i64 3, .int .i64 5] 24) = W := ⟨_, rfl⟩
  obtain ⟨gd, hg_⟩ : ∃ g, (World.heap w11).size = g := ⟨_, rfl⟩
  rw [hW_] at B_ BW_ ⊢
  rw [hg_] at B_ ⊢
  have K12 := Lib.hid (K11.out.trans BW_)
  have Rd := Lib.hid (show Rw.RS hR w12 (some ⟨gd, 0, none⟩) 2 2 [(0, 1, 2, 5), (0, 1, 3, 5)] from Rw.rs_blk hR B_.out rfl (Nat.le_refl _) rfl)
  have Ra := Lib.hid (Ra.out.bel BW_)
  have Rb := Lib.hid (Rb.out.bel BW_)
  have Rm := Lib.hid (Rm.out.bel BW_)
  clear hW_ hg_ BW_ B_
  go_wp2_with fail
  refine (same_hops Am _ 2 cm 2 2 [(0, 1, 2, 5), (0, 1, 3, 5)] [(0, 1, 2, 5), (0, 1, 3, 5)] _ Rm.out Rd.out (by decide) (by decide)).mono ?_
  rintro e w13 ⟨rfl, kb⟩
  have K13 := Lib.hid (K12.out.trans kb)
  have Ra := Lib.hid (Ra.out.bel kb)
  have Rb := Lib.hid (Rb.out.bel kb)
  have Rm := Lib.hid (Rm.out.bel kb)
  have Rd := Lib.hid (Rd.out.bel kb)
  rw [decide_eq_true (rfl : ([(0, 1, 2, 5), (0, 1, 3, 5)] : List R4) = [(0, 1, 2, 5), (0, 1, 3, 5)])]
  clear kb
  go_wp2_with fail
  refine (one 0 1 2 5 _).mono ?_
  rintro e w14 ⟨rfl, kb⟩
  have K14 := Lib.hid (K13.out.trans kb)
  have Ra := Lib.hid (Ra.out.bel kb)
  have Rb := Lib.hid (Rb.out.bel kb)
  have Rm := Lib.hid (Rm.out.bel kb)
  have Rd := Lib.hid (Rd.out.bel kb)
  clear kb
  go_wp2_with fail
  refine (adds Am 2 cm [(0, 1, 2, 5), (0, 1, 3, 5)] 0 1 2 5 1 _ Rm.out (by decide) (w3c _ (by decide))).mono ?_
  rintro e w15 ⟨rfl, kb⟩
  have K15 := Lib.hid (K14.out.trans kb)
  have Ra := Lib.hid (Ra.out.bel kb)
  have Rb := Lib.hid (Rb.out.bel kb)
  have Rm := Lib.hid (Rm.out.bel kb)
  have Rd := Lib.hid (Rd.out.bel kb)
  rw [show addE [(0, 1, 2, 5), (0, 1, 3, 5)] (0, 1, 2, 5) 1 = 22 by decide]
  clear kb
  go_wp2_with fail
  refine (ripes _ 2 2 [(0, 1, 2, 5), (1, 1, 2, 6)] 15 10 1 _ Ra.out (by decide) (by decide)).mono ?_
  rintro e w16 ⟨rfl, kb⟩
  have K16 := Lib.hid (K15.out.trans kb)
  have Ra := Lib.hid (Ra.out.bel kb)
  have Rb := Lib.hid (Rb.out.bel kb)
  have Rm := Lib.hid (Rm.out.bel kb)
  have Rd := Lib.hid (Rd.out.bel kb)
  rw [show (decide (ripE [(0, 1, 2, 5), (1, 1, 2, 6)] 15 10 = 0) && decide (ripL [(0, 1, 2, 5), (1, 1, 2, 6)] 15 10 = List.take 1 [(0, 1, 2, 5), (1, 1, 2, 6)]) && decide (lftL [(0, 1, 2, 5), (1, 1, 2, 6)] 15 10 = List.drop 1 [(0, 1, 2, 5), (1, 1, 2, 6)])) = true by decide]
  clear kb
  go_wp2_with fail
  refine (ripes _ 2 2 [(0, 1, 2, 5), (1, 1, 2, 6)] 14 10 0 _ Ra.out (by decide) (by decide)).mono ?_
  rintro e w17 ⟨rfl, kb⟩
  have K17 := Lib.hid (K16.out.trans kb)
  have Ra := Lib.hid (Ra.out.bel kb)
  have Rb := Lib.hid (Rb.out.bel kb)
  have Rm := Lib.hid (Rm.out.bel kb)
  have Rd := Lib.hid (Rd.out.bel kb)
  rw [show (decide (ripE [(0, 1, 2, 5), (1, 1, 2, 6)] 14 10 = 0) && decide (ripL [(0, 1, 2, 5), (1, 1, 2, 6)] 14 10 = List.take 0 [(0, 1, 2, 5), (1, 1, 2, 6)]) && decide (lftL [(0, 1, 2, 5), (1, 1, 2, 6)] 14 10 = List.drop 0 [(0, 1, 2, 5), (1, 1, 2, 6)])) = true by decide]
  clear kb
  go_wp2_with fail
  go_ret
  exact ⟨rfl, K17.out⟩
end Hp
end Go.Proofs.Ytahhnfnonekbmaa
