/-
  Texts of this claim, put together: Hp9, Hp10. What each one says, and under which conditions, stands ahead of it.
-/
import Derived.Test.YtahhnfnonekbmaaQD

section
/-
  What one, list, checks, adds, ripes and awake of the laws answer. Conditions: at most a million hops.
-/
namespace Go.Proofs.Ytahhnfnonekbmaa
open Go.RowKit Go.Shelf
set_option linter.unusedVariables false
set_option linter.unusedSimpArgs false
namespace Hp
open Kk Pm

set_option maxHeartbeats 1000000 in
theorem one (x1 x2 x3 x4 : Int) (w : World) : Calls Try.prog 34 #[.int .i64 x1, .int .i64 x2, .int .i64 x3, .int .i64 x4] w fun e w' => e = .returned (.agg #[.int .i64 x1, .int .i64 x2, .int .i64 x3, .int .i64 x4]) ∧ Bel w w' := by
  have P0 := Lib.hid (Blk.new w #[.int .i64 0, .int .i64 0, .int .i64 0, .int .i64 0] 24)
  obtain ⟨W, hW⟩ : ∃ W, w.alloc (.cells #[.int .i64 0, .int .i64 0, .int .i64 0, .int .i64 0] 24) = W := ⟨_, rfl⟩
  have BW := Lib.hid (show Bel w W by rw [← hW]; exact (Bel.refl w).alloc _)
  rw [hW] at P0
  have HW := Lib.hid hW
  clear hW
  go_enter Try.func34, Try.ntmps34
  go_upto_region 1 with fail
  rw [HW.out]
  have HGE := Lib.hid (Nat.le_refl w.heap.size)
  obtain ⟨g, hg⟩ : ∃ g, w.heap.size = g := ⟨_, rfl⟩
  rw [hg] at P0 ⊢
  have HG := Lib.hid hg
  clear hg
  have c0 := P0.out.cell 0 rfl
  have c1 := P0.out.cell 1 rfl
  have c2 := P0.out.cell 2 rfl
  have c3 := P0.out.cell 3 rfl
  have f0 := P0.out.frozen 0
  have f1 := P0.out.frozen 1
  have f2 := P0.out.frozen 2
  have f3 := P0.out.frozen 3
  go_wp2_with fail
  refine bodyPost_ret (res_c rfl _ _ ⟨g, 0, none⟩ _ rfl (load_h (x1 := x1) (x2 := x2) (x3 := x3) (x4 := x4) ((((P0.out.set 0 _).set 1 _).set 2 _).set 3 _))) rfl ⟨rfl, ?_⟩
  have h : w.heap.size ≤ g := by rw [HG.out]; exact Nat.le_refl _
  exact (((BW.out.set h _).set h _).set h _).set h _
theorem list_ (v : Value) (w : World) : Calls Try.prog 33 #[v] w fun e w' => e = .returned v ∧ w = w' := by
  go_enter Try.func33, Try.ntmps33
  go_wp2
  go_ret
  exact ⟨rfl, rfl⟩
set_option maxHeartbeats 1000000 in
theorem checks (A : Option Addr) (n c : Nat) (l : List R4) (E k : Int) (w : World) (hi : Rw.RS hR w A n c l) (hn : n ≤ 1000000) :
    Calls Try.prog 32 #[.slice A n c, .int .i64 E, .int .i64 k] w fun e w' => e = .returned (.bool ((E == (chk l).1) && (((chk l).2 : Int) == k))) ∧ Bel w w' := by
  have CK := Lib.hid (check A n c l w hi (by omega))
  obtain ⟨e1, he1⟩ : ∃ e, (chk l).1 = e := ⟨_, rfl⟩
  obtain ⟨e2, he2⟩ : ∃ e, (chk l).2 = e := ⟨_, rfl⟩
  rw [he1, he2] at CK
  rw [he1, he2]
  clear hi he1 he2
  go_enter Try.func32, Try.ntmps32
  go_wp2_with fail
  refine CK.out.mono ?_
  rintro e w1 ⟨rfl, kb⟩
  have K1 := Lib.hid kb
  clear kb CK
  cases h1 : (E == e1)
  · go_wp2_with fail
    go_ret
    exact ⟨by rw [h1]; rfl, K1.out⟩
  · go_wp2_with fail
    go_ret
    exact ⟨by rw [h1]; rfl, K1.out⟩
set_option maxHeartbeats 1000000 in
theorem adds (A : Option Addr) (n c : Nat) (l : List R4) (x1 x2 x3 x4 m : Int) (w : World) (hi : Rw.RS hR w A n c l) (hn : n ≤ 1000000) (h3 : ∀ r ∈ l, W3 r) :
    Calls Try.prog 35 #[.slice A n c, .agg #[.int .i64 x1, .int .i64 x2, .int .i64 x3, .int .i64 x4], .int .i64 m] w fun e w' => e = .returned (.int .i64 (addE l (x1, x2, x3, x4) m)) ∧ Bel w w' := by
  have P0 := Lib.hid (Blk.new w #[.int .i64 x1, .int .i64 x2, .int .i64 x3, .int .i64 x4] 24)
  obtain ⟨W, hW⟩ : ∃ W, w.alloc (.cells #[.int .i64 x1, .int .i64 x2, .int .i64 x3, .int .i64 x4] 24) = W := ⟨_, rfl⟩
  have BW := Lib.hid (show Bel w W by rw [← hW]; exact (Bel.refl w).alloc _)
  rw [hW] at P0
  have AD := Lib.hid (add A n c l x1 x2 x3 x4 m W (hi.bel BW.out) hn h3)
  obtain ⟨e, he⟩ : ∃ e, addE l (x1, x2, x3, x4) m = e := ⟨_, rfl⟩
  have HE := Lib.hid he
  rw [he]
  have HW := Lib.hid hW
  clear hi he h3 hW
  go_enter Try.func35, Try.ntmps35
  go_upto_region 1 with fail
  rw [HW.out]
  have c0 := P0.out.cell 0 rfl
  have c1 := P0.out.cell 1 rfl
  have c2 := P0.out.cell 2 rfl
  have c3 := P0.out.cell 3 rfl
  go_wp2_with fail
  refine AD.out.mono ?_
  rintro r w1 ⟨v, rfl, _, kb⟩
  have K1 := Lib.hid (BW.out.trans kb)
  rw [HE.out]
  clear kb AD c0 c1 c2 c3
  go_wp2_with fail
  go_ret
  exact ⟨rfl, K1.out⟩
theorem slice_hi (A : Option Addr) (n c k : Nat) (h : k ≤ c) (w : World) : (Instr.slice 22 (.slice A n c) none (some (.int .i64 k)) none).run Try.prog w = .ok (.slice A k c) w := by
  rw [run_slice_h (P := Try.prog) (w := w) (t := 22) (a := A) (len := n) (cap := c) (by rw [elemH]; exact underH) .i64 k (by omega) (by omega), elemH]
  cases A <;> simp [sizeH, Result.andThen, sliced, Addr.add]
theorem slice_lo (A : Option Addr) (n c k : Nat) (h : k ≤ n) (hc : n ≤ c) (w : World) : (Instr.slice 22 (.slice A n c) (some (.int .i64 k)) none none).run Try.prog w = .ok (.slice (if c = k then A else A.map (·.add (k * 4))) (n - k) (c - k)) w := by
  rw [run_slice_l (P := Try.prog) (w := w) (t := 22) (a := A) (len := n) (cap := c) (by rw [elemH]; exact underH) .i64 k (by omega) (by omega), elemH]
  simp only [sizeH, Result.andThen, sliced, Int.toNat_natCast]
theorem rs_low {w : World} {A : Option Addr} {n c k : Nat} {l : List R4} (h : Rw.RS hR w A n c l) (hk : k ≤ n) : Rw.RS hR w (if c = k then A else A.map (·.add (k * 4))) (n - k) (c - k) (l.drop k) := by
  have hc := h.cap
  by_cases he : c = k
  · rw [if_pos he]
    have : n - k = 0 := by omega
    exact ⟨by rw [List.length_drop, h.len], by omega, fun h' => by have := h.nil h'; omega, fun h0 => by omega⟩
  · rw [if_neg he]
    have := h.drop hk
    exact this
set_option maxRecDepth 10000 in
set_option maxHeartbeats 4000000 in
theorem ripes (A : Option Addr) (n c : Nat) (l : List R4) (h u : Int) (k : Nat) (w : World) (hi : Rw.RS hR w A n c l) (hn : n ≤ 1000000) (hk : k ≤ n) :
    Calls Try.prog 38 #[.slice A n c, .int .i64 h, .int .i64 u, .int .i64 k] w fun e w' => e = .returned (.bool (decide (ripE l h u = 0) && decide (ripL l h u = l.take k) && decide (lftL l h u = l.drop k))) ∧ Bel w w' := by
  have HI := Lib.hid hi
  have HLN := Lib.hid hi.len
  have RP := Lib.hid (ripe A n c l h u w hi hn)
  have hc := hi.cap
  have s1 := fun V => slice_hi A n c k (by omega) V
  have s2 := fun V => slice_lo A n c k hk hc V
  obtain ⟨B, hB⟩ : ∃ B, (if c = k then A else A.map (·.add (k * 4))) = B := ⟨_, rfl⟩
  have HLO := Lib.hid (fun V (hv : Bel w V) => by have := rs_low (hi.bel hv) hk; rw [hB] at this; exact this)
  rw [hB] at s2
  have hk3 : (k : Int) ≤ n := by omega
  clear hi hB
  obtain ⟨E, hE⟩ : ∃ E, ripE l h u = E := ⟨_, rfl⟩
  have HE := Lib.hid hE
  rw [hE]
  clear hE
  go_enter Try.func38, Try.ntmps38
  go_wp2_with fail
  refine RP.out.mono ?_
  rintro e w1 ⟨A1, n1, c1, A2, n2, c2, rfl, hv, kb⟩
  rw [HE.out]
  have K1 := Lib.hid kb
  have HV := Lib.hid hv
  clear hv kb RP
  by_cases h0 : E = 0
  · subst h0
    have hl1 : n1 ≤ 1000000 := by
      have := HV.out.r1.len
      rw [show ripL l h u = rip l (h - u) from if_pos HE.out] at this
      have h2 : (rip l (h - u)).length ≤ l.length := List.length_filter_le _ _
      have := HLN.out
      omega
    have hl2 : n2 ≤ 1000000 := by
      have := HV.out.r2.len
      rw [show lftL l h u = lft l (h - u) from if_pos HE.out] at this
      have h2 : (lft l (h - u)).length ≤ l.length := List.length_filter_le _ _
      have := HLN.out
      omega
    have S1 := Lib.hid (same_hops A1 A n1 c1 k c (ripL l h u) (l.take k) w1 HV.out.r1 ((HI.out.bel K1.out).part hk) (by omega) (by omega))
    have S2 := Lib.hid (fun V (hv : Bel w1 V) => same_hops A2 B n2 c2 (n - k) (c - k) (lftL l h u) (l.drop k) V (HV.out.r2.bel hv) (HLO.out V (K1.out.trans hv)) (by omega) (by omega))
    obtain ⟨y1, hy1⟩ : ∃ y, decide (ripL l h u = l.take k) = y := ⟨_, rfl⟩
    obtain ⟨y2, hy2⟩ : ∃ y, decide (lftL l h u = l.drop k) = y := ⟨_, rfl⟩
    rw [hy1] at S1
    rw [hy2] at S2
    have HY := Lib.hid (⟨hy1, hy2⟩ : _ ∧ _)
    clear hy1 hy2
    go_wp2_with fail
    refine S1.out.mono ?_
    rintro e w2 ⟨rfl, kb⟩
    have K2 := Lib.hid (K1.out.trans kb)
    have SS := Lib.hid (S2.out w2 kb)
    clear kb S1 S2
    cases y1
    · go_wp2_with fail
      go_ret
      exact ⟨by rw [HY.out.1]; simp, K2.out⟩
    · go_wp2_with fail
      refine SS.out.mono ?_
      rintro e w3 ⟨rfl, kb⟩
      have K3 := Lib.hid (K2.out.trans kb)
      clear kb SS
      go_wp2_with fail
      go_ret
      exact ⟨by rw [HY.out.1, HY.out.2]; simp, K3.out⟩
  · have hne : (E == 0) = false := beq_eq_false_iff_ne.2 h0
    have HD := Lib.hid (decide_eq_false h0)
    clear h0
    go_wp2_with fail
    go_ret
    exact ⟨by rw [HD.out]; rfl, K1.out⟩
end Hp
end Go.Proofs.Ytahhnfnonekbmaa
end

section
/-
  What awake of the laws answers: true. No condition.
-/
namespace Go.Proofs.Ytahhnfnonekbmaa
open Go.RowKit Go.Shelf
set_option linter.unusedVariables false
set_option linter.unusedSimpArgs false
namespace Hp
open Kk Pm

theorem w3c (l : List R4) (h : (l.all fun r => decide (-1000 ≤ r.1 ∧ r.1 ≤ 1000 ∧ -1000 ≤ r.2.1 ∧ r.2.1 ≤ 1000 ∧ -1000 ≤ r.2.2.1 ∧ r.2.2.1 ≤ 1000)) = true) : ∀ r ∈ l, W3 r := fun r hr => by
  have := of_decide_eq_true (List.all_eq_true.1 h r hr)
  obtain ⟨a, b, c, d⟩ := r
  simp only at this
  unfold W3 I64
  omega
set_option maxRecDepth 100000 in
set_option maxHeartbeats 4000000 in
theorem awake (w : World) : Calls Try.prog 9 #[] w fun e w' => e = .returned (.bool true) ∧ Bel w w' := by
  have K0 := Lib.hid (Bel.refl w)
  go_enter Try.func9, Try.ntmps9
  go_wp2_with fail
  refine (one 0 1 2 5 _).mono ?_
  rintro e w1 ⟨rfl, kb⟩
  have K1 := Lib.hid (K0.out.trans kb)
  clear kb
  go_wp2_with fail
  refine (one 1 1 2 6 _).mono ?_
  rintro e w2 ⟨rfl, kb⟩
  have K2 := Lib.hid (K1.out.trans kb)
  clear kb
  have B_ := Lib.hid (Blk.new w2 #[.int .i64 0, .int .i64 1, .int .i64 2, .int .i64 5, .int .i64 1, .int .i64 1, .int .i64 2, .int .i64 6] 24)
  have BW_ := (Bel.refl w2).alloc (.cells #[.int .i64 0, .int .i64 1, .int .i64 2, .int .i64 5, .int .i64 1, .int .i64 1, .int .i64 2, .int .i64 6] 24)
  go_wp2_with fail
  refine (list_ _ _).mono ?_
  rintro e w0_ ⟨rfl, rfl⟩
  obtain ⟨w3, hW_⟩ : ∃ W, World.alloc w2 (.cells #[.int .i64 0, .int .i64 1, .int .i64 2, .int .i64 5, .int .i64 1, .int .i64 1, .int .i64 2, .int .i64 6] 24) = W := ⟨_, rfl⟩
  obtain ⟨ga, hg_⟩ : ∃ g, (World.heap w2).size = g := ⟨_, rfl⟩
  rw [hW_] at B_ BW_ ⊢
  rw [hg_] at B_ ⊢
  have K3 := Lib.hid (K2.out.trans BW_)
  have Ra := Lib.hid (show Rw.RS hR w3 (some ⟨ga, 0, none⟩) 2 2 [(0, 1, 2, 5), (1, 1, 2, 6)] from Rw.rs_blk hR B_.out rfl (Nat.le_refl _) rfl)
  clear hW_ hg_ BW_ B_
  go_wp2_with fail
  refine (one 0 1 2 5 _).mono ?_
  rintro e w4 ⟨rfl, kb⟩
  have K4 := Lib.hid (K3.out.trans kb)
  have Ra := Lib.hid (Ra.out.bel kb)
  clear kb
  have B_ := Lib.hid (Blk.new w4 #[.int .i64 0, .int .i64 1, .int .i64 2, .int .i64 5] 24)
  have BW_ := (Bel.refl w4).alloc (.cells #[.int .i64 0, .int .i64 1, .int .i64 2, .int .i64 5] 24)
  go_wp2_with fail
  refine (list_ _ _).mono ?_
  rintro e w0_ ⟨rfl, rfl⟩
  obtain ⟨w5, hW_⟩ : ∃ W, World.alloc w4 (.cells #[.int .i64 0, .int .i64 1, .int .i64 2, .int .i64 5] 24) = W := ⟨_, rfl⟩
  obtain ⟨gb, hg_⟩ : ∃ g, (World.heap w4).size = g := ⟨_, rfl⟩
  rw [hW_] at B_ BW_ ⊢
  rw [hg_] at B_ ⊢
  have K5 := Lib.hid (K4.out.trans BW_)
  have Rb := Lib.hid (show Rw.RS hR w5 (some ⟨gb, 0, none⟩) 1 1 [(0, 1, 2, 5)] from Rw.rs_blk hR B_.out rfl (Nat.le_refl _) rfl)
  have Ra := Lib.hid (Ra.out.bel BW_)
  clear hW_ hg_ BW_ B_
  go_wp2_with fail
  refine (one 0 1 3 5 _).mono ?_
  rintro e w6 ⟨rfl, kb⟩
  have K6 := Lib.hid (K5.out.trans kb)
  have Ra := Lib.hid (Ra.out.bel kb)
  have Rb := Lib.hid (Rb.out.bel kb)
  clear kb
  have e_ : addE [(0, 1, 2, 5)] (0, 1, 3, 5) 1 = 0 := by decide
  have e2_ : addL [(0, 1, 2, 5)] (0, 1, 3, 5) 1 = [(0, 1, 2, 5), (0, 1, 3, 5)] := by decide
  go_wp2_with fail
  refine (add _ 1 1 [(0, 1, 2, 5)] 0 1 3 5 1 _ Rb.out (by decide) (w3c _ (by decide))).mono ?_
  rintro e w7 ⟨vm, rfl, hm, kb⟩
  have K7 := Lib.hid (K6.out.trans kb)
  have Ra := Lib.hid (Ra.out.bel kb)
  have Rb := Lib.hid (Rb.out.bel kb)
  rw [e2_] at hm
  rw [e_]
  obtain ⟨Am, cm, rfl, hrm, _⟩ := Rw.OwnR.rs hR hm
  have Rm := Lib.hid (show Rw.RS hR _ Am 2 cm [(0, 1, 2, 5), (0, 1, 3, 5)] from hrm)
  clear hm hrm e_ e2_
  clear kb
  go_wp2_with fail
  refine (next _ 2 2 [(0, 1, 2, 5), (1, 1, 2, 6)] 10 _ Ra.out (by decide)).mono ?_
  rintro e w8 ⟨rfl, kb⟩
  have K8 := Lib.hid (K7.out.trans kb)
  have Ra := Lib.hid (Ra.out.bel kb)
  have Rb := Lib.hid (Rb.out.bel kb)
  have Rm := Lib.hid (Rm.out.bel kb)
  rw [show nxt [(0, 1, 2, 5), (1, 1, 2, 6)] 10 = (15, true) by decide]
  clear kb
  go_wp2_with fail
  refine (checks _ 2 2 [(0, 1, 2, 5), (1, 1, 2, 6)] 0 0 _ Ra.out (by decide)).mono ?_
  rintro e w9 ⟨rfl, kb⟩
  have K9 := Lib.hid (K8.out.trans kb)
  have Ra := Lib.hid (Ra.out.bel kb)
  have Rb := Lib.hid (Rb.out.bel kb)
  have Rm := Lib.hid (Rm.out.bel kb)
  rw [show ((0 : Int) == (chk [(0, 1, 2, 5), (1, 1, 2, 6)]).1 && (((chk [(0, 1, 2, 5), (1, 1, 2, 6)]).2 : Int) == 0)) = true by decide]
  clear kb
  go_wp2_with fail
  refine (one 0 1 2 5 _).mono ?_
  rintro e w10 ⟨rfl, kb⟩
  have K10 := Lib.hid (K9.out.trans kb)
  have Ra := Lib.hid (Ra.out.bel kb)
  have Rb := Lib.hid (Rb.out.bel kb)
  have Rm := Lib.hid (Rm.out.bel kb)
  clear kb
  go_wp2_with fail
  refine (one 0 1 3 5 _).mono ?_
  rintro e w11 ⟨rfl, kb⟩
  have K11 := Lib.hid (K10.out.trans kb)
  have Ra := Lib.hid (Ra.out.bel kb)
  have Rb := Lib.hid (Rb.out.bel kb)
  have Rm := Lib.hid (Rm.out.bel kb)
  clear kb
  have B_ := Lib.hid (Blk.new w11 #[.int .i64 0, .int .i64 1, .int .i64 2, .int .i64 5, .int .i64 0, .int .i64 1, .int .i64 3, .int .i64 5] 24)
  have BW_ := (Bel.refl w11).alloc (.cells #[.int .i64 0, .int .i64 1, .int .i64 2, .int .i64 5, .int .i64 0, .int .i64 1, .int .i64 3, .int .i64 5] 24)
  go_wp2_with fail
  refine (list_ _ _).mono ?_
  rintro e w0_ ⟨rfl, rfl⟩
  obtain ⟨w12, hW_⟩ : ∃ W, World.alloc w11 (.cells #[.int .i64 0, .int .i64 1, .int .i64 2, .int .i64 5, .int .i64 0, .int .i64 1, .int .i64 3, .int .i64 5] 24) = W := ⟨_, rfl⟩
  obtain ⟨gd, hg_⟩ : ∃ g, (World.heap w11).size = g := ⟨_, rfl⟩
  rw [hW_] at B_ BW_ ⊢
  rw [hg_] at B_ ⊢
  have K12 := Lib.hid (K11.out.trans BW_)
  have Rd := Lib.hid (show Rw.RS hR w12 (some ⟨gd, 0, none⟩) 2 2 [(0, 1, 2, 5), (0, 1, 3, 5)] from Rw.rs_blk hR B_.out rfl (Nat.le_refl _) rfl)
  have Ra := Lib.hid (Ra.out.bel BW_)
  have Rb := Lib.hid (Rb.out.bel BW_)
  have Rm := Lib.hid (Rm.out.bel BW_)
  clear hW_ hg_ BW_ B_
  go_wp2_with fail
  refine (same_hops Am _ 2 cm 2 2 [(0, 1, 2, 5), (0, 1, 3, 5)] [(0, 1, 2, 5), (0, 1, 3, 5)] _ Rm.out Rd.out (by decide) (by decide)).mono ?_
  rintro e w13 ⟨rfl, kb⟩
  have K13 := Lib.hid (K12.out.trans kb)
  have Ra := Lib.hid (Ra.out.bel kb)
  have Rb := Lib.hid (Rb.out.bel kb)
  have Rm := Lib.hid (Rm.out.bel kb)
  have Rd := Lib.hid (Rd.out.bel kb)
  rw [decide_eq_true (rfl : ([(0, 1, 2, 5), (0, 1, 3, 5)] : List R4) = [(0, 1, 2, 5), (0, 1, 3, 5)])]
  clear kb
  go_wp2_with fail
  refine (one 0 1 2 5 _).mono ?_
  rintro e w14 ⟨rfl, kb⟩
  have K14 := Lib.hid (K13.out.trans kb)
  have Ra := Lib.hid (Ra.out.bel kb)
  have Rb := Lib.hid (Rb.out.bel kb)
  have Rm := Lib.hid (Rm.out.bel kb)
  have Rd := Lib.hid (Rd.out.bel kb)
  clear kb
  go_wp2_with fail
  refine (adds Am 2 cm [(0, 1, 2, 5), (0, 1, 3, 5)] 0 1 2 5 1 _ Rm.out (by decide) (w3c _ (by decide))).mono ?_
  rintro e w15 ⟨rfl, kb⟩
  have K15 := Lib.hid (K14.out.trans kb)
  have Ra := Lib.hid (Ra.out.bel kb)
  have Rb := Lib.hid (Rb.out.bel kb)
  have Rm := Lib.hid (Rm.out.bel kb)
  have Rd := Lib.hid (Rd.out.bel kb)
  rw [show addE [(0, 1, 2, 5), (0, 1, 3, 5)] (0, 1, 2, 5) 1 = 22 by decide]
  clear kb
  go_wp2_with fail
  refine (ripes _ 2 2 [(0, 1, 2, 5), (1, 1, 2, 6)] 15 10 1 _ Ra.out (by decide) (by decide)).mono ?_
  rintro e w16 ⟨rfl, kb⟩
  have K16 := Lib.hid (K15.out.trans kb)
  have Ra := Lib.hid (Ra.out.bel kb)
  have Rb := Lib.hid (Rb.out.bel kb)
  have Rm := Lib.hid (Rm.out.bel kb)
  have Rd := Lib.hid (Rd.out.bel kb)
  rw [show (decide (ripE [(0, 1, 2, 5), (1, 1, 2, 6)] 15 10 = 0) && decide (ripL [(0, 1, 2, 5), (1, 1, 2, 6)] 15 10 = List.take 1 [(0, 1, 2, 5), (1, 1, 2, 6)]) && decide (lftL [(0, 1, 2, 5), (1, 1, 2, 6)] 15 10 = List.drop 1 [(0, 1, 2, 5), (1, 1, 2, 6)])) = true by decide]
  clear kb
  go_wp2_with fail
  refine (ripes _ 2 2 [(0, 1, 2, 5), (1, 1, 2, 6)] 14 10 0 _ Ra.out (by decide) (by decide)).mono ?_
  rintro e w17 ⟨rfl, kb⟩
  have K17 := Lib.hid (K16.out.trans kb)
  have Ra := Lib.hid (Ra.out.bel kb)
  have Rb := Lib.hid (Rb.out.bel kb)
  have Rm := Lib.hid (Rm.out.bel kb)
  have Rd := Lib.hid (Rd.out.bel kb)
  rw [show (decide (ripE [(0, 1, 2, 5), (1, 1, 2, 6)] 14 10 = 0) && decide (ripL [(0, 1, 2, 5), (1, 1, 2, 6)] 14 10 = List.take 0 [(0, 1, 2, 5), (1, 1, 2, 6)]) && decide (lftL [(0, 1, 2, 5), (1, 1, 2, 6)] 14 10 = List.drop 0 [(0, 1, 2, 5), (1, 1, 2, 6)])) = true by decide]
  clear kb
  go_wp2_with fail
  go_ret
  exact ⟨rfl, K17.out⟩
end Hp
end Go.Proofs.Ytahhnfnonekbmaa
end
