/-
  What the law RosterBack answers: true, for all lists of validators and all bytes. Conditions: the numbers are ints and words; the bytes are bytes.
-/
import Derived.Test.YtpfdakkameifkaaGRo25
namespace Go.Proofs.Ytpfdakkameifkaa
open Go.RowKit Go.Shelf
set_option linter.unusedVariables false
set_option linter.unusedSimpArgs false
namespace Ro
open Cd

theorem encs_byte (l : List Int) (h : ∀ x ∈ l, 0 ≤ x ∧ x ≤ 18446744073709551615) : ∀ z ∈ Rm.encs l, 0 ≤ z ∧ z ≤ 255 := by
  intro z hz
  unfold Rm.encs at hz
  rw [List.mem_flatten] at hz
  obtain ⟨y, hy, hzy⟩ := hz
  obtain ⟨x, hx, rfl⟩ := List.mem_map.1 hy
  have := h x hx
  exact encN_byte 9 x this.1 (by rw [top9]; omega) z hzy
theorem nums_bound {l : List V6} (h : (chk l).1 = 0) (hw : ∀ r ∈ l, WV r) : ∀ x ∈ ((l.length : Int) :: l.flatMap nums), 0 ≤ x ∧ x ≤ 18446744073709551615 := by
  intro x hx
  rcases List.mem_cons.1 hx with rfl | hx
  · have := (chk_ok.1 h).1; omega
  · obtain ⟨r, hr, hxr⟩ := List.mem_flatMap.1 hx
    obtain ⟨k, hk⟩ := List.getElem?_of_mem hr
    have hg := gd_at h hk
    have hv := hw r hr
    obtain ⟨a, b, c, d, e, f⟩ := r
    obtain ⟨_, ⟨v1, v2⟩, _, _⟩ := hv
    obtain ⟨o0, o1, _, s0, s1, u0, u1, _⟩ := hg
    have := fl_le e f
    simp [nums] at hxr
    rcases hxr with rfl | rfl | rfl | rfl | rfl <;> omega
theorem encL_bytes {l : List V6} (h : (chk l).1 = 0) (hw : ∀ r ∈ l, WV r) : Bytes (encL l) := bytes_of (encs_byte _ (nums_bound h hw))
theorem own_nil_len {w : World} {base : Nat} {v : Value} (h : OwnV w base v []) : ∃ A c, v = .slice A 0 c := by
  obtain ⟨A, c, e, _⟩ := h.slice
  exact ⟨A, c, e⟩
set_option maxRecDepth 100000 in
set_option maxHeartbeats 16000000 in
theorem backLaw (A : Option Addr) (n c : Nat) (l : List V6) (B : Option Addr) (m d : Nat) (raw : List Int) (w : World) (hi : Rw.RS vR w A n c l) (hw : ∀ r ∈ l, WV r) (hs : Sl w B m d raw) (hb : Bytes raw) :
    Calls Try.prog 8 #[.slice A n c, .slice B m d] w fun e w' => e = .returned (.bool true) ∧ Bel w w' := by
  have HI := Lib.hid hi
  have HW := Lib.hid hw
  have HLN := Lib.hid hi.len
  have HS := Lib.hid hs
  have HBY := Lib.hid hb
  have HRL := Lib.hid (show raw.length = m from hs.ints.1)
  have KN := Lib.hid (known w)
  clear hi hs hb hw
  by_cases hlong : 40 < n
  · have hlong3 : (40 : Int) < n := by omega
    go_enter Try.func8, Try.ntmps8
    go_wp2_with fail
    refine KN.out.mono ?_
    rintro e w1 ⟨rfl, kb⟩
    have KB := Lib.hid (show Bel w w1 from kb)
    clear kb
    go_wp2_with fail
    go_ret
    exact ⟨rfl, KB.out⟩
  have hlong3 : ¬ (40 : Int) < n := by omega
  by_cases hlm : 600 < m
  · have hlm3 : (600 : Int) < m := by omega
    go_enter Try.func8, Try.ntmps8
    go_wp2_with fail
    refine KN.out.mono ?_
    rintro e w1 ⟨rfl, kb⟩
    have KB := Lib.hid (show Bel w w1 from kb)
    clear kb
    go_wp2_with fail
    go_ret
    exact ⟨rfl, KB.out⟩
  have hlm3 : ¬ (600 : Int) < m := by omega
  have HN := Lib.hid (show n ≤ 40 ∧ m ≤ 600 by omega)
  clear hlong hlm
  go_enter Try.func8, Try.ntmps8
  go_wp2_with fail
  refine KN.out.mono ?_
  rintro e w1 ⟨rfl, kb⟩
  have K1 := Lib.hid (show Bel w w1 from kb)
  clear kb KN
  obtain ⟨e0, he0⟩ : ∃ e, (chk l).1 = e := ⟨_, rfl⟩
  obtain ⟨e9, he9⟩ : ∃ e, (chk l).2 = e := ⟨_, rfl⟩
  obtain ⟨ys, hys⟩ : ∃ ys, (if (chk l).1 = 0 then encL l else []) = ys := ⟨_, rfl⟩
  have HE0 := Lib.hid he0
  have HYS := Lib.hid hys
  have CK := Lib.hid (show Calls Try.prog 15 #[.slice A n c] w1 fun e w' => e = .returned (.tuple #[.int .i64 e0, .int .i64 e9]) ∧ Bel w1 w' from by rw [← he0, ← he9]; exact check A n c l w1 (HI.out.bel K1.out) (by have := HN.out; omega) (fun r hr => (HW.out r hr).i))
  have BY := Lib.hid (fun V (hv : Bel w V) => show Calls Try.prog 38 #[.slice A n c] V fun e w' => ∃ v, e = .returned (.tuple #[v, .int .i64 e0]) ∧ Fresh V w' v ys from by rw [← hys, ← he0]; exact bytes_ A n c l V (HI.out.bel hv) (by have := HN.out; omega) HW.out)
  clear hys he0 he9
  go_wp2_with fail
  refine CK.out.mono ?_
  rintro e w2 ⟨rfl, kb⟩
  have K2 := Lib.hid (K1.out.trans kb)
  clear kb CK K1
  have BY := Lib.hid (BY.out w2 K2.out)
  go_wp2_with fail
  refine BY.out.mono ?_
  rintro e w3 ⟨v3, rfl, hf⟩
  have X3 := Lib.hid hf.1
  have K3 := Lib.hid (K2.out.trans hf.2)
  clear hf BY K2
  -- behind the roster's own bytes
  have REST : ∀ wr, Bel w wr → ∃ M k1 f1 L k' f' e1 e2, Calls Try.prog 43 #[.slice B m d] wr (fun r w' => ∃ v, r = .returned (.tuple #[v, .agg #[.int .i64 e1, .int .i64 e2]]) ∧ OwnV w' wr.heap.size v (if e1 = 0 then L else []) ∧ Bel wr w') ∧ RN raw 0 none 0 32 ((M : Nat) : Int) k1 f1 ∧ Lk raw [] L k1 f1 k' f' ∧ L.length ≤ 32 ∧ (∀ r ∈ L, WV r) ∧ (e1 = 0 → (chk L).1 = 0 ∧ encL L = raw ∧ e2 = 0) := fun wr hv => by
    obtain ⟨M, k1, f1, L, k', f', e1, e2, rn, hM, hL, lk, he, hw4, hgood⟩ := raw_read HBY.out
    exact ⟨M, k1, f1, L, k', f', e1, e2, readV B m d raw M k1 f1 L k' f' e1 e2 wr (HS.out.bel hv) (by have := HN.out; omega) HBY.out rn hM hL lk hw4 he, rn, lk, by omega, hw4, hgood⟩
  have REST := Lib.hid REST
  by_cases h0 : e0 = 0
  · subst h0
    have HYE := Lib.hid (show ys = encL l by have := HYS.out; rw [if_pos HE0.out] at this; exact this.symm)
    obtain ⟨rn1, lk1⟩ := encL_read HE0.out HW.out
    rw [← HYE.out] at rn1 lk1
    have RN1 := Lib.hid rn1
    have LK1 := Lib.hid lk1
    have HYB := Lib.hid (show Bytes ys from by rw [HYE.out]; exact encL_bytes HE0.out HW.out)
    have HYL := Lib.hid (show ys.length ≤ 1000000 from by
      rw [HYE.out]
      have h1 := encP_len (l.length : Int) l
      have h2 := (chk_ok.1 HE0.out).1
      show (encP (l.length : Int) l).length ≤ 1000000
      omega)
    clear rn1 lk1
    obtain ⟨A3, c3, rfl, hsl⟩ := sl_of_own X3.out
    have RD1 := Lib.hid (readV A3 ys.length c3 ys l.length _ none l _ none 0 0 w3 hsl HYL.out HYB.out RN1.out (chk_ok.1 HE0.out).1 rfl LK1.out HW.out (by
      show (if ys.length < ys.length then ((4 : Int), (ys.length : Int)) else (0, 0)) = (0, 0)
      rw [if_neg (Nat.lt_irrefl _)]))
    rw [if_pos rfl] at RD1
    clear hsl X3
    go_wp2_with fail
    refine RD1.out.mono ?_
    rintro e w4 ⟨v4, rfl, ho, kb⟩
    obtain ⟨A4, c4, rfl, hr4⟩ := ho.slice
    rw [HLN.out] at hr4 ⊢
    have K4 := Lib.hid (K3.out.trans kb)
    have R4_ := Lib.hid hr4
    clear kb ho hr4 RD1 K3 RN1 LK1
    go_upto_region 10 with fail
    have F0 := Blk.new w4 #[.int .i64 0, .int .i64 0] 54
    have FB := (Bel.refl w4).alloc (.cells #[.int .i64 0, .int .i64 0] 54)
    obtain ⟨w5, hw5⟩ : ∃ V, w4.alloc (.cells #[.int .i64 0, .int .i64 0] 54) = V := ⟨_, rfl⟩
    obtain ⟨g, hg⟩ : ∃ g, w4.heap.size = g := ⟨_, rfl⟩
    rw [hw5] at F0 FB ⊢
    rw [hg] at F0 ⊢
    have F5 := Lib.hid F0
    have K5 := Lib.hid (K4.out.trans FB)
    have SM := Lib.hid (same_validators A4 A n c4 n c l l w5 (R4_.out.bel FB) (HI.out.bel K5.out) (by have := HN.out; omega) (by have := HN.out; omega))
    rw [decide_eq_true (rfl : l = l)] at SM
    clear hw5 hg F0 FB K4 R4_
    have f0 := F5.out.cell 0 rfl
    have f1 := F5.out.cell 1 rfl
    have EQ := Lib.hid (fun V => (Rw.neq_fault 0 0 0 0 V).trans (by first | (rw [decide_eq_true (rfl : ((0 : Int), (0 : Int)) = (0, 0))]; done) | (rw [decide_eq_true (rfl : ((0 : Int), (0 : Int)) = (0, 0))]; rfl)))
    go_wp2_with (refine Rw.wpList_val (by rfl) (.bool false) (fun w => Rw.exec_neq rfl _ _ rfl rfl (by kernel_rfl) EQ.out w) ?_)
    refine SM.out.mono ?_
    rintro e w6 ⟨rfl, kb⟩
    have K6 := Lib.hid (show Bel w w6 from K5.out.trans kb)
    clear kb SM f0 f1 EQ K5 F5
    obtain ⟨M, k1, f1, L, k', f', e1, e2, rd, rn, lk, hll, hwL, hgood⟩ := REST.out w6 K6.out
    have HG := Lib.hid hgood
    have HWL := Lib.hid hwL
    have HLL := Lib.hid hll
    have RD2 := Lib.hid rd
    clear rn lk rd hgood hll hwL REST
    go_wp2_with fail
    refine RD2.out.mono ?_
    rintro e w7 ⟨v7, rfl, ho, kb⟩
    have K7 := Lib.hid (K6.out.trans kb)
    have O7 := Lib.hid ho
    clear kb ho RD2 K6
    by_cases h1 : e1 = 0
    · obtain ⟨hok, henc, he2⟩ := HG.out h1
      rw [if_pos h1] at O7
      subst h1 he2
      obtain ⟨A7, c7, rfl, hr7⟩ := O7.out.slice
      have F0 := Blk.new w7 #[.int .i64 0, .int .i64 0] 54
      have FB := (Bel.refl w7).alloc (.cells #[.int .i64 0, .int .i64 0] 54)
      go_upto_region 13 with fail
      obtain ⟨w8, hw8⟩ : ∃ V, w7.alloc (.cells #[.int .i64 0, .int .i64 0] 54) = V := ⟨_, rfl⟩
      obtain ⟨g2, hg⟩ : ∃ g, w7.heap.size = g := ⟨_, rfl⟩
      rw [hw8] at F0 FB ⊢
      rw [hg] at F0 ⊢
      have F8 := Lib.hid F0
      have K8 := Lib.hid (K7.out.trans FB)
      have BY := Lib.hid (show Calls Try.prog 38 #[.slice A7 L.length c7] w8 fun e w' => ∃ v, e = .returned (.tuple #[v, .int .i64 0]) ∧ Fresh w8 w' v raw from by
        have h := bytes_ A7 L.length c7 L w8 (hr7.bel FB) (by have := HLL.out; omega) HWL.out
        unfold ByR at h
        rw [hok, if_pos rfl, henc] at h
        exact h)
      clear hw8 hg F0 FB hok henc hr7 K7 O7
      have f0 := F8.out.cell 0 rfl
      have f1 := F8.out.cell 1 rfl
      have EQ2 := Lib.hid (fun V => (Rw.neq_fault 0 0 0 0 V).trans (by first | (rw [decide_eq_true (rfl : ((0 : Int), (0 : Int)) = (0, 0))]; done) | (rw [decide_eq_true (rfl : ((0 : Int), (0 : Int)) = (0, 0))]; rfl)))
      go_wp2_with (refine Rw.wpList_val (by rfl) (.bool false) (fun w => Rw.exec_neq rfl _ _ rfl rfl (by kernel_rfl) EQ2.out w) ?_)
      refine BY.out.mono ?_
      rintro e w9 ⟨v9, rfl, hf⟩
      obtain ⟨A9, c9, rfl, hsl⟩ := hf.sl
      have K9 := Lib.hid (K8.out.trans hf.2)
      have SB := Lib.hid (Kk.same A9 B raw.length c9 m d raw w9 hsl.ints (HS.out.bel K9.out).ints)
      clear hf hsl BY K8 f0 f1
      go_wp2_with fail
      refine SB.out.mono ?_
      rintro e wa ⟨rfl, rfl⟩
      go_wp2_with fail
      go_ret
      exact ⟨rfl, K9.out⟩
    · rw [if_neg h1] at O7
      obtain ⟨A7, c7, rfl⟩ := own_nil_len O7.out
      have EQ2 := Lib.hid (fun V => (Rw.neq_fault e1 e2 0 0 V).trans (show Result.ok (Value.bool (!decide ((e1, e2) = ((0 : Int), (0 : Int))))) V = Result.ok (.bool true) V by rw [decide_eq_false (fun h => h1 (by injection h))]; rfl))
      clear h1
      have F0 := Blk.new w7 #[.int .i64 e1, .int .i64 e2] 54
      have FB := (Bel.refl w7).alloc (.cells #[.int .i64 e1, .int .i64 e2] 54)
      go_upto_region 13 with fail
      obtain ⟨w8, hw8⟩ : ∃ V, w7.alloc (.cells #[.int .i64 e1, .int .i64 e2] 54) = V := ⟨_, rfl⟩
      obtain ⟨g2, hg⟩ : ∃ g, w7.heap.size = g := ⟨_, rfl⟩
      rw [hw8] at F0 FB ⊢
      rw [hg] at F0 ⊢
      have F8 := Lib.hid F0
      have K8 := Lib.hid (K7.out.trans FB)
      clear hw8 hg F0 FB K7 O7
      have f0 := F8.out.cell 0 rfl
      have f1 := F8.out.cell 1 rfl
      go_wp2_with (refine Rw.wpList_val (by rfl) (.bool true) (fun w => Rw.exec_neq rfl _ _ rfl rfl (by kernel_rfl) EQ2.out w) ?_)
      go_wp2_with fail
      go_ret
      exact ⟨rfl, K8.out⟩
  · have hne : (e0 == 0) = false := beq_eq_false_iff_ne.2 h0
    have K6 := K3
    clear h0 K3
    obtain ⟨w6, hw6⟩ : ∃ W, w3 = W := ⟨_, rfl⟩
    rw [hw6] at K6 ⊢
    clear hw6
    obtain ⟨M, k1, f1, L, k', f', e1, e2, rd, rn, lk, hll, hwL, hgood⟩ := REST.out w6 K6.out
    have HG := Lib.hid hgood
    have HWL := Lib.hid hwL
    have HLL := Lib.hid hll
    have RD2 := Lib.hid rd
    clear rn lk rd hgood hll hwL REST
    go_wp2_with fail
    refine RD2.out.mono ?_
    rintro e w7 ⟨v7, rfl, ho, kb⟩
    have K7 := Lib.hid (K6.out.trans kb)
    have O7 := Lib.hid ho
    clear kb ho RD2 K6
    by_cases h1 : e1 = 0
    · obtain ⟨hok, henc, he2⟩ := HG.out h1
      rw [if_pos h1] at O7
      subst h1 he2
      obtain ⟨A7, c7, rfl, hr7⟩ := O7.out.slice
      have F0 := Blk.new w7 #[.int .i64 0, .int .i64 0] 54
      have FB := (Bel.refl w7).alloc (.cells #[.int .i64 0, .int .i64 0] 54)
      go_upto_region 13 with fail
      obtain ⟨w8, hw8⟩ : ∃ V, w7.alloc (.cells #[.int .i64 0, .int .i64 0] 54) = V := ⟨_, rfl⟩
      obtain ⟨g2, hg⟩ : ∃ g, w7.heap.size = g := ⟨_, rfl⟩
      rw [hw8] at F0 FB ⊢
      rw [hg] at F0 ⊢
      have F8 := Lib.hid F0
      have K8 := Lib.hid (K7.out.trans FB)
      have BY := Lib.hid (show Calls Try.prog 38 #[.slice A7 L.length c7] w8 fun e w' => ∃ v, e = .returned (.tuple #[v, .int .i64 0]) ∧ Fresh w8 w' v raw from by
        have h := bytes_ A7 L.length c7 L w8 (hr7.bel FB) (by have := HLL.out; omega) HWL.out
        unfold ByR at h
        rw [hok, if_pos rfl, henc] at h
        exact h)
      clear hw8 hg F0 FB hok henc hr7 K7 O7
      have f0 := F8.out.cell 0 rfl
      have f1 := F8.out.cell 1 rfl
      have EQ2 := Lib.hid (fun V => (Rw.neq_fault 0 0 0 0 V).trans (by first | (rw [decide_eq_true (rfl : ((0 : Int), (0 : Int)) = (0, 0))]; done) | (rw [decide_eq_true (rfl : ((0 : Int), (0 : Int)) = (0, 0))]; rfl)))
      go_wp2_with (refine Rw.wpList_val (by rfl) (.bool false) (fun w => Rw.exec_neq rfl _ _ rfl rfl (by kernel_rfl) EQ2.out w) ?_)
      refine BY.out.mono ?_
      rintro e w9 ⟨v9, rfl, hf⟩
      obtain ⟨A9, c9, rfl, hsl⟩ := hf.sl
      have K9 := Lib.hid (K8.out.trans hf.2)
      have SB := Lib.hid (Kk.same A9 B raw.length c9 m d raw w9 hsl.ints (HS.out.bel K9.out).ints)
      clear hf hsl BY K8 f0 f1
      go_wp2_with fail
      refine SB.out.mono ?_
      rintro e wa ⟨rfl, rfl⟩
      go_wp2_with fail
      go_ret
      exact ⟨rfl, K9.out⟩
    · rw [if_neg h1] at O7
      obtain ⟨A7, c7, rfl⟩ := own_nil_len O7.out
      have EQ2 := Lib.hid (fun V => (Rw.neq_fault e1 e2 0 0 V).trans (show Result.ok (Value.bool (!decide ((e1, e2) = ((0 : Int), (0 : Int))))) V = Result.ok (.bool true) V by rw [decide_eq_false (fun h => h1 (by injection h))]; rfl))
      clear h1
      have F0 := Blk.new w7 #[.int .i64 e1, .int .i64 e2] 54
      have FB := (Bel.refl w7).alloc (.cells #[.int .i64 e1, .int .i64 e2] 54)
      go_upto_region 13 with fail
      obtain ⟨w8, hw8⟩ : ∃ V, w7.alloc (.cells #[.int .i64 e1, .int .i64 e2] 54) = V := ⟨_, rfl⟩
      obtain ⟨g2, hg⟩ : ∃ g, w7.heap.size = g := ⟨_, rfl⟩
      rw [hw8] at F0 FB ⊢
      rw [hg] at F0 ⊢
      have F8 := Lib.hid F0
      have K8 := Lib.hid (K7.out.trans FB)
      clear hw8 hg F0 FB K7 O7
      have f0 := F8.out.cell 0 rfl
      have f1 := F8.out.cell 1 rfl
      go_wp2_with (refine Rw.wpList_val (by rfl) (.bool true) (fun w => Rw.exec_neq rfl _ _ rfl rfl (by kernel_rfl) EQ2.out w) ?_)
      go_wp2_with fail
      go_ret
      exact ⟨rfl, K8.out⟩
theorem backLawW (A : Option Addr) (n c : Nat) (B : Option Addr) (m d : Nat) (raw : List Int) (w : World) (hn : n ≤ 9223372036854775807) (hi : Vals w A n c) (hm : m ≤ 9223372036854775807) (hs : Sl w B m d raw) (hb : Bytes raw) :
    Calls Try.prog 8 #[.slice A n c, .slice B m d] w fun e w' => e = .returned (.bool true) ∧ Bel w w' := by
  obtain ⟨l, hl, hw⟩ := vals_rs hi
  exact backLaw A n c l B m d raw w hl hw hs hb
end Ro
end Go.Proofs.Ytpfdakkameifkaa
