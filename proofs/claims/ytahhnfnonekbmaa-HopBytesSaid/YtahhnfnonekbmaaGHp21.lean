/-
  What the law HopBack answers: true, for all numbers and bytes. Conditions: the numbers are ints; the bytes are bytes.
-/
import Derived.Test.YtahhnfnonekbmaaQJ
namespace Go.Proofs.Ytahhnfnonekbmaa
open Go.RowKit Go.Shelf
set_option linter.unusedVariables false
set_option linter.unusedSimpArgs false
namespace Hp
open Cd

theorem encs_byte (l : List Int) (h : ∀ x ∈ l, 0 ≤ x ∧ x ≤ 18446744073709551615) : ∀ z ∈ Rm.encs l, 0 ≤ z ∧ z ≤ 255 := by
  intro z hz
  unfold Rm.encs at hz
  rw [List.mem_flatten] at hz
  obtain ⟨y, hy, hzy⟩ := hz
  obtain ⟨x, hx, rfl⟩ := List.mem_map.1 hy
  have := h x hx
  exact encN_byte 9 x this.1 (by rw [top9]; omega) z hzy
theorem nums_bound {l : List R4} (h : Ok l) : ∀ x ∈ ((l.length : Int) :: l.flatMap nums), 0 ≤ x ∧ x ≤ 18446744073709551615 := by
  intro x hx
  rcases List.mem_cons.1 hx with rfl | hx
  · have := h.1; omega
  · obtain ⟨r, hr, hxr⟩ := List.mem_flatMap.1 hx
    obtain ⟨a, b, c, d⟩ := r
    obtain ⟨a0, a1, b0, b1, c0, c1, hbc, d0, d1⟩ := (may_iff _ _ _ _).1 (srt_le l 0 h.2 _ hr).1
    simp [nums] at hxr
    rcases hxr with rfl | rfl | rfl | rfl <;> omega
theorem encL_bytes {l : List R4} (h : Ok l) : Bytes (encL l) := bytes_of (encs_byte _ (nums_bound h))
theorem encL_eq (l : List R4) : encL l = enc (l.length : Int) ++ Rm.encs (l.flatMap nums) := by
  unfold encL
  rw [show (l.length : Int) :: l.flatMap nums = [(l.length : Int)] ++ l.flatMap nums from rfl, Rm.encs_app]
  simp [Rm.encs]
/-- A list's bytes are read as it. -/
theorem encL_read {l : List R4} (h : Ok l) : RN (encL l) 0 none 0 4096 ((l.length : Nat) : Int) (enc (l.length : Int)).length none ∧ Lk (encL l) l (enc (l.length : Int)).length none 0 (encL l).length none := by
  rw [encL_eq]
  constructor
  · have := Rm.rn_enc [] (Rm.encs (l.flatMap nums)) (l.length : Int) 0 4096 (by omega) (by have := h.1; omega) (by omega) (by have := h.1; omega)
    simpa using this
  · have := lk_enc l (enc (l.length : Int)) [] 0 h.2
    simpa using this
/-- What is read of any bytes; without a fault these are its own. -/
theorem raw_read {zs : List Int} (hb : Bytes zs) : ∃ (m k1 : Nat) (f1 : Option (Int × Int)) (L : List R4) (k' : Nat) (f' : Option (Int × Int)) (e1 e2 : Int), RN zs 0 none 0 4096 (m : Int) k1 f1 ∧ m ≤ 4096 ∧ L.length = m ∧ Lk zs L k1 f1 0 k' f' ∧ endOf zs.length k' f' = (e1, e2) ∧ (∀ r ∈ L, W4 r) ∧ (e1 = 0 → Ok L ∧ encL L = zs) := by
  obtain ⟨x, k1, f1, r1, q1, h1⟩ := Rm.rn_of zs hb 0 (Nat.zero_le _) 0 4096
  obtain ⟨m, hm, hm2⟩ : ∃ m : Nat, x = (m : Int) ∧ m ≤ 4096 := by
    rcases h1 with ⟨_, h2, h3, _⟩ | ⟨_, _, _, _, h2⟩
    · exact ⟨x.toNat, by omega, by omega⟩
    · exact ⟨0, h2, by decide⟩
  subst hm
  have hf1 : ∀ p, f1 = some p → p.1 ≠ 0 := fun p hp => by
    rcases h1 with ⟨h2, _⟩ | ⟨e, he, h2, _⟩
    · rw [h2] at hp; cases hp
    · rw [h2] at hp; injection hp with hp; rw [← hp]; exact he
  obtain ⟨L, k', f', h2, h3, h4, h5, h6, h7⟩ := lk_of zs hb m k1 f1 0 q1 hf1
  obtain ⟨⟨e1, e2⟩, he⟩ : ∃ e, endOf zs.length k' f' = e := ⟨_, rfl⟩
  refine ⟨m, k1, f1, L, k', f', e1, e2, r1, hm2, h3, h2, he, h5, fun h0 => ?_⟩
  obtain ⟨_, hf, hk⟩ := end_e2 he h6 h0
  obtain ⟨q2, q3⟩ := h7 hf
  have hok : Ok L := ⟨by omega, q2⟩
  refine ⟨hok, ?_⟩
  have hf1n : f1 = none := by
    cases f1 with
    | none => rfl
    | some p => have := (lk_some L h2).1; rw [this] at hf; cases hf
  rcases h1 with ⟨_, _, _, t1⟩ | ⟨e, _, h8, _⟩
  · rw [encL_eq, h3]
    have e3 : zs.take k' = zs := List.take_of_length_le hk
    rw [e3, ← t1] at q3
    simpa using q3
  · rw [hf1n] at h8; cases h8
theorem own_nil_len {w : World} {base : Nat} {v : Value} (h : OwnH w base v []) : ∃ A c, v = .slice A 0 c := by
  obtain ⟨A, c, e, _⟩ := h.slice
  exact ⟨A, c, e⟩
set_option maxRecDepth 100000 in
set_option maxHeartbeats 8000000 in
theorem backLaw (A : Option Addr) (n c : Nat) (zs : List Int) (B : Option Addr) (m d : Nat) (raw : List Int) (w : World) (hi : Ints .i64 w A n zs) (hz : ∀ z ∈ zs, -9223372036854775808 ≤ z ∧ z ≤ 9223372036854775807) (hs : Sl w B m d raw) (hb : Bytes raw) :
    Calls Try.prog 8 #[.slice A n c, .slice B m d] w fun e w' => e = .returned (.bool true) ∧ Bel w w' := by
  have HI := Lib.hid hi
  have HZ := Lib.hid hz
  have HS := Lib.hid hs
  have HBY := Lib.hid hb
  have HLN := Lib.hid (show zs.length = n from hi.1)
  have HRL := Lib.hid (show raw.length = m from hs.ints.1)
  have KN := Lib.hid (known w)
  clear hi hz hs hb
  by_cases hlong : 60 < n
  · have hlong3 : (60 : Int) < n := by omega
    go_enter Try.func8, Try.ntmps8
    go_wp2_with fail
    refine KN.out.mono ?_
    rintro e w1 ⟨rfl, kb⟩
    have KB := Lib.hid (show Bel w w1 from kb)
    clear kb
    go_wp2_with fail
    go_ret
    exact ⟨rfl, KB.out⟩
  have hlong3 : ¬ (60 : Int) < n := by omega
  by_cases hlm : 600 < m
  · have hlm3 : (600 : Int) < m := by omega
    go_enter Try.func8, Try.ntmps8
    go_wp2_with fail
    refine KN.out.mono ?_
    rintro e w1 ⟨rfl, kb⟩
    have KB := Lib.hid (show Bel w w1 from kb)
    clear kb
    go_wp2_with fail
    go_ret
    exact ⟨rfl, KB.out⟩
  have hlm3 : ¬ (600 : Int) < m := by omega
  have HN := Lib.hid (show n ≤ 60 ∧ m ≤ 600 by omega)
  clear hlong hlm
  go_enter Try.func8, Try.ntmps8
  go_wp2_with fail
  refine KN.out.mono ?_
  rintro e w1 ⟨rfl, kb⟩
  have K1 := Lib.hid (show Bel w w1 from kb)
  clear kb KN
  have MD := Lib.hid (made A n c zs 16 w1 (HI.out.bel K1.out) HN.out.1 HZ.out (by decide) (by decide))
  have MI := Lib.hid (show Mi 16 n (mad 16 zs) from by
    have := mi_take (m := 16) (by decide) zs (by rw [HLN.out]; have := HN.out; omega) n (by rw [HLN.out]; exact Nat.le_refl _)
    rwa [List.take_of_length_le (by rw [HLN.out]; exact Nat.le_refl _)] at this)
  obtain ⟨l, hl⟩ : ∃ l, (mad 16 zs).1 = l := ⟨_, rfl⟩
  rw [hl] at MD
  have HOK := Lib.hid (show Ok l from ⟨by rw [← hl]; have := MI.out.len; have := HN.out; omega, by rw [← hl]; exact MI.out.srt⟩)
  clear hl MI
  go_wp2_with fail
  refine MD.out.mono ?_
  rintro e w2 ⟨vl, rfl, ho, kb⟩
  have K2 := Lib.hid (show Bel w w2 from K1.out.trans kb)
  obtain ⟨Al, cl, rfl, hrs⟩ := ho.slice
  have R2 := Lib.hid hrs
  clear kb ho hrs MD K1
  have BY := Lib.hid (bytesH Al l.length cl l w2 R2.out (by have := HOK.out.1; omega))
  rw [chk_zero HOK.out, if_pos rfl] at BY
  obtain ⟨rn1, lk1⟩ := encL_read HOK.out
  obtain ⟨ys, hys⟩ : ∃ ys, encL l = ys := ⟨_, rfl⟩
  have HYB := Lib.hid (show Bytes ys from by rw [← hys]; exact encL_bytes HOK.out)
  have HYL := Lib.hid (show ys.length ≤ 1000000 from by
    rw [← hys]
    have h1 := encP_len (l.length : Int) l
    have h2 := HOK.out.1
    show (encP (l.length : Int) l).length ≤ _
    omega)
  rw [hys] at BY rn1 lk1
  have RN1 := Lib.hid rn1
  have LK1 := Lib.hid lk1
  clear hys rn1 lk1
  go_wp2_with fail
  refine BY.out.mono ?_
  rintro e w3 ⟨v3, rfl, hf⟩
  obtain ⟨A3, c3, rfl, hsl⟩ := hf.sl
  have S3 := Lib.hid hsl
  have K3 := Lib.hid (K2.out.trans hf.2)
  have R3 := Lib.hid (R2.out.bel hf.2)
  clear hf hsl BY K2 R2
  have RD1 := Lib.hid (readH A3 ys.length c3 ys l.length _ none l _ none 0 0 w3 S3.out HYL.out HYB.out RN1.out HOK.out.1 rfl LK1.out (by
    show (if ys.length < ys.length then ((4 : Int), (ys.length : Int)) else (0, 0)) = (0, 0)
    rw [if_neg (Nat.lt_irrefl _)]))
  rw [if_pos rfl] at RD1
  go_wp2_with fail
  refine RD1.out.mono ?_
  rintro e w4 ⟨v4, rfl, ho, kb⟩
  obtain ⟨A4, c4, rfl, hr4⟩ := ho.slice
  have K4 := Lib.hid (K3.out.trans kb)
  have R4_ := Lib.hid hr4
  have R3b := Lib.hid (R3.out.bel kb)
  clear kb ho hr4 RD1 K3 R3 RN1 LK1
  go_upto_region 7 with fail
  have F0 := Blk.new w4 #[.int .i64 0, .int .i64 0] 48
  have FB := (Bel.refl w4).alloc (.cells #[.int .i64 0, .int .i64 0] 48)
  obtain ⟨w5, hw5⟩ : ∃ V, w4.alloc (.cells #[.int .i64 0, .int .i64 0] 48) = V := ⟨_, rfl⟩
  obtain ⟨g, hg⟩ : ∃ g, w4.heap.size = g := ⟨_, rfl⟩
  rw [hw5] at F0 FB ⊢
  rw [hg] at F0 ⊢
  have F5 := Lib.hid F0
  have K5 := Lib.hid (K4.out.trans FB)
  have SM := Lib.hid (same_hops Al A4 l.length cl l.length c4 l l w5 (R3b.out.bel FB) (R4_.out.bel FB) (by have := HOK.out.1; omega) (by have := HOK.out.1; omega))
  rw [decide_eq_true (rfl : l = l)] at SM
  clear hw5 hg F0 FB K4 R4_ R3b
  have f0 := F5.out.cell 0 rfl
  have f1 := F5.out.cell 1 rfl
  have EQ := Lib.hid (fun V => (Rw.neq_fault 0 0 0 0 V).trans (by first | (rw [decide_eq_true (rfl : ((0 : Int), (0 : Int)) = (0, 0))]; done) | (rw [decide_eq_true (rfl : ((0 : Int), (0 : Int)) = (0, 0))]; rfl)))
  go_wp2_with (refine Rw.wpList_val (by rfl) (.bool false) (fun w => Rw.exec_neq rfl _ _ rfl rfl (by kernel_rfl) EQ.out w) ?_)
  refine SM.out.mono ?_
  rintro e w6 ⟨rfl, kb⟩
  have K6 := Lib.hid (show Bel w w6 from K5.out.trans kb)
  clear kb SM f0 f1 EQ K5
  obtain ⟨M, k1, f1, L, k', f', e1, e2, rn, hM, hL, lk, he, hw4, hgood⟩ := raw_read HBY.out
  have HG := Lib.hid hgood
  have HW4 := Lib.hid hw4
  have HLL := Lib.hid (show L.length ≤ 4096 by omega)
  have RD2 := Lib.hid (readH B m d raw M k1 f1 L k' f' e1 e2 w6 (HS.out.bel K6.out) (by have := HN.out; omega) HBY.out rn hM hL lk he)
  clear rn lk he hgood hM hL hw4
  go_wp2_with fail
  refine RD2.out.mono ?_
  rintro e w7 ⟨v7, rfl, ho, kb⟩
  have K7 := Lib.hid (K6.out.trans kb)
  have O7 := Lib.hid ho
  clear kb ho RD2 K6
  by_cases h0 : e1 = 0
  · obtain ⟨hok, henc⟩ := HG.out h0
    rw [if_pos h0] at O7
    subst h0
    obtain ⟨A7, c7, rfl, hr7⟩ := O7.out.slice
    have F0 := Blk.new w7 #[.int .i64 0, .int .i64 e2] 48
    have FB := (Bel.refl w7).alloc (.cells #[.int .i64 0, .int .i64 e2] 48)
    go_upto_region 10 with fail
    obtain ⟨w8, hw8⟩ : ∃ V, w7.alloc (.cells #[.int .i64 0, .int .i64 e2] 48) = V := ⟨_, rfl⟩
    obtain ⟨g2, hg⟩ : ∃ g, w7.heap.size = g := ⟨_, rfl⟩
    rw [hw8] at F0 FB ⊢
    rw [hg] at F0 ⊢
    have F8 := Lib.hid F0
    have K8 := Lib.hid (K7.out.trans FB)
    have BY := Lib.hid (bytesH A7 L.length c7 L w8 (hr7.bel FB) (by have := HLL.out; omega))
    rw [chk_zero hok, if_pos rfl, henc] at BY
    clear hw8 hg F0 FB hok henc hr7 K7 O7
    have f0 := F8.out.cell 0 rfl
    have f1 := F8.out.cell 1 rfl
    go_wp2_with fail
    refine BY.out.mono ?_
    rintro e w9 ⟨v9, rfl, hf⟩
    obtain ⟨A9, c9, rfl, hsl⟩ := hf.sl
    have K9 := Lib.hid (K8.out.trans hf.2)
    have SB := Lib.hid (Kk.same A9 B raw.length c9 m d raw w9 hsl.ints (HS.out.bel K9.out).ints)
    clear hf hsl BY K8 f0 f1
    go_wp2_with fail
    refine SB.out.mono ?_
    rintro e wa ⟨rfl, rfl⟩
    go_wp2_with fail
    go_ret
    exact ⟨rfl, K9.out⟩
  · rw [if_neg h0] at O7
    obtain ⟨A7, c7, rfl⟩ := own_nil_len O7.out
    have hne : (e1 != 0) = true := by rw [bne_iff_ne]; exact h0
    clear h0
    have F0 := Blk.new w7 #[.int .i64 e1, .int .i64 e2] 48
    have FB := (Bel.refl w7).alloc (.cells #[.int .i64 e1, .int .i64 e2] 48)
    go_upto_region 10 with fail
    obtain ⟨w8, hw8⟩ : ∃ V, w7.alloc (.cells #[.int .i64 e1, .int .i64 e2] 48) = V := ⟨_, rfl⟩
    obtain ⟨g2, hg⟩ : ∃ g, w7.heap.size = g := ⟨_, rfl⟩
    rw [hw8] at F0 FB ⊢
    rw [hg] at F0 ⊢
    have F8 := Lib.hid F0
    have K8 := Lib.hid (K7.out.trans FB)
    clear hw8 hg F0 FB K7 O7
    have f0 := F8.out.cell 0 rfl
    have f1 := F8.out.cell 1 rfl
    go_wp2_with fail
    go_ret
    exact ⟨rfl, K8.out⟩
theorem back (A : Option Addr) (n c : Nat) (zs : List Int) (B : Option Addr) (m d : Nat) (raw : List Int) (w : World) (hn : n ≤ 9223372036854775807) (hi : Ints .i64 w A n zs) (hz : ∀ z ∈ zs, -9223372036854775808 ≤ z ∧ z ≤ 9223372036854775807) (hm : m ≤ 9223372036854775807) (hs : Sl w B m d raw) (hb : Bytes raw) :
    Calls Try.prog 8 #[.slice A n c, .slice B m d] w fun e w' => e = .returned (.bool true) ∧ Bel w w' := backLaw A n c zs B m d raw w hi hz hs hb
end Hp
end Go.Proofs.Ytahhnfnonekbmaa
