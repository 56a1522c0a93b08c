/-
  What the law QueueBack answers: true. Conditions: the numbers are ints and words; the bytes are bytes.
-/
import Derived.Test.YtejmgdanbjkckaaGQu30
namespace Go.Proofs.Ytejmgdanbjkckaa
open Go.RowKit Go.Shelf
set_option linter.unusedVariables false
set_option linter.unusedSimpArgs false
set_option Elab.async false
namespace Qu
open Cd

theorem encs_byte (l : List Int) (h : ∀ x ∈ l, 0 ≤ x ∧ x ≤ 18446744073709551615) : ∀ z ∈ Rm.encs l, 0 ≤ z ∧ z ≤ 255 := by
  intro z hz
  unfold Rm.encs at hz
  rw [List.mem_flatten] at hz
  obtain ⟨y, hy, hzy⟩ := hz
  obtain ⟨x, hx, rfl⟩ := List.mem_map.1 hy
  have := h x hx
  exact encN_byte 9 x this.1 (by rw [top9]; omega) z hzy
theorem nums_bound {l : List E8} (h : Ok l) (hw : ∀ r ∈ l, Ww r) : ∀ x ∈ ((l.length : Int) :: l.flatMap nums), 0 ≤ x ∧ x ≤ 18446744073709551615 := by
  intro x hx
  rcases List.mem_cons.1 hx with rfl | hx
  · have := h.1; omega
  · obtain ⟨r, hr, hxr⟩ := List.mem_flatMap.1 hx
    obtain ⟨o, a, b, c, d, u, i, n⟩ := r
    obtain ⟨h1, h2, h3, h4, h5, h6⟩ := (may_iff _ _ _ _ _ _ _ _).1 (srt_le l 0 h.2.1 _ hr).1
    obtain ⟨a0, a1, b0, b1, c0, c1, d0, d1, -, -, -⟩ := Sm.ck_ok h2
    obtain ⟨⟨i0, i1⟩, n0, n1⟩ := hw _ hr
    have i0 : 0 ≤ i := i0
    have i1 : i ≤ 18446744073709551615 := i1
    have n0 : 0 ≤ n := n0
    have n1 : n ≤ 18446744073709551615 := n1
    simp [nums] at hxr
    rcases hxr with rfl | rfl | rfl | rfl | rfl | rfl | rfl | rfl <;> omega
theorem encL_bytes {l : List E8} (h : Ok l) (hw : ∀ r ∈ l, Ww r) : Bytes (encL l) := bytes_of (encs_byte _ (nums_bound h hw))
theorem rl_len {zs : List Int} : ∀ (m : Nat) (l : List E8) (k : Nat) (bf : Int) (k' : Nat) (f' : Option (Int × Int)), Rl zs m l k bf k' f' → l.length ≤ m
  | 0, l, k, bf, k', f', h => by rw [h.1]; simp
  | m + 1, l, k, bf, k', f', h => by
    obtain ⟨x, k1, f1, _, _, ⟨_, t, rfl, h2⟩ | ⟨_, _, rfl, _⟩⟩ := h
    · have := rl_len m t k1 (cr x) k' f' h2
      simp; omega
    · simp
theorem rq_len {zs : List Int} {l : List E8} {k' : Nat} {f' : Option (Int × Int)} (h : Rq zs l k' f') : l.length ≤ 32768 := by
  obtain ⟨m, k0, f0, _, ⟨_, _, _, rfl, _⟩ | ⟨_, h1, h2, h3⟩⟩ := h
  · simp
  · have := rl_len _ _ _ _ _ _ h3
    omega
theorem encs_ge : ∀ l : List Int, l.length ≤ (Rm.encs l).length
  | [] => Nat.zero_le _
  | x :: l => by
    rw [Rm.encs_cons, List.length_append, List.length_cons]
    have h1 := encs_ge l
    have h2 := (enc_len x).1
    omega
theorem rq_small {L : List E8} {raw : List Int} {m : Nat} (h : encL L = raw) (hr : raw.length = m) (hm : m ≤ 600) : L.length ≤ 10000 := by
  have h1 := encs_ge ((L.length : Int) :: L.flatMap nums)
  rw [List.length_cons, nums_len] at h1
  have h2 : (Rm.encs ((L.length : Int) :: L.flatMap nums)).length = m := by rw [← hr, ← h]; rfl
  omega
set_option maxRecDepth 100000 in
set_option maxHeartbeats 16000000 in
theorem backLaw (A : Option Addr) (n c : Nat) (l : List E8) (B : Option Addr) (m d : Nat) (raw : List Int) (w : World) (hi : Rw.RS eR w A n c l) (hw : ∀ r ∈ l, Ww r) (hs : Sl w B m d raw) (hb : Bytes raw) :
    Calls Try.prog 9 #[.slice A n c, .slice B m d] w fun e w' => e = .returned (.bool true) ∧ Bel w w' := by
  have HI := Lib.hid hi
  have HWW := Lib.hid hw
  have HS := Lib.hid hs
  have HBY := Lib.hid hb
  have HLN := Lib.hid hi.len
  have HRW := Lib.hid (show raw.length = m from hs.ints.1)
  have KN := Lib.hid (Qu.known w)
  clear hi hw hs hb
  go_enter Try.func9, Try.ntmps9
  go_wp2_with fail
  refine KN.out.mono ?_
  rintro e w1 ⟨rfl, kb⟩
  have K1 := Lib.hid (show Bel w w1 from kb)
  clear kb KN
  by_cases hlong : 60 < n
  · have hlong3 : (60 : Int) < n := by omega
    go_wp2_with fail
    go_ret
    exact ⟨rfl, K1.out⟩
  have hlong3 : ¬ (60 : Int) < n := by omega
  by_cases hlm : 600 < m
  · have hlm3 : (600 : Int) < m := by omega
    go_wp2_with fail
    go_ret
    exact ⟨rfl, K1.out⟩
  have hlm3 : ¬ (600 : Int) < m := by omega
  have HN := Lib.hid (show n ≤ 60 ∧ m ≤ 600 by omega)
  clear hlong hlm
  have CK := Lib.hid (check A n c l w1 (HI.out.bel K1.out) (by have := HN.out; omega) (fun r hr => (HWW.out r hr).2))
  obtain ⟨e0, he0⟩ : ∃ e, (chk l).1 = e := ⟨_, rfl⟩
  obtain ⟨i0, hi0⟩ : ∃ e, (chk l).2 = e := ⟨_, rfl⟩
  have HE0 := Lib.hid he0
  rw [he0, hi0] at CK
  clear he0 hi0
  go_wp2_with fail
  refine CK.out.mono ?_
  rintro e w2 ⟨rfl, kb⟩
  have K2 := Lib.hid (K1.out.trans kb)
  clear kb CK K1
  have BY := Lib.hid (show Calls Try.prog 37 #[.slice A n c] w2 fun e w' => ∃ v, e = .returned (.tuple #[v, .int .i64 e0]) ∧ Fresh w2 w' v (if e0 = 0 then encL l else []) from by
    have h := bytes_ A n c l w2 (HI.out.bel K2.out) (by have := HN.out; omega) (fun r hr => (HWW.out r hr).2) (fun r hr => (HWW.out r hr).1)
    unfold ByR at h
    rwa [HE0.out] at h)
  go_wp2_with fail
  refine BY.out.mono ?_
  rintro e w3 ⟨v3, rfl, hf⟩
  obtain ⟨A3, c3, rfl, hsl⟩ := Cd.Fresh.sl hf
  have K3 := Lib.hid (K2.out.trans hf.2)
  have S3 := Lib.hid hsl
  have hne : (e0 != e0) = false := by simp
  clear hf hsl BY K2
  by_cases hz : e0 = 0
  case neg =>
    have hnz : (e0 == 0) = false := beq_eq_false_iff_ne.2 hz
    clear S3
    obtain ⟨L, k', f', hrq, hk', hnz, hww, hgood⟩ := rq_of raw HBY.out
    obtain ⟨⟨e1, e2⟩, he⟩ : ∃ e, endOf raw.length k' f' = e := ⟨_, rfl⟩
    have HLL := Lib.hid (rq_len hrq)
    have RD2 := Lib.hid (read_ B m d raw L k' f' e1 e2 w3 (HS.out.bel K3.out) (by have := HN.out; omega) HBY.out hrq HLL.out (fun r hr => (hww r hr).2) he)
    have HW2 := Lib.hid hww
    have HG := Lib.hid (show (rdE (e1, e2) L).1 = 0 → rdE (e1, e2) L = (0, 0) ∧ Ok L ∧ encL L = raw from fun h => by
      by_cases h1 : e1 = 0
      · by_cases h2 : 4611686018427387904 < tot L
        · have e : rdE (e1, e2) L = (12, 0) := by unfold rdE; rw [if_neg (by simpa using h1), if_pos h2]
          rw [e] at h; cases h
        · obtain ⟨q1, q2, q3⟩ := end_e2 he hnz h1
          obtain ⟨r1, r2, r3⟩ := hgood q2
          refine ⟨by unfold rdE; rw [if_neg (by simpa using h1), if_neg h2], ⟨r1, r2, by omega⟩, ?_⟩
          rw [r3]
          exact List.take_of_length_le q3
      · have e : rdE (e1, e2) L = (e1, e2) := if_pos h1
        rw [e] at h
        exact absurd h h1)
    obtain ⟨⟨E1, E2⟩, hE⟩ : ∃ E, rdE (e1, e2) L = E := ⟨_, rfl⟩
    have HRL := Lib.hid (show rdL (e1, e2) L = if E1 = 0 then L else [] by unfold rdL; rw [hE])
    rw [hE] at RD2 HG
    clear hrq hk' hnz hww hgood he hE
    go_wp2_with fail
    refine RD2.out.mono ?_
    rintro e w7 ⟨v7, rfl, ho, kb⟩
    have K7 := Lib.hid (K3.out.trans kb)
    rw [HRL.out] at ho
    have O7 := Lib.hid ho
    clear kb ho RD2
    by_cases h0 : E1 = 0
    · subst h0
      obtain ⟨hz, hok, henc⟩ := HG.out rfl
      injection hz with _ hz
      subst hz
      have O7 := Lib.hid (show OwnE w7 _ v7 L from by have := O7.out; rwa [if_pos rfl] at this)
      obtain ⟨A7, c7, rfl, hr7⟩ := O7.out.slice
      have F0 := Blk.new w7 #[.int .i64 0, .int .i64 0] 60
      have FB := (Bel.refl w7).alloc (.cells #[.int .i64 0, .int .i64 0] 60)
      go_upto_region 13 with fail
      obtain ⟨w8, hV⟩ : ∃ V, World.alloc w7 (.cells #[.int .i64 0, .int .i64 0] 60) = V := ⟨_, rfl⟩
      obtain ⟨g8, hg⟩ : ∃ g, (World.heap w7).size = g := ⟨_, rfl⟩
      rw [hV] at F0 FB ⊢
      rw [hg] at F0 ⊢
      have f0 := F0.cell 0 rfl
      have f1 := F0.cell 1 rfl
      clear hV hg
      have K8 := Lib.hid (K7.out.trans FB)
      have BY := Lib.hid (bytes_ A7 L.length c7 L w8 (hr7.bel FB) (rq_small henc HRW.out HN.out.2) (fun r hr => (HW2.out r hr).2) (fun r hr => (HW2.out r hr).1))
      have BY := Lib.hid (show Calls Try.prog 37 #[.slice A7 L.length c7] w8 fun e w' => ∃ v, e = .returned (.tuple #[v, .int .i64 0]) ∧ Fresh w8 w' v raw from BY.out.mono (by
        rintro e w' ⟨v, rfl, hf⟩
        rw [if_pos (chk_ok.2 hok), henc] at hf
        exact ⟨v, by rw [chk_ok.2 hok], hf⟩))
      have EQ := fun V => (Rw.neq_fault 0 0 0 0 V).trans (by rw [decide_eq_true (rfl : ((0 : Int), (0 : Int)) = (0, 0))])
      clear FB hok henc hr7 K7 O7
      go_wp2_with fail
      refine BY.out.mono ?_
      rintro e w9 ⟨v9, rfl, hf⟩
      obtain ⟨A9, c9, rfl, hsl⟩ := Cd.Fresh.sl hf
      have K9 := Lib.hid (K8.out.trans hf.2)
      have SB := Lib.hid (Cd.same A9 B raw.length c9 m d raw w9 hsl.ints (HS.out.bel K9.out).ints)
      clear hf hsl BY K8 f0 f1 F0 EQ
      go_wp2_with fail
      refine SB.out.mono ?_
      rintro e wa ⟨rfl, rfl⟩
      go_wp2_with fail
      go_ret
      exact ⟨rfl, K9.out⟩
    · have O7 := Lib.hid (show OwnE w7 _ v7 [] from by have := O7.out; rwa [if_neg h0] at this)
      obtain ⟨A7, c7, rfl, _⟩ := O7.out.slice
      have F0 := Blk.new w7 #[.int .i64 E1, .int .i64 E2] 60
      have FB := (Bel.refl w7).alloc (.cells #[.int .i64 E1, .int .i64 E2] 60)
      go_upto_region 13 with fail
      obtain ⟨w8, hV⟩ : ∃ V, World.alloc w7 (.cells #[.int .i64 E1, .int .i64 E2] 60) = V := ⟨_, rfl⟩
      obtain ⟨g8, hg⟩ : ∃ g, (World.heap w7).size = g := ⟨_, rfl⟩
      rw [hV] at F0 FB ⊢
      rw [hg] at F0 ⊢
      have f0 := F0.cell 0 rfl
      have f1 := F0.cell 1 rfl
      clear hV hg
      have K8 := Lib.hid (K7.out.trans FB)
      have EQ := fun V => (Rw.neq_fault E1 E2 0 0 V).trans (by rw [decide_eq_false (fun h => h0 (by injection h))])
      clear FB K7 O7 h0
      go_wp2_with fail
      go_ret
      exact ⟨rfl, K8.out⟩
  subst hz
  have HOK := Lib.hid (chk_ok.1 HE0.out)
  have HYB := Lib.hid (encL_bytes HOK.out HWW.out)
  have RQ := Lib.hid (rq_enc HOK.out.1 HOK.out.2.1 HWW.out)
  have S3 := Lib.hid (show Sl w3 A3 (encL l).length c3 (encL l) from by have := S3.out; rwa [if_pos rfl] at this)
  have HYL := Lib.hid (show (encL l).length ≤ 1000000 from by
    have h1 := encP_len (l.length : Int) l
    have h2 := HLN.out
    have h3 := HN.out
    show (encP (l.length : Int) l).length ≤ _
    omega)
  obtain ⟨ys, hys⟩ : ∃ ys, encL l = ys := ⟨_, rfl⟩
  rw [if_pos rfl, hys]
  rw [hys] at HYB RQ S3 HYL
  clear hys
  have RD1 := Lib.hid (show Calls Try.prog 38 #[.slice A3 ys.length c3] w3 fun e w' => ∃ v, e = .returned (.tuple #[v, .agg #[.int .i64 0, .int .i64 0]]) ∧ OwnE w' w3.heap.size v l ∧ Bel w3 w' from by
    have h := read_ A3 ys.length c3 ys l ys.length none 0 0 w3 S3.out HYL.out HYB.out RQ.out HOK.out.1 (fun r hr => (HWW.out r hr).2) (by
      show (if ys.length < ys.length then ((4 : Int), (ys.length : Int)) else (0, 0)) = (0, 0)
      rw [if_neg (Nat.lt_irrefl _)])
    have e : rdE (0, 0) l = (0, 0) := by unfold rdE; rw [if_neg (by simp), if_neg (by have := HOK.out.2.2; omega)]
    unfold rdL at h
    rwa [e, if_pos rfl] at h)
  go_wp2_with fail
  refine RD1.out.mono ?_
  rintro e w4 ⟨v4, rfl, ho, kb⟩
  obtain ⟨A4, c4, rfl, hr4⟩ := ho.slice
  have K4 := Lib.hid (K3.out.trans kb)
  have R4_ := Lib.hid hr4
  clear kb ho hr4 RD1 K3 RQ S3
  have F0 := Blk.new w4 #[.int .i64 0, .int .i64 0] 60
  have FB := (Bel.refl w4).alloc (.cells #[.int .i64 0, .int .i64 0] 60)
  go_upto_region 10 with fail
  obtain ⟨w5, hV⟩ : ∃ V, World.alloc w4 (.cells #[.int .i64 0, .int .i64 0] 60) = V := ⟨_, rfl⟩
  obtain ⟨g5, hg⟩ : ∃ g, (World.heap w4).size = g := ⟨_, rfl⟩
  rw [hV] at F0 FB ⊢
  rw [hg] at F0 ⊢
  have f0 := F0.cell 0 rfl
  have f1 := F0.cell 1 rfl
  clear hV hg
  have K5 := Lib.hid (K4.out.trans FB)
  have SM := Lib.hid (show Calls Try.prog 16 #[.slice A4 l.length c4, .slice A n c] w5 fun e w' => e = .returned (.bool true) ∧ Bel w5 w' from by
    have h := same_entries A4 A l.length c4 n c l l w5 (R4_.out.bel FB) (HI.out.bel K5.out) (by have := HOK.out.1; omega) (by have := HN.out; omega)
    rwa [decide_eq_true (rfl : l = l)] at h)
  clear FB K4 R4_
  have EQ := Lib.hid (fun V => (Rw.neq_fault 0 0 0 0 V).trans (by rw [decide_eq_true (rfl : ((0 : Int), (0 : Int)) = (0, 0))]))
  go_wp2_with (refine Rw.wpList_val (by rfl) (.bool false) (fun w => Rw.exec_neq rfl _ _ rfl rfl (by kernel_rfl) EQ.out w) ?_)
  refine SM.out.mono ?_
  rintro e w6 ⟨rfl, kb⟩
  have K6 := Lib.hid (show Bel w w6 from K5.out.trans kb)
  clear kb SM f0 f1 EQ K5 F0
  obtain ⟨L, k', f', hrq, hk', hnz, hww, hgood⟩ := rq_of raw HBY.out
  obtain ⟨⟨e1, e2⟩, he⟩ : ∃ e, endOf raw.length k' f' = e := ⟨_, rfl⟩
  have HLL := Lib.hid (rq_len hrq)
  have RD2 := Lib.hid (read_ B m d raw L k' f' e1 e2 w6 (HS.out.bel K6.out) (by have := HN.out; omega) HBY.out hrq HLL.out (fun r hr => (hww r hr).2) he)
  have HW2 := Lib.hid hww
  have HG := Lib.hid (show (rdE (e1, e2) L).1 = 0 → rdE (e1, e2) L = (0, 0) ∧ Ok L ∧ encL L = raw from fun h => by
    by_cases h1 : e1 = 0
    · by_cases h2 : 4611686018427387904 < tot L
      · have e : rdE (e1, e2) L = (12, 0) := by unfold rdE; rw [if_neg (by simpa using h1), if_pos h2]
        rw [e] at h; cases h
      · obtain ⟨q1, q2, q3⟩ := end_e2 he hnz h1
        obtain ⟨r1, r2, r3⟩ := hgood q2
        refine ⟨by unfold rdE; rw [if_neg (by simpa using h1), if_neg h2], ⟨r1, r2, by omega⟩, ?_⟩
        rw [r3]
        exact List.take_of_length_le q3
    · have e : rdE (e1, e2) L = (e1, e2) := if_pos h1
      rw [e] at h
      exact absurd h h1)
  obtain ⟨⟨E1, E2⟩, hE⟩ : ∃ E, rdE (e1, e2) L = E := ⟨_, rfl⟩
  have HRL := Lib.hid (show rdL (e1, e2) L = if E1 = 0 then L else [] by unfold rdL; rw [hE])
  rw [hE] at RD2 HG
  clear hrq hk' hnz hww hgood he hE
  go_wp2_with fail
  refine RD2.out.mono ?_
  rintro e w7 ⟨v7, rfl, ho, kb⟩
  have K7 := Lib.hid (K6.out.trans kb)
  rw [HRL.out] at ho
  have O7 := Lib.hid ho
  clear kb ho RD2
  by_cases h0 : E1 = 0
  · subst h0
    obtain ⟨hz, hok, henc⟩ := HG.out rfl
    injection hz with _ hz
    subst hz
    have O7 := Lib.hid (show OwnE w7 _ v7 L from by have := O7.out; rwa [if_pos rfl] at this)
    obtain ⟨A7, c7, rfl, hr7⟩ := O7.out.slice
    have F0 := Blk.new w7 #[.int .i64 0, .int .i64 0] 60
    have FB := (Bel.refl w7).alloc (.cells #[.int .i64 0, .int .i64 0] 60)
    go_upto_region 13 with fail
    obtain ⟨w8, hV⟩ : ∃ V, World.alloc w7 (.cells #[.int .i64 0, .int .i64 0] 60) = V := ⟨_, rfl⟩
    obtain ⟨g8, hg⟩ : ∃ g, (World.heap w7).size = g := ⟨_, rfl⟩
    rw [hV] at F0 FB ⊢
    rw [hg] at F0 ⊢
    have f0 := F0.cell 0 rfl
    have f1 := F0.cell 1 rfl
    clear hV hg
    have K8 := Lib.hid (K7.out.trans FB)
    have BY := Lib.hid (bytes_ A7 L.length c7 L w8 (hr7.bel FB) (rq_small henc HRW.out HN.out.2) (fun r hr => (HW2.out r hr).2) (fun r hr => (HW2.out r hr).1))
    have BY := Lib.hid (show Calls Try.prog 37 #[.slice A7 L.length c7] w8 fun e w' => ∃ v, e = .returned (.tuple #[v, .int .i64 0]) ∧ Fresh w8 w' v raw from BY.out.mono (by
      rintro e w' ⟨v, rfl, hf⟩
      rw [if_pos (chk_ok.2 hok), henc] at hf
      exact ⟨v, by rw [chk_ok.2 hok], hf⟩))
    have EQ := fun V => (Rw.neq_fault 0 0 0 0 V).trans (by rw [decide_eq_true (rfl : ((0 : Int), (0 : Int)) = (0, 0))])
    clear FB hok henc hr7 K7 O7
    go_wp2_with fail
    refine BY.out.mono ?_
    rintro e w9 ⟨v9, rfl, hf⟩
    obtain ⟨A9, c9, rfl, hsl⟩ := Cd.Fresh.sl hf
    have K9 := Lib.hid (K8.out.trans hf.2)
    have SB := Lib.hid (Cd.same A9 B raw.length c9 m d raw w9 hsl.ints (HS.out.bel K9.out).ints)
    clear hf hsl BY K8 f0 f1 F0 EQ
    go_wp2_with fail
    refine SB.out.mono ?_
    rintro e wa ⟨rfl, rfl⟩
    go_wp2_with fail
    go_ret
    exact ⟨rfl, K9.out⟩
  · have O7 := Lib.hid (show OwnE w7 _ v7 [] from by have := O7.out; rwa [if_neg h0] at this)
    obtain ⟨A7, c7, rfl, _⟩ := O7.out.slice
    have F0 := Blk.new w7 #[.int .i64 E1, .int .i64 E2] 60
    have FB := (Bel.refl w7).alloc (.cells #[.int .i64 E1, .int .i64 E2] 60)
    go_upto_region 13 with fail
    obtain ⟨w8, hV⟩ : ∃ V, World.alloc w7 (.cells #[.int .i64 E1, .int .i64 E2] 60) = V := ⟨_, rfl⟩
    obtain ⟨g8, hg⟩ : ∃ g, (World.heap w7).size = g := ⟨_, rfl⟩
    rw [hV] at F0 FB ⊢
    rw [hg] at F0 ⊢
    have f0 := F0.cell 0 rfl
    have f1 := F0.cell 1 rfl
    clear hV hg
    have K8 := Lib.hid (K7.out.trans FB)
    have EQ := fun V => (Rw.neq_fault E1 E2 0 0 V).trans (by rw [decide_eq_false (fun h => h0 (by injection h))])
    clear FB K7 O7 h0
    go_wp2_with fail
    go_ret
    exact ⟨rfl, K8.out⟩
theorem ents_rs2 {w : World} {A : Option Addr} {n c : Nat} (h : Ents w A n c) : ∃ l, Rw.RS eR w A n c l ∧ ∀ r ∈ l, Ww r := by
  obtain ⟨h1, h2, h3⟩ := h
  by_cases h0 : 0 < n
  · obtain ⟨b, o, rfl, hb, hr⟩ := h3 h0
    obtain ⟨l, q1, q2, q3⟩ := rows_in eR Ww (w := w) (b := b) (o := o) n (fun i hi => by
      obtain ⟨z0, z1, z2, z3, z4, z5, z6, z7, hz, hc⟩ := hr i hi
      obtain ⟨_, _, _, _, _, _, _, _, _, _, _, _, p1, p2, p3, p4⟩ := hz
      exact ⟨(z0, z1, z2, z3, z4, z5, z6, z7), ⟨⟨p1, p2⟩, p3, p4⟩, hc⟩)
    exact ⟨l, ⟨q1, h1, h2, fun _ => ⟨b, o, rfl, hb, q3⟩⟩, q2⟩
  · obtain rfl : n = 0 := by omega
    exact ⟨[], ⟨rfl, h1, h2, fun h => absurd h (by omega)⟩, fun r hr => by cases hr⟩
theorem backLawW (A : Option Addr) (n c : Nat) (B : Option Addr) (m d : Nat) (raw : List Int) (w : World) (hn : n ≤ 9223372036854775807) (hi : Ents w A n c) (hm : m ≤ 9223372036854775807) (hs : Sl w B m d raw) (hb : Bytes raw) :
    Calls Try.prog 9 #[.slice A n c, .slice B m d] w fun e w' => e = .returned (.bool true) ∧ Bel w w' := by
  obtain ⟨l, h1, h2⟩ := ents_rs2 hi
  exact backLaw A n c l B m d raw w h1 h2 hs hb
end Qu
end Go.Proofs.Ytejmgdanbjkckaa
