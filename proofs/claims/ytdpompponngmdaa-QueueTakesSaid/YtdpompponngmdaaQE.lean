/-
  Texts of this claim, put together: Qu21, QuIn. What each one says, and under which conditions, stands ahead of it.
-/
import Derived.Test.YtdpompponngmdaaQD

section
/-
  What awake of the laws answers: true. No condition.
-/
namespace Go.Proofs.Ytdpompponngmdaa
open Go.RowKit Go.Shelf
set_option linter.unusedVariables false
set_option linter.unusedSimpArgs false
set_option Elab.async false
namespace Qu
open Kk Pm

/-- The chapter's queue. -/
def C3 : List E8 := [(0, 2, 5, -1, 0, 9, 10, 10), (1, 2, 5, -1, 0, 9, 20, 20), (0, 3, 6, 2, 5, 12, 30, 30)]
def uR : Rw.Row Int where
  k := fun n => [.int .u64 n]
  z := 1
  len := fun _ => rfl
  one := fun r u hu => by
    simp at hu
    subst hu
    rfl
  pos := by decide
theorem wd3 : Wd C3 := fun r hr => by
  simp [C3] at hr
  rcases hr with rfl | rfl | rfl <;> (unfold bal; simp)
theorem load_st {w : World} {b : Nat} {x1 x2 x3 x4 : Int} (h : Blk w b #[.int .i64 x1, .int .i64 x2, .int .i64 x3, .int .i64 x4] 24) : (loadVar 24 ⟨b, 0, none⟩).run Try.prog w = .ok (.agg #[.int .i64 x1, .int .i64 x2, .int .i64 x3, .int .i64 x4]) w :=
  Pm.load_b (C := [.int .i64 x1, .int .i64 x2, .int .i64 x3, .int .i64 x4]) h Try.underlying24 rfl info_St
theorem two_ (w : World) : Calls Try.prog 34 #[] w fun e w' => e = .returned (.agg #[.int .i64 2, .int .i64 5, .int .i64 (-1), .int .i64 0]) ∧ Bel w w' := by
  have P0 := Lib.hid (Blk.new w #[.int .i64 0, .int .i64 0, .int .i64 0, .int .i64 0] 24)
  obtain ⟨W, hW⟩ : ∃ W, w.alloc (.cells #[.int .i64 0, .int .i64 0, .int .i64 0, .int .i64 0] 24) = W := ⟨_, rfl⟩
  have BW := Lib.hid (show Bel w W by rw [← hW]; exact (Bel.refl w).alloc _)
  rw [hW] at P0
  have HW := Lib.hid hW
  clear hW
  go_enter Try.func34, Try.ntmps34
  go_upto_region 1 with fail
  rw [HW.out]
  obtain ⟨g, hg⟩ : ∃ g, w.heap.size = g := ⟨_, rfl⟩
  rw [hg] at P0 ⊢
  have HG := Lib.hid hg
  clear hg
  have c0 := P0.out.cell 0 rfl
  have c1 := P0.out.cell 1 rfl
  have c2 := P0.out.cell 2 rfl
  have c3 := P0.out.cell 3 rfl
  have f0 := P0.out.frozen 0
  have f1 := P0.out.frozen 1
  have f2 := P0.out.frozen 2
  have f3 := P0.out.frozen 3
  go_wp2_with fail
  refine bodyPost_ret (Pm.res_c rfl _ _ ⟨g, 0, none⟩ _ rfl (load_st (x1 := 2) (x2 := 5) (x3 := (-1)) (x4 := 0) ((((P0.out.set 0 _).set 1 _).set 2 _).set 3 _))) rfl ⟨rfl, ?_⟩
  have h : w.heap.size ≤ g := by rw [HG.out]; exact Nat.le_refl _
  exact (((BW.out.set h _).set h _).set h _).set h _
theorem hop_ (w : World) : Calls Try.prog 36 #[] w fun e w' => e = .returned (.agg #[.int .i64 3, .int .i64 6, .int .i64 2, .int .i64 5]) ∧ Bel w w' := by
  have P0 := Lib.hid (Blk.new w #[.int .i64 0, .int .i64 0, .int .i64 0, .int .i64 0] 24)
  obtain ⟨W, hW⟩ : ∃ W, w.alloc (.cells #[.int .i64 0, .int .i64 0, .int .i64 0, .int .i64 0] 24) = W := ⟨_, rfl⟩
  have BW := Lib.hid (show Bel w W by rw [← hW]; exact (Bel.refl w).alloc _)
  rw [hW] at P0
  have HW := Lib.hid hW
  clear hW
  go_enter Try.func36, Try.ntmps36
  go_upto_region 1 with fail
  rw [HW.out]
  obtain ⟨g, hg⟩ : ∃ g, w.heap.size = g := ⟨_, rfl⟩
  rw [hg] at P0 ⊢
  have HG := Lib.hid hg
  clear hg
  have c0 := P0.out.cell 0 rfl
  have c1 := P0.out.cell 1 rfl
  have c2 := P0.out.cell 2 rfl
  have c3 := P0.out.cell 3 rfl
  have f0 := P0.out.frozen 0
  have f1 := P0.out.frozen 1
  have f2 := P0.out.frozen 2
  have f3 := P0.out.frozen 3
  go_wp2_with fail
  refine bodyPost_ret (Pm.res_c rfl _ _ ⟨g, 0, none⟩ _ rfl (load_st (x1 := 3) (x2 := 6) (x3 := 2) (x4 := 5) ((((P0.out.set 0 _).set 1 _).set 2 _).set 3 _))) rfl ⟨rfl, ?_⟩
  have h : w.heap.size ≤ g := by rw [HG.out]; exact Nat.le_refl _
  exact (((BW.out.set h _).set h _).set h _).set h _
set_option maxHeartbeats 1000000 in
theorem entry_ (o a b c d u n : Int) (w : World) : Calls Try.prog 33 #[.int .i64 o, .agg #[.int .i64 a, .int .i64 b, .int .i64 c, .int .i64 d], .int .i64 u, .int .u64 n] w fun e w' => e = .returned (.agg #[.int .i64 o, .int .i64 a, .int .i64 b, .int .i64 c, .int .i64 d, .int .i64 u, .int .u64 n, .int .u64 n]) ∧ Bel w w' := by
  obtain ⟨W, hW⟩ : ∃ W, (w.alloc (.cells #[.int .i64 a, .int .i64 b, .int .i64 c, .int .i64 d] 24)).alloc (.cells #[.int .i64 0, .int .i64 0, .int .i64 0, .int .i64 0, .int .i64 0, .int .i64 0, .int .u64 0, .int .u64 0] 27) = W := ⟨_, rfl⟩
  have BW := Lib.hid (show Bel w W by rw [← hW]; exact ((Bel.refl w).alloc _).alloc _)
  have P1 := Lib.hid (show Blk W w.heap.size #[.int .i64 a, .int .i64 b, .int .i64 c, .int .i64 d] 24 by rw [← hW]; exact (Blk.new w _ _).alloc _)
  have P0 := Lib.hid (show Blk W (w.heap.size + 1) #[.int .i64 0, .int .i64 0, .int .i64 0, .int .i64 0, .int .i64 0, .int .i64 0, .int .u64 0, .int .u64 0] 27 by
    rw [← hW]
    have := Blk.new (w.alloc (.cells #[.int .i64 a, .int .i64 b, .int .i64 c, .int .i64 d] 24)) #[.int .i64 0, .int .i64 0, .int .i64 0, .int .i64 0, .int .i64 0, .int .i64 0, .int .u64 0, .int .u64 0] 27
    rw [World.size_alloc] at this
    exact this)
  have HW := Lib.hid hW
  clear hW
  go_enter Try.func33, Try.ntmps33
  go_upto_region 1 with fail
  rw [HW.out]
  obtain ⟨g, hg⟩ : ∃ g, w.heap.size + 1 = g := ⟨_, rfl⟩
  obtain ⟨g1, hg1⟩ : ∃ g, w.heap.size = g := ⟨_, rfl⟩
  rw [hg] at P0 ⊢
  rw [hg1] at P1 ⊢
  have HG := Lib.hid (show w.heap.size ≤ g by omega)
  clear hg hg1
  have d0 := P1.out.cell 0 rfl
  have d1 := P1.out.cell 1 rfl
  have d2 := P1.out.cell 2 rfl
  have d3 := P1.out.cell 3 rfl
  have c0 := P0.out.cell 0 rfl
  have f0 := P0.out.frozen 0
  have c1 := P0.out.cell 1 rfl
  have f1 := P0.out.frozen 1
  have c2 := P0.out.cell 2 rfl
  have f2 := P0.out.frozen 2
  have c3 := P0.out.cell 3 rfl
  have f3 := P0.out.frozen 3
  have c4 := P0.out.cell 4 rfl
  have f4 := P0.out.frozen 4
  have c5 := P0.out.cell 5 rfl
  have f5 := P0.out.frozen 5
  have c6 := P0.out.cell 6 rfl
  have f6 := P0.out.frozen 6
  have c7 := P0.out.cell 7 rfl
  have f7 := P0.out.frozen 7
  go_wp2_with fail
  refine bodyPost_ret (Pm.res_c rfl _ _ ⟨g, 0, none⟩ _ rfl (load_e (o := o) (v := a) (si := b) (p := c) (f := d) (c := u) (i := n) (n := n) ((((((((P0.out.set 0 _).set 1 _).set 2 _).set 3 _).set 4 _).set 5 _).set 6 _).set 7 _))) rfl ⟨rfl, ?_⟩
  have h := HG.out
  exact (((((((BW.out.set h _).set h _).set h _).set h _).set h _).set h _).set h _).set h _
set_option maxRecDepth 100000 in
set_option maxHeartbeats 8000000 in
theorem chapter_ (w : World) : Calls Try.prog 30 #[] w fun e w' => ∃ A c, e = .returned (.slice A 3 c) ∧ Rw.RS eR w' A 3 c C3 ∧ Bel w w' := by
  have K0 := Lib.hid (Bel.refl w)
  go_enter Try.func30, Try.ntmps30
  go_wp2_with fail
  refine (two_ _).mono ?_
  rintro e w1 ⟨rfl, kb⟩
  have K1 := Lib.hid (K0.out.trans kb)
  clear kb
  go_wp2_with fail
  refine (entry_ 0 2 5 (-1) 0 9 10 _).mono ?_
  rintro e w2 ⟨rfl, kb⟩
  have K2 := Lib.hid (K1.out.trans kb)
  clear kb
  go_wp2_with fail
  refine (two_ _).mono ?_
  rintro e w3 ⟨rfl, kb⟩
  have K3 := Lib.hid (K2.out.trans kb)
  clear kb
  go_wp2_with fail
  refine (entry_ 1 2 5 (-1) 0 9 20 _).mono ?_
  rintro e w4 ⟨rfl, kb⟩
  have K4 := Lib.hid (K3.out.trans kb)
  clear kb
  go_wp2_with fail
  refine (hop_ _).mono ?_
  rintro e w5 ⟨rfl, kb⟩
  have K5 := Lib.hid (K4.out.trans kb)
  clear kb
  go_wp2_with fail
  refine (entry_ 0 3 6 2 5 12 30 _).mono ?_
  rintro e w6 ⟨rfl, kb⟩
  have K6 := Lib.hid (K5.out.trans kb)
  clear kb
  go_upto_region 3 with fail
  obtain ⟨W, hW⟩ : ∃ W, w6.alloc (.cells #[.int .i64 0, .int .i64 2, .int .i64 5, .int .i64 (-1), .int .i64 0, .int .i64 9, .int .u64 10, .int .u64 10, .int .i64 1, .int .i64 2, .int .i64 5, .int .i64 (-1), .int .i64 0, .int .i64 9, .int .u64 20, .int .u64 20, .int .i64 0, .int .i64 3, .int .i64 6, .int .i64 2, .int .i64 5, .int .i64 12, .int .u64 30, .int .u64 30] 27) = W := ⟨_, rfl⟩
  have HBK := Lib.hid (show Blk W w6.heap.size #[.int .i64 0, .int .i64 2, .int .i64 5, .int .i64 (-1), .int .i64 0, .int .i64 9, .int .u64 10, .int .u64 10, .int .i64 1, .int .i64 2, .int .i64 5, .int .i64 (-1), .int .i64 0, .int .i64 9, .int .u64 20, .int .u64 20, .int .i64 0, .int .i64 3, .int .i64 6, .int .i64 2, .int .i64 5, .int .i64 12, .int .u64 30, .int .u64 30] 27 by rw [← hW]; exact Blk.new w6 _ _)
  have KW := Lib.hid (show Bel w W by rw [← hW]; exact K6.out.alloc _)
  rw [hW]
  obtain ⟨g, hg⟩ : ∃ g, w6.heap.size = g := ⟨_, rfl⟩
  rw [hg] at HBK ⊢
  clear hW hg K0 K1 K2 K3 K4 K5 K6
  go_wp2_with fail
  go_loopw [0, 1, 3] (fun s0 s1 s3 wr => ∃ k : Nat, k ≤ 3 ∧ s3 = .int .i64 k ∧ s0 = .slice none 0 0 ∧ Hid (OwnE wr w.heap.size s1 (C3.take k)) ∧ Hid (Blk wr g #[.int .i64 0, .int .i64 2, .int .i64 5, .int .i64 (-1), .int .i64 0, .int .i64 9, .int .u64 10, .int .u64 10, .int .i64 1, .int .i64 2, .int .i64 5, .int .i64 (-1), .int .i64 0, .int .i64 9, .int .u64 20, .int .u64 20, .int .i64 0, .int .i64 3, .int .i64 6, .int .i64 2, .int .i64 5, .int .i64 12, .int .u64 30, .int .u64 30] 27) ∧ Hid (Bel w wr)) (fun _ _ s3 _ => 3 - (intOf s3).toNat)
  case atStart => exact ⟨0, by omega, rfl, rfl, Lib.hid (Rw.OwnR.nil_ _ _ _ _), HBK, KW⟩
  case round =>
    obtain ⟨k, hk, rfl, rfl, hm, HBK, hh⟩ := hrel
    obtain ⟨Am, cm, rfl, hmr⟩ := Rw.OwnR.slice hm.out
    by_cases hlt : k < 3
    · have h3 : k = 0 ∨ k = 1 ∨ k = 2 := by omega
      clear hm
      rcases h3 with rfl | rfl | rfl
      · have AD := Lib.hid (add Am 0 cm (C3.take 0) 0 2 5 (-1) 0 9 10 10 2 wr hmr (by decide) (fun r hr => wd3 r (List.mem_of_mem_take hr)) (by decide))
        have c0 := HBK.out.cell 0 rfl
        have c1 := HBK.out.cell 1 rfl
        have c2 := HBK.out.cell 2 rfl
        have c3 := HBK.out.cell 3 rfl
        have c4 := HBK.out.cell 4 rfl
        have c5 := HBK.out.cell 5 rfl
        have c6 := HBK.out.cell 6 rfl
        have c7 := HBK.out.cell 7 rfl
        clear hmr
        go_wp2_with fail
        refine AD.out.mono ?_
        rintro e w9 ⟨y9, rfl, ho, kb⟩
        rw [show addE (C3.take 0) (0, 2, 5, -1, 0, 9, 10, 10) 2 = 0 by decide +kernel]
        rw [show addL (C3.take 0) (0, 2, 5, -1, 0, 9, 10, 10) 2 = C3.take 1 by decide +kernel] at ho
        have S1 := Lib.hid (show OwnE w9 w.heap.size y9 (C3.take 1) from ho.mono (Below.size hh.out))
        have S2 := Lib.hid (HBK.out.bel kb)
        have S3 := Lib.hid (hh.out.trans kb)
        clear ho kb AD c0 c1 c2 c3 c4 c5 c6 c7
        go_wp2_with fail
        go_roundw
        case rel => exact ⟨1, by omega, rfl, rfl, S1, S2, S3⟩
        case measure => simp [intOf]
      · have AD := Lib.hid (add Am 1 cm (C3.take 1) 1 2 5 (-1) 0 9 20 20 2 wr hmr (by decide) (fun r hr => wd3 r (List.mem_of_mem_take hr)) (by decide))
        have c0 := HBK.out.cell 8 rfl
        have c1 := HBK.out.cell 9 rfl
        have c2 := HBK.out.cell 10 rfl
        have c3 := HBK.out.cell 11 rfl
        have c4 := HBK.out.cell 12 rfl
        have c5 := HBK.out.cell 13 rfl
        have c6 := HBK.out.cell 14 rfl
        have c7 := HBK.out.cell 15 rfl
        clear hmr
        go_wp2_with fail
        refine AD.out.mono ?_
        rintro e w9 ⟨y9, rfl, ho, kb⟩
        rw [show addE (C3.take 1) (1, 2, 5, -1, 0, 9, 20, 20) 2 = 0 by decide +kernel]
        rw [show addL (C3.take 1) (1, 2, 5, -1, 0, 9, 20, 20) 2 = C3.take 2 by decide +kernel] at ho
        have S1 := Lib.hid (show OwnE w9 w.heap.size y9 (C3.take 2) from ho.mono (Below.size hh.out))
        have S2 := Lib.hid (HBK.out.bel kb)
        have S3 := Lib.hid (hh.out.trans kb)
        clear ho kb AD c0 c1 c2 c3 c4 c5 c6 c7
        go_wp2_with fail
        go_roundw
        case rel => exact ⟨2, by omega, rfl, rfl, S1, S2, S3⟩
        case measure => simp [intOf]
      · have AD := Lib.hid (add Am 2 cm (C3.take 2) 0 3 6 2 5 12 30 30 2 wr hmr (by decide) (fun r hr => wd3 r (List.mem_of_mem_take hr)) (by decide))
        have c0 := HBK.out.cell 16 rfl
        have c1 := HBK.out.cell 17 rfl
        have c2 := HBK.out.cell 18 rfl
        have c3 := HBK.out.cell 19 rfl
        have c4 := HBK.out.cell 20 rfl
        have c5 := HBK.out.cell 21 rfl
        have c6 := HBK.out.cell 22 rfl
        have c7 := HBK.out.cell 23 rfl
        clear hmr
        go_wp2_with fail
        refine AD.out.mono ?_
        rintro e w9 ⟨y9, rfl, ho, kb⟩
        rw [show addE (C3.take 2) (0, 3, 6, 2, 5, 12, 30, 30) 2 = 0 by decide +kernel]
        rw [show addL (C3.take 2) (0, 3, 6, 2, 5, 12, 30, 30) 2 = C3.take 3 by decide +kernel] at ho
        have S1 := Lib.hid (show OwnE w9 w.heap.size y9 (C3.take 3) from ho.mono (Below.size hh.out))
        have S2 := Lib.hid (HBK.out.bel kb)
        have S3 := Lib.hid (hh.out.trans kb)
        clear ho kb AD c0 c1 c2 c3 c4 c5 c6 c7
        go_wp2_with fail
        go_roundw
        case rel => exact ⟨3, by omega, rfl, rfl, S1, S2, S3⟩
        case measure => simp [intOf]
    · obtain rfl : k = 3 := by omega
      have WN := Lib.hid (show Rw.RS eR wr (some ⟨g, 0, none⟩) 3 3 C3 from Rw.rs_blk eR HBK.out rfl (Nat.le_refl _) rfl)
      have hmr : Rw.RS eR wr Am 3 cm C3 := hmr
      have HMR := Lib.hid hmr
      have SE := Lib.hid (show Calls Try.prog 16 #[.slice Am 3 cm, .slice (some ⟨g, 0, none⟩) 3 3] wr fun e w' => e = .returned (.bool true) ∧ Bel wr w' by have h := same_entries Am (some ⟨g, 0, none⟩) 3 cm 3 3 C3 C3 wr hmr WN.out (by decide) (by decide); rwa [decide_eq_true (rfl : C3 = C3)] at h)
      have hlen : (C3.take 3).length = 3 := rfl
      clear hmr
      go_wp2_with fail
      refine SE.out.mono ?_
      rintro e w9 ⟨rfl, kb⟩
      have S1 := Lib.hid (HMR.out.bel kb)
      have S3 := Lib.hid (hh.out.trans kb)
      clear kb SE
      go_wp2_with fail
      go_ret
      exact ⟨Am, cm, rfl, S1.out, S3.out⟩
theorem cell_bel {w w' : World} {b o : Nat} {v : Value} (h : w.cell? ⟨b, o, none⟩ = some v) (hb : Bel w w') : w'.cell? ⟨b, o, none⟩ = some v := by
  have h1 : w.rangeAt b o [v] := fun j u hj => by
    cases j with
    | zero => cases hj; exact h
    | succ j => simp at hj
  exact Pm.rng_bel h1 hb 0 v rfl
set_option maxRecDepth 100000 in
set_option maxHeartbeats 8000000 in
theorem cuts_ (v h p N : Int) (B : Option Addr) (m d : Nat) (ws : List Int) (w : World) (hb : Rw.RS uR w B m d ws) (hm : m ≤ 100) (hE : ctE C3 v h p = 0) (hN : ctN C3 v h p = N) (hl : (ctS C3 v h p).length = m) (hS : ∀ (i : Nat) (x : Int), ws[i]? = some x → (ctS C3 v h p)[i]? = some ((i : Int), x)) (hp : 0 ≤ p ∧ p ≤ 18446744073709551615) :
    Calls Try.prog 31 #[.int .i64 v, .int .i64 h, .int .u64 p, .int .u64 N, .slice B m d] w fun e w' => e = .returned (.bool true) ∧ Bel w w' := by
  have HB := Lib.hid hb
  have HS := Lib.hid hS
  have HL := Lib.hid hl
  have CT := Lib.hid (fun A c W (hr : Rw.RS eR W A 3 c C3) => cut A 3 c C3 v h p W hr (by decide) wd3 hp)
  have HE := Lib.hid hE
  have HN := Lib.hid hN
  obtain ⟨S, hSS⟩ : ∃ S, ctS C3 v h p = S := ⟨_, rfl⟩
  rw [hSS] at HS HL
  have HSS := Lib.hid hSS
  clear hb hS hl hE hN hSS hp
  go_enter Try.func31, Try.ntmps31
  go_wp2_with fail
  refine (chapter_ _).mono ?_
  rintro e w1 ⟨A, c, rfl, hr, kb⟩
  have K1 := Lib.hid kb
  have CT := Lib.hid (CT.out A c w1 hr)
  clear kb hr
  go_wp2_with fail
  refine CT.out.mono ?_
  rintro e w2 ⟨y1, y2, rfl, _, ho, kb⟩
  rw [HSS.out] at ho
  rw [HE.out, HN.out]
  obtain ⟨A2, c2, rfl, hr2⟩ := Rw.OwnR.slice ho
  rw [HL.out] at hr2 ⊢
  have HR2 := Lib.hid hr2
  have K2 := Lib.hid (K1.out.trans kb)
  clear kb ho CT hr2
  go_wp2_with fail
  go_loopw [10, 15] (fun s10 s15 wr => ∃ k : Nat, k ≤ m ∧ s15 = .int .i64 k ∧ s10 = .bool false ∧ Hid (Rw.RS sR wr A2 m c2 S) ∧ Hid (Bel w wr)) (fun _ s15 _ => m - (intOf s15).toNat)
  case atStart => exact ⟨0, Nat.zero_le _, rfl, rfl, HR2, K2⟩
  case round =>
    obtain ⟨k, hk, rfl, rfl, hs, hh⟩ := hrel
    by_cases hlt : k < m
    · obtain ⟨x, hx⟩ := HB.out.get hlt
      have hsx := HS.out k x hx
      obtain ⟨sb, so, rfl, _, hrow⟩ := hs.out.at hlt hsx
      obtain ⟨ub, uo, rfl, _, hurow⟩ := (HB.out.bel hh.out).at hlt hx
      have HROW := Lib.hid (show wr.rangeAt sb (so + k * 2) [.int .i64 k, .int .u64 x] from hrow)
      have HU := Lib.hid (show wr.cell? ⟨ub, uo + k, none⟩ = some (.int .u64 x) by
        have := hurow 0 (.int .u64 x) rfl
        rw [show uo + k * uR.z + 0 = uo + k by show uo + k * 1 + 0 = _; omega] at this
        exact this)
      have EQ := Lib.hid (fun V : World => (show (binOp .neq 68 (.agg #[.int .i64 k, .int .u64 x]) (.agg #[.int .i64 k, .int .u64 x])).run Try.prog V = .ok (.bool false) V by rw [Rw.neq_shave]; simp))
      have hlt3 : (k : Int) < m := by omega
      have hlt0 : (0 : Int) ≤ k := by omega
      clear hx hsx hrow hurow
      go_upto_region 7 with fail
      refine wp_region_held_drew (S := fun Vx => Bel wr Vx) (by kernel_rfl) (Bel.refl _).drew (fun hS0 => ?_)
      obtain ⟨w6, hw6⟩ : ∃ w6, World.drew wr = w6 := ⟨_, rfl⟩
      rw [hw6] at hS0 ⊢
      clear hw6
      refine wpAnyH_take (i := 0) (oi := { dst := some 46, op := .move (.tmp 12), type := 41, pos := "outright.go:45", after := #[], guard := none }) (v := .slice (some ⟨sb, so, none⟩) m c2) rfl (by kernel_rfl) (by kernel_rfl) (by kernel_rfl) (fun _ _ _ h => h) (Or.inl ⟨by rfl, by intro w hSw; clear hSw; go_simp⟩) hS0 ?_
      try simp only [Act.put, List.setIfInBounds_toArray, List.set_cons_zero, List.set_cons_succ]
      refine wpAnyH_take (i := 1) (oi := { dst := some 47, op := .move (.tmp 15), type := 3, pos := "outright.go:45", after := #[], guard := none }) (v := .int .i64 k) rfl (by kernel_rfl) (by kernel_rfl) (by kernel_rfl) (fun _ _ _ h => h) (Or.inl ⟨by rfl, by intro w hSw; clear hSw; go_simp⟩) hS0 ?_
      try simp only [Act.put, List.setIfInBounds_toArray, List.set_cons_zero, List.set_cons_succ]
      refine wpAnyH_take (i := 2) (oi := { dst := some 48, op := .indexAddr 41 (.tmp 46) (.tmp 47), type := 0, pos := "outright.go:45", after := #[{ on := 0, ground := .data }, { on := 1, ground := .data }], guard := none }) (v := .pointer (some ⟨sb, so + k * 2, none⟩)) rfl (by kernel_rfl) (by kernel_rfl) (by kernel_rfl) (fun _ _ _ h => h) (Or.inl ⟨by rfl, by intro w hSw; clear hSw; go_simp⟩) hS0 ?_
      try simp only [Act.put, List.setIfInBounds_toArray, List.set_cons_zero, List.set_cons_succ]
      refine wpAnyH_take (i := 3) (oi := { dst := some 49, op := .load 68 (.tmp 48), type := 68, pos := "outright.go:45", after := #[{ on := 2, ground := .data }], guard := none }) (v := .agg #[.int .i64 k, .int .u64 x]) rfl (by kernel_rfl) (by kernel_rfl) (by kernel_rfl) (fun _ _ _ h => h) (yieldsIf_load_mid (by rfl) _ _ rfl _ _ rfl _ _ (fun w h => Pm.rng_bel HROW.out h) Try.underlying68 rfl info_S) hS0 ?_
      try simp only [Act.put, List.setIfInBounds_toArray, List.set_cons_zero, List.set_cons_succ]
      refine wpAnyH_take (i := 4) (oi := { dst := some 50, op := .move (.tmp 15), type := 3, pos := "outright.go:45", after := #[], guard := none }) (v := .int .i64 k) rfl (by kernel_rfl) (by kernel_rfl) (by kernel_rfl) (fun _ _ _ h => h) (Or.inl ⟨by rfl, by intro w hSw; clear hSw; go_simp⟩) hS0 ?_
      try simp only [Act.put, List.setIfInBounds_toArray, List.set_cons_zero, List.set_cons_succ]
      refine wpAnyH_take (i := 5) (oi := { dst := some 51, op := .move (.tmp 4), type := 84, pos := "outright.go:45", after := #[], guard := none }) (v := .slice (some ⟨ub, uo, none⟩) m d) rfl (by kernel_rfl) (by kernel_rfl) (by kernel_rfl) (fun _ _ _ h => h) (Or.inl ⟨by rfl, by intro w hSw; clear hSw; go_simp⟩) hS0 ?_
      try simp only [Act.put, List.setIfInBounds_toArray, List.set_cons_zero, List.set_cons_succ]
      refine wpAnyH_take (i := 6) (oi := { dst := some 52, op := .move (.tmp 15), type := 3, pos := "outright.go:45", after := #[], guard := none }) (v := .int .i64 k) rfl (by kernel_rfl) (by kernel_rfl) (by kernel_rfl) (fun _ _ _ h => h) (Or.inl ⟨by rfl, by intro w hSw; clear hSw; go_simp⟩) hS0 ?_
      try simp only [Act.put, List.setIfInBounds_toArray, List.set_cons_zero, List.set_cons_succ]
      refine wpAnyH_take (i := 7) (oi := { dst := some 53, op := .indexAddr 84 (.tmp 51) (.tmp 52), type := 0, pos := "outright.go:45", after := #[{ on := 5, ground := .data }, { on := 6, ground := .data }], guard := none }) (v := .pointer (some ⟨ub, uo + k, none⟩)) rfl (by kernel_rfl) (by kernel_rfl) (by kernel_rfl) (fun _ _ _ h => h) (Or.inl ⟨by rfl, by intro w hSw; clear hSw; go_simp⟩) hS0 ?_
      try simp only [Act.put, List.setIfInBounds_toArray, List.set_cons_zero, List.set_cons_succ]
      refine wpAnyH_take (i := 8) (oi := { dst := some 54, op := .load 25 (.tmp 53), type := 25, pos := "outright.go:45", after := #[{ on := 7, ground := .data }], guard := none }) (v := .int .u64 x) rfl (by kernel_rfl) (by kernel_rfl) (by kernel_rfl) (fun _ _ _ h => h) (Or.inl ⟨by rfl, by intro w h; have hcell := (cell_bel HU.out h); clear h; go_simp⟩) hS0 ?_
      try simp only [Act.put, List.setIfInBounds_toArray, List.set_cons_zero, List.set_cons_succ]
      refine wpAnyH_take (i := 9) (oi := { dst := some 55, op := .build 68 #[(0, .tmp 50), (1, .tmp 54)], type := 68, pos := "outright.go:45", after := #[{ on := 4, ground := .data }, { on := 8, ground := .data }], guard := none }) (v := .agg #[.int .i64 k, .int .u64 x]) rfl (by kernel_rfl) (by kernel_rfl) (by kernel_rfl) (fun _ _ _ h => h) (Or.inl ⟨by rfl, by intro w hSw; clear hSw; go_simp⟩) hS0 ?_
      try simp only [Act.put, List.setIfInBounds_toArray, List.set_cons_zero, List.set_cons_succ]
      refine wpAnyH_take (i := 10) (oi := { dst := some 56, op := .binOp .neq 68 (.tmp 49) (.tmp 55) 68, type := 4, pos := "outright.go:45", after := #[{ on := 3, ground := .data }, { on := 9, ground := .data }], guard := none }) (v := .bool false) rfl (by kernel_rfl) (by kernel_rfl) (by kernel_rfl) (fun _ _ _ h => h) (Or.inl ⟨by rfl, fun w _ => Rw.exec_neq rfl _ _ rfl rfl (by kernel_rfl) EQ.out w⟩) hS0 ?_
      try simp only [Act.put, List.setIfInBounds_toArray, List.set_cons_zero, List.set_cons_succ]
      refine wpAnyH_done (by kernel_rfl) ?_ _
      have HS5 := Lib.hid hS0
      clear hS0
      go_wp2_with fail
      go_roundw
      case rel => exact ⟨k + 1, by omega, by go_num, rfl, Lib.hid (hs.out.bel HS5.out), Lib.hid (hh.out.trans HS5.out)⟩
      case measure => simp [intOf]; omega
    · obtain rfl : k = m := by omega
      go_wp2_with fail
      go_ret
      exact ⟨rfl, hh.out⟩
set_option maxRecDepth 100000 in
set_option maxHeartbeats 8000000 in
theorem awake (w : World) : Calls Try.prog 10 #[] w fun e w' => e = .returned (.bool true) ∧ Bel w w' := by
  go_enter Try.func10, Try.ntmps10
  go_wp2_with fail
  refine (chapter_ _).mono ?_
  rintro e w1 ⟨A, c, rfl, hr, kb⟩
  have K1 := Lib.hid kb
  have HR := Lib.hid hr
  clear kb hr
  have TT := Lib.hid (total A 3 c C3 w1 HR.out (by decide) wd3)
  rw [show totN C3 = 60 by decide +kernel, show (chk C3).1 = 0 by decide +kernel] at TT
  go_wp2_with fail
  refine TT.out.mono ?_
  rintro e w2 ⟨rfl, kb⟩
  have K2 := Lib.hid (K1.out.trans kb)
  have LV := Lib.hid (liveX A 3 c C3 0 2 w2 (HR.out.bel kb) (by decide))
  rw [show live C3 0 2 = 1 by decide +kernel] at LV
  clear kb TT HR
  go_wp2_with fail
  refine LV.out.mono ?_
  rintro e w3 ⟨rfl, kb⟩
  have K3 := Lib.hid (K2.out.trans kb)
  clear kb LV
  have HC3 := Lib.hid (cuts_ 2 6 500000000 30 (some ⟨w3.heap.size, 0, none⟩) 3 3 [5, 10, 15] (w3.alloc (.cells #[.int .u64 5, .int .u64 10, .int .u64 15] 25)) (Rw.rs_blk uR (Blk.new w3 #[.int .u64 5, .int .u64 10, .int .u64 15] 25) rfl (Nat.le_refl _) rfl) (by decide) (by decide +kernel) (by decide +kernel) (by decide +kernel) (fun i x hx => by
    have hi := (List.getElem?_eq_some_iff.1 hx).1
    have e : ctS C3 2 6 500000000 = [(0, 5), (1, 10), (2, 15)] := by decide +kernel
    rw [e]
    have : i < 3 := hi
    match i, this with
    | 0, _ => cases hx; rfl
    | 1, _ => cases hx; rfl
    | 2, _ => cases hx; rfl) (by decide))
  go_wp2_with fail
  refine HC3.out.mono ?_
  rintro e w4 ⟨rfl, kb⟩
  have K4 := Lib.hid ((K3.out.alloc _).trans kb)
  clear kb
  have HC4 := Lib.hid (cuts_ 2 9 500000000 15 (some ⟨w4.heap.size, 0, none⟩) 2 2 [5, 10] (w4.alloc (.cells #[.int .u64 5, .int .u64 10] 25)) (Rw.rs_blk uR (Blk.new w4 #[.int .u64 5, .int .u64 10] 25) rfl (Nat.le_refl _) rfl) (by decide) (by decide +kernel) (by decide +kernel) (by decide +kernel) (fun i x hx => by
    have hi := (List.getElem?_eq_some_iff.1 hx).1
    have e : ctS C3 2 9 500000000 = [(0, 5), (1, 10)] := by decide +kernel
    rw [e]
    have : i < 2 := hi
    match i, this with
    | 0, _ => cases hx; rfl
    | 1, _ => cases hx; rfl) (by decide))
  go_wp2_with fail
  refine HC4.out.mono ?_
  rintro e w5 ⟨rfl, kb⟩
  have K5 := Lib.hid ((K4.out.alloc _).trans kb)
  clear kb
  go_wp2_with fail
  go_ret
  exact ⟨rfl, K5.out⟩
end Qu
end Go.Proofs.Ytdpompponngmdaa
end

section
/-
  Entries as they come in. No condition.
-/
namespace Go.Proofs.Ytdpompponngmdaa
open Go.RowKit Go.Shelf
set_option linter.unusedVariables false
set_option linter.unusedSimpArgs false
set_option Elab.async false
namespace Qu
open Kk Pm

/-- Entries as they come in. -/
def Ents (w : World) (A : Option Addr) (n c : Nat) : Prop :=
  n ≤ c ∧ (A = none → c = 0) ∧ (0 < n → ∃ b o, A = some ⟨b, o, none⟩ ∧ b < w.heap.size ∧ ∀ i, i < n → ∃ (z0 z1 z2 z3 z4 z5 z6 z7 : Int), (-9223372036854775808 ≤ z0 ∧ z0 ≤ 9223372036854775807 ∧ -9223372036854775808 ≤ z1 ∧ z1 ≤ 9223372036854775807 ∧ -9223372036854775808 ≤ z2 ∧ z2 ≤ 9223372036854775807 ∧ -9223372036854775808 ≤ z3 ∧ z3 ≤ 9223372036854775807 ∧ -9223372036854775808 ≤ z4 ∧ z4 ≤ 9223372036854775807 ∧ -9223372036854775808 ≤ z5 ∧ z5 ≤ 9223372036854775807 ∧ 0 ≤ z6 ∧ z6 ≤ 18446744073709551615 ∧ 0 ≤ z7 ∧ z7 ≤ 18446744073709551615) ∧ w.rangeAt b (o + i * 8) [.int .i64 z0, .int .i64 z1, .int .i64 z2, .int .i64 z3, .int .i64 z4, .int .i64 z5, .int .u64 z6, .int .u64 z7])
theorem rows_in {α : Type} (K : Rw.Row α) (G : α → Prop) {w : World} {b o : Nat} : ∀ (n : Nat), (∀ i, i < n → ∃ r : α, G r ∧ w.rangeAt b (o + i * K.z) (K.k r)) →
    ∃ l : List α, l.length = n ∧ (∀ r ∈ l, G r) ∧ ∀ i r, l[i]? = some r → w.rangeAt b (o + i * K.z) (K.k r)
  | 0, _ => ⟨[], rfl, fun r h => (by cases h), fun i r h => (by simp at h)⟩
  | n + 1, h => by
    obtain ⟨l, h1, h2, h3⟩ := rows_in K G n (fun i hi => h i (by omega))
    obtain ⟨r0, hz, hr⟩ := h n (by omega)
    refine ⟨l ++ [r0], by simp [h1], fun r hr' => ?_, fun i r hi => ?_⟩
    · rcases List.mem_append.1 hr' with h' | h'
      · exact h2 r h'
      · rw [List.mem_singleton] at h'
        subst h'
        exact hz
    · rcases Nat.lt_or_ge i n with h' | h'
      · rw [List.getElem?_append_left (by omega)] at hi
        exact h3 i r hi
      · have hin : i = n := by have := (List.getElem?_eq_some_iff.1 hi).1; simp at this; omega
        subst hin
        rw [List.getElem?_append_right (by omega), h1, Nat.sub_self] at hi
        injection hi with hi
        subst hi
        exact hr
theorem ents_rs {w : World} {A : Option Addr} {n c : Nat} (h : Ents w A n c) : ∃ l, Rw.RS eR w A n c l ∧ Wd l := by
  obtain ⟨h1, h2, h3⟩ := h
  by_cases h0 : 0 < n
  · obtain ⟨b, o, rfl, hb, hr⟩ := h3 h0
    obtain ⟨l, q1, q2, q3⟩ := rows_in eR (fun r => 0 ≤ bal r ∧ bal r ≤ 18446744073709551615) (w := w) (b := b) (o := o) n (fun i hi => by
      obtain ⟨z0, z1, z2, z3, z4, z5, z6, z7, hz, hc⟩ := hr i hi
      exact ⟨(z0, z1, z2, z3, z4, z5, z6, z7), hz.2.2.2.2.2.2.2.2.2.2.2.2.2.2, hc⟩)
    exact ⟨l, ⟨q1, h1, h2, fun _ => ⟨b, o, rfl, hb, q3⟩⟩, q2⟩
  · obtain rfl : n = 0 := by omega
    exact ⟨[], ⟨rfl, h1, h2, fun h => absurd h (by omega)⟩, fun r hr => by cases hr⟩
/-- Written over, one's own memory leaves what was before. -/
theorem ov_bel {w1 wb wa : World} {base : Nat} {A : Option Addr} {n c : Nat} {l : List E8} (h : OwnE wb base (.slice A n c) l) (hb : Bel w1 wb) (hbase : w1.heap.size ≤ base) (ko : Ov A n wb wa) : Bel w1 wa :=
  Kep.bel hb ko.kep (fun k hk => by
    obtain ⟨_, x, rfl, rfl⟩ := hk
    exact Nat.le_trans hbase (Rw.own_ge h rfl))
theorem ov_belS {w1 wb wa : World} {base : Nat} {A : Option Addr} {n c : Nat} {l : List S2} (h : OwnS wb base (.slice A n c) l) (hb : Bel w1 wb) (hbase : w1.heap.size ≤ base) (ko : OvS A n wb wa) : Bel w1 wa :=
  Kep.bel hb ko.kep (fun k hk => by
    obtain ⟨_, x, rfl, rfl⟩ := hk
    exact Nat.le_trans hbase (Rw.own_ge h rfl))
theorem hv_bel1 {w1 wb wa wh : World} {base : Nat} {A1 A2 : Option Addr} {n1 c1 n2 c2 : Nat} {l1 l2 : List E8} (h : Halves wh base A1 n1 c1 A2 n2 c2 l1 l2) (hb : Bel w1 wb) (hbase : w1.heap.size ≤ base) (ko : Ov A1 n1 wb wa) : Bel w1 wa :=
  Kep.bel hb ko.kep (fun k hk => by
    obtain ⟨h0, x, hx, rfl⟩ := hk
    rcases h.g with ⟨h1, h2⟩ | ⟨g, cur, h1, h2, h3, h4, h5⟩
    · omega
    · rw [h3 h0] at hx
      injection hx with hx
      subst hx
      exact Nat.le_trans hbase h1)
theorem hv_bel2 {w1 wb wa wh : World} {base : Nat} {A1 A2 : Option Addr} {n1 c1 n2 c2 : Nat} {l1 l2 : List E8} (h : Halves wh base A1 n1 c1 A2 n2 c2 l1 l2) (hb : Bel w1 wb) (hbase : w1.heap.size ≤ base) (ko : Ov A2 n2 wb wa) : Bel w1 wa :=
  Kep.bel hb ko.kep (fun k hk => by
    obtain ⟨h0, x, hx, rfl⟩ := hk
    rcases h.g with ⟨h1, h2⟩ | ⟨g, cur, h1, h2, h3, h4, h5⟩
    · omega
    · rw [h4 h0] at hx
      injection hx with hx
      subst hx
      exact Nat.le_trans hbase h1)
theorem addL_le (l : List E8) (x : E8) (m : Int) : (addL l x m).length ≤ l.length + 1 := by
  unfold addL
  split
  · simp
  · simp
theorem ripL_le (l : List E8) (h u : Int) : (ripL l h u).length ≤ l.length ∧ (lftL l h u).length ≤ l.length := by
  unfold ripL lftL
  constructor
  · split
    · exact List.length_filter_le _ _
    · simp
  · split
    · exact List.length_filter_le _ _
    · simp
theorem ctL_le (l : List E8) (v h p : Int) : (ctL l v h p).length ≤ l.length ∧ (ctS l v h p).length ≤ l.length := by
  unfold ctL ctS
  constructor
  · split
    · simp
    · simp
  · split
    · exact shv_len _ _ _ _ _
    · simp
theorem ofL_le (l : List E8) (o : Int) : (ofL l o).length ≤ l.length := List.length_filter_le _ _
end Qu
end Go.Proofs.Ytdpompponngmdaa
end
