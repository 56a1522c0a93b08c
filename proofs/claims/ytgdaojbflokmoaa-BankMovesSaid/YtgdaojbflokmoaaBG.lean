/-
  Texts of this claim, put together: Bk6, Bk7, Bk8, BkV, BkC, BkL, BkD. What each one says, and under which conditions, stands ahead of it.
-/
import Derived.Test.YtgdaojbflokmoaaBF
import Derived.Test.YtgdaojbflokmoaaBD

section
/-
  What bank.New, Send, Pay, Take, Move and Burn answer. Conditions: the amounts are words.
-/
namespace Go.Proofs.Ytgdaojbflokmoaa
open Go.RowKit Go.Shelf
set_option linter.unusedVariables false
namespace Bk
open Pm

theorem FB.cells {w w' : World} {V : Value} {zs ps : List Int} (h : FB w w' V zs ps) (hl : ps.length = 4) : ∃ Y : List Value, V = .agg Y.toArray ∧ Y.length = 5 ∧ Y.toArray.all (·.oneCell') = true := by
  obtain ⟨v, rfl, hf⟩ := h
  obtain ⟨A, c, rfl, _⟩ := hf.su
  exact ⟨_, rfl, bkC_len hl, all_oneCell_toArray bkC_one⟩
theorem FB.set {w w1 : World} {V : Value} {zs ps : List Int} {g : Nat} {C : Array Value} {t : TypeId} (h : FB w w1 V zs ps) (hb : Kk.Blk w1 g C t) (ht : t ≠ 23) {Y : List Value} {o : Nat} (hg : w.heap.size ≤ g) : FB w (w1.setCells g o Y) V zs ps := by
  obtain ⟨v, rfl, hf⟩ := h
  exact ⟨v, rfl, fresh_set hf hb ht (bel_setCells hf.2 hg o Y)⟩
theorem FB.after {a w w' : World} {V : Value} {zs ps : List Int} (hb : Kk.Bel a w) (h : FB w w' V zs ps) : FB a w' V zs ps := by
  obtain ⟨v, rfl, hf⟩ := h
  exact ⟨v, rfl, Fresh.after hb hf⟩
theorem FB.then_ {a w w' : World} {V : Value} {zs ps : List Int} (h : FB a w V zs ps) (hb : Kk.Bel w w') : FB a w' V zs ps := by
  obtain ⟨v, rfl, hf⟩ := h
  exact ⟨v, rfl, Fresh.then_ hf hb⟩
theorem okP_len {e : Int} {ps : List Int} (h : ps.length = 4) : (okP e ps).length = 4 := by unfold okP; split <;> simp [h]
theorem xP_len {zs ps : List Int} {pf pt : Bool} {f t n least : Int} (h : ps.length = 4) : (xP zs ps pf pt f t n least).length = 4 := by
  refine okP_len ?_
  unfold xP' putP
  split <;> split <;> simp [h]

set_option maxRecDepth 10000 in
set_option maxHeartbeats 1000000 in
theorem send (f t m : Int) (A : Option Addr) (n c : Nat) (zs : List Int) (p0 p1 p2 p3 : Int) (w : World) (hi : SU w A n c zs) (hn : n ≤ 1000000000) (hz : Words zs) (hps : Words [p0, p1, p2, p3]) (m0 : 0 ≤ m) (m1 : m ≤ 18446744073709551615) :
    Calls Try.prog 38 #[.agg #[.slice A n c, .int .u64 p0, .int .u64 p1, .int .u64 p2, .int .u64 p3], .int .i64 f, .int .i64 t, .int .u64 m] w fun e w' => ∃ V, e = .returned (.tuple #[V, .int .i64 (xE zs [p0, p1, p2, p3] false false f t m 1)]) ∧ FB w w' V (xZ zs [p0, p1, p2, p3] false false f t m 1) (xP zs [p0, p1, p2, p3] false false f t m 1) := by
  have CT := Lib.hid (fun V (h : SU V A n c zs) => transferAA f t m 1 A n c zs p0 p1 p2 p3 V h hn hz hps m0 m1 (by omega) (by omega))
  obtain ⟨W0, hW0⟩ : ∃ W0, w.alloc (.cells #[.slice A n c, .int .u64 p0, .int .u64 p1, .int .u64 p2, .int .u64 p3] 26) = W0 := ⟨_, rfl⟩
  have B0 := Lib.hid (show Kk.Bel w W0 by rw [← hW0]; exact (Kk.Bel.refl w).alloc _)
  have R0 := Lib.hid (show W0.rangeAt w.heap.size 0 [.slice A n c, .int .u64 p0, .int .u64 p1, .int .u64 p2, .int .u64 p3] by rw [← hW0]; exact rngB (C := [.slice A n c, .int .u64 p0, .int .u64 p1, .int .u64 p2, .int .u64 p3]) (Kk.Blk.new w _ 26))
  obtain ⟨p, hp⟩ : ∃ p, w.heap.size = p := ⟨_, rfl⟩
  rw [hp] at R0
  have c0 : W0.cell? ⟨p, 0, none⟩ = some (.slice A n c) := R0.out 0 _ rfl
  have PSU := Lib.hid (fun V (h : Kk.Bel W0 V) => pools_su (v := .slice A n c) (ps := [p0, p1, p2, p3]) (rng_bel R0.out h) rfl)
  have ZS := Lib.hid (fun V (h : Kk.Bel W0 V) => (hi.bel B0.out).bel h)
  have CK := Lib.hid (fun V (h : Kk.Bel W0 V) => checkC A n c zs p0 p1 p2 p3 V (ZS.out V h) hn hz hps)
  have HZ := Lib.hid hz
  have HPS := Lib.hid hps
  have HP := Lib.hid hp
  have HW := Lib.hid hW0
  have HLEN := Lib.hid hi.len
  have uB := Try.underlying26
  have iB := Lib.hid (show (Try.prog.info? 26).map (·.size) = some ([.slice A n c, .int .u64 p0, .int .u64 p1, .int .u64 p2, .int .u64 p3] : List Value).length from info_bank)
  clear hi hz hps hp hW0
  obtain ⟨W1, hW1⟩ : ∃ W1, W0.alloc (.cells #[.slice none 0 0, .int .u64 0, .int .u64 0, .int .u64 0, .int .u64 0] 26) = W1 := ⟨_, rfl⟩
  have hs0 : W0.heap.size = p + 1 := by rw [← HW.out, ← HP.out, World.size_alloc]
  have B01 := Lib.hid (show Kk.Bel W0 W1 by rw [← hW1]; exact (Kk.Bel.refl W0).alloc _)
  have Q1 := Lib.hid (show Kk.Blk W1 (p + 1) [.slice none 0 0, .int .u64 0, .int .u64 0, .int .u64 0, .int .u64 0].toArray 26 by rw [← hW1, ← hs0]; exact Kk.Blk.new W0 _ _)
  have R1 := Lib.hid (rng_bel R0.out B01.out)
  have HW1 := Lib.hid hW1
  clear hW1 hs0
  obtain ⟨x, hx⟩ : ∃ x, xE zs [p0, p1, p2, p3] false false f t m 1 = x := ⟨_, rfl⟩
  obtain ⟨X, hX⟩ : ∃ x, xZ zs [p0, p1, p2, p3] false false f t m 1 = x := ⟨_, rfl⟩
  obtain ⟨Z, hZ⟩ : ∃ x, xP zs [p0, p1, p2, p3] false false f t m 1 = x := ⟨_, rfl⟩
  have ZL := Lib.hid (show Z.length = 4 by rw [← hZ]; exact xP_len rfl)
  rw [hx, hX, hZ] at CT
  rw [hx, hX, hZ]
  clear hx hX hZ
  go_enter Try.func38, Try.ntmps38
  go_upto_region 1 with fail
  rw [HW.out, HP.out, HW1.out]
  go_wp2_with ((with_reducible refine wpList_load_mid ?_ 26 (.tmp 4) ?_ p 0 ?_ [.slice A n c, .int .u64 p0, .int .u64 p1, .int .u64 p2, .int .u64 p3] _ R1.out uB ?_ iB.out ?_); rfl; rfl; rfl; rfl)
  refine (CT.out W1 (ZS.out _ B01.out)).mono ?_
  rintro e w1 ⟨V, rfl, hfb⟩
  obtain ⟨Y, rfl, hYL, hYO⟩ := hfb.cells ZL.out
  have Q2 := Lib.hid (Q1.out.bel hfb.bel)
  have TH := Lib.hid (show w1.there (p + 1) 0 Y.toArray.size from bthere Q2.out 0 _ (by rw [List.size_toArray, hYL]; exact Nat.le_refl 5))
  have YI := Lib.hid (show (Try.prog.info? 26).map (·.size) = some Y.toArray.size by rw [List.size_toArray, hYL]; exact info_bank)
  have YI2 := Lib.hid (show (Try.prog.info? 26).map (·.size) = some Y.length by rw [hYL]; exact info_bank)
  have YO := Lib.hid hYO
  have YL := Lib.hid hYL
  have F1 := Lib.hid (FB.after (B0.out.trans B01.out) hfb)
  clear hfb hYL hYO CT
  go_wp2_with ((with_reducible refine wpList_store_mid ?_ 26 (.tmp 8) (.tmp 17) ?_ (p + 1) 0 Y.toArray ?_ ?_ TH.out YI.out YO.out ?_); rfl; rfl; rfl; rfl)
  have F2 := F1.out.set (g := p + 1) (Y := Y) (o := 0) Q2.out (by decide) (by rw [HP.out]; omega)
  have Q3 := blk5 Q2.out rfl Y YL.out
  refine bodyPost_ret (res_ci Try.results38 _ _ ⟨p + 1, 0, none⟩ (.agg Y.toArray) (.int .i64 x) rfl rfl (load_b Q3 Try.underlying26 rfl YI2.out)) rfl ⟨_, rfl, F2⟩

set_option maxRecDepth 10000 in
set_option maxHeartbeats 1000000 in
theorem pay (f t m : Int) (A : Option Addr) (n c : Nat) (zs : List Int) (p0 p1 p2 p3 : Int) (w : World) (hi : SU w A n c zs) (hn : n ≤ 1000000000) (hz : Words zs) (hps : Words [p0, p1, p2, p3]) (m0 : 0 ≤ m) (m1 : m ≤ 18446744073709551615) :
    Calls Try.prog 48 #[.agg #[.slice A n c, .int .u64 p0, .int .u64 p1, .int .u64 p2, .int .u64 p3], .int .i64 f, .int .i64 t, .int .u64 m] w fun e w' => ∃ V, e = .returned (.tuple #[V, .int .i64 (xE zs [p0, p1, p2, p3] true false f t m 0)]) ∧ FB w w' V (xZ zs [p0, p1, p2, p3] true false f t m 0) (xP zs [p0, p1, p2, p3] true false f t m 0) := by
  have CT := Lib.hid (fun V (h : SU V A n c zs) => transferPA f t m 0 A n c zs p0 p1 p2 p3 V h hn hz hps m0 m1 (by omega) (by omega))
  obtain ⟨W0, hW0⟩ : ∃ W0, w.alloc (.cells #[.slice A n c, .int .u64 p0, .int .u64 p1, .int .u64 p2, .int .u64 p3] 26) = W0 := ⟨_, rfl⟩
  have B0 := Lib.hid (show Kk.Bel w W0 by rw [← hW0]; exact (Kk.Bel.refl w).alloc _)
  have R0 := Lib.hid (show W0.rangeAt w.heap.size 0 [.slice A n c, .int .u64 p0, .int .u64 p1, .int .u64 p2, .int .u64 p3] by rw [← hW0]; exact rngB (C := [.slice A n c, .int .u64 p0, .int .u64 p1, .int .u64 p2, .int .u64 p3]) (Kk.Blk.new w _ 26))
  obtain ⟨p, hp⟩ : ∃ p, w.heap.size = p := ⟨_, rfl⟩
  rw [hp] at R0
  have c0 : W0.cell? ⟨p, 0, none⟩ = some (.slice A n c) := R0.out 0 _ rfl
  have PSU := Lib.hid (fun V (h : Kk.Bel W0 V) => pools_su (v := .slice A n c) (ps := [p0, p1, p2, p3]) (rng_bel R0.out h) rfl)
  have ZS := Lib.hid (fun V (h : Kk.Bel W0 V) => (hi.bel B0.out).bel h)
  have CK := Lib.hid (fun V (h : Kk.Bel W0 V) => checkC A n c zs p0 p1 p2 p3 V (ZS.out V h) hn hz hps)
  have HZ := Lib.hid hz
  have HPS := Lib.hid hps
  have HP := Lib.hid hp
  have HW := Lib.hid hW0
  have HLEN := Lib.hid hi.len
  have uB := Try.underlying26
  have iB := Lib.hid (show (Try.prog.info? 26).map (·.size) = some ([.slice A n c, .int .u64 p0, .int .u64 p1, .int .u64 p2, .int .u64 p3] : List Value).length from info_bank)
  clear hi hz hps hp hW0
  obtain ⟨W1, hW1⟩ : ∃ W1, W0.alloc (.cells #[.slice none 0 0, .int .u64 0, .int .u64 0, .int .u64 0, .int .u64 0] 26) = W1 := ⟨_, rfl⟩
  have hs0 : W0.heap.size = p + 1 := by rw [← HW.out, ← HP.out, World.size_alloc]
  have B01 := Lib.hid (show Kk.Bel W0 W1 by rw [← hW1]; exact (Kk.Bel.refl W0).alloc _)
  have Q1 := Lib.hid (show Kk.Blk W1 (p + 1) [.slice none 0 0, .int .u64 0, .int .u64 0, .int .u64 0, .int .u64 0].toArray 26 by rw [← hW1, ← hs0]; exact Kk.Blk.new W0 _ _)
  have R1 := Lib.hid (rng_bel R0.out B01.out)
  have HW1 := Lib.hid hW1
  clear hW1 hs0
  obtain ⟨x, hx⟩ : ∃ x, xE zs [p0, p1, p2, p3] true false f t m 0 = x := ⟨_, rfl⟩
  obtain ⟨X, hX⟩ : ∃ x, xZ zs [p0, p1, p2, p3] true false f t m 0 = x := ⟨_, rfl⟩
  obtain ⟨Z, hZ⟩ : ∃ x, xP zs [p0, p1, p2, p3] true false f t m 0 = x := ⟨_, rfl⟩
  have ZL := Lib.hid (show Z.length = 4 by rw [← hZ]; exact xP_len rfl)
  rw [hx, hX, hZ] at CT
  rw [hx, hX, hZ]
  clear hx hX hZ
  go_enter Try.func48, Try.ntmps48
  go_upto_region 1 with fail
  rw [HW.out, HP.out, HW1.out]
  go_wp2_with ((with_reducible refine wpList_load_mid ?_ 26 (.tmp 4) ?_ p 0 ?_ [.slice A n c, .int .u64 p0, .int .u64 p1, .int .u64 p2, .int .u64 p3] _ R1.out uB ?_ iB.out ?_); rfl; rfl; rfl; rfl)
  refine (CT.out W1 (ZS.out _ B01.out)).mono ?_
  rintro e w1 ⟨V, rfl, hfb⟩
  obtain ⟨Y, rfl, hYL, hYO⟩ := hfb.cells ZL.out
  have Q2 := Lib.hid (Q1.out.bel hfb.bel)
  have TH := Lib.hid (show w1.there (p + 1) 0 Y.toArray.size from bthere Q2.out 0 _ (by rw [List.size_toArray, hYL]; exact Nat.le_refl 5))
  have YI := Lib.hid (show (Try.prog.info? 26).map (·.size) = some Y.toArray.size by rw [List.size_toArray, hYL]; exact info_bank)
  have YI2 := Lib.hid (show (Try.prog.info? 26).map (·.size) = some Y.length by rw [hYL]; exact info_bank)
  have YO := Lib.hid hYO
  have YL := Lib.hid hYL
  have F1 := Lib.hid (FB.after (B0.out.trans B01.out) hfb)
  clear hfb hYL hYO CT
  go_wp2_with ((with_reducible refine wpList_store_mid ?_ 26 (.tmp 8) (.tmp 17) ?_ (p + 1) 0 Y.toArray ?_ ?_ TH.out YI.out YO.out ?_); rfl; rfl; rfl; rfl)
  have F2 := F1.out.set (g := p + 1) (Y := Y) (o := 0) Q2.out (by decide) (by rw [HP.out]; omega)
  have Q3 := blk5 Q2.out rfl Y YL.out
  refine bodyPost_ret (res_ci Try.results48 _ _ ⟨p + 1, 0, none⟩ (.agg Y.toArray) (.int .i64 x) rfl rfl (load_b Q3 Try.underlying26 rfl YI2.out)) rfl ⟨_, rfl, F2⟩

set_option maxRecDepth 10000 in
set_option maxHeartbeats 1000000 in
theorem take_ (f t m : Int) (A : Option Addr) (n c : Nat) (zs : List Int) (p0 p1 p2 p3 : Int) (w : World) (hi : SU w A n c zs) (hn : n ≤ 1000000000) (hz : Words zs) (hps : Words [p0, p1, p2, p3]) (m0 : 0 ≤ m) (m1 : m ≤ 18446744073709551615) :
    Calls Try.prog 49 #[.agg #[.slice A n c, .int .u64 p0, .int .u64 p1, .int .u64 p2, .int .u64 p3], .int .i64 f, .int .i64 t, .int .u64 m] w fun e w' => ∃ V, e = .returned (.tuple #[V, .int .i64 (xE zs [p0, p1, p2, p3] false true f t m 0)]) ∧ FB w w' V (xZ zs [p0, p1, p2, p3] false true f t m 0) (xP zs [p0, p1, p2, p3] false true f t m 0) := by
  have CT := Lib.hid (fun V (h : SU V A n c zs) => transferAP f t m 0 A n c zs p0 p1 p2 p3 V h hn hz hps m0 m1 (by omega) (by omega))
  obtain ⟨W0, hW0⟩ : ∃ W0, w.alloc (.cells #[.slice A n c, .int .u64 p0, .int .u64 p1, .int .u64 p2, .int .u64 p3] 26) = W0 := ⟨_, rfl⟩
  have B0 := Lib.hid (show Kk.Bel w W0 by rw [← hW0]; exact (Kk.Bel.refl w).alloc _)
  have R0 := Lib.hid (show W0.rangeAt w.heap.size 0 [.slice A n c, .int .u64 p0, .int .u64 p1, .int .u64 p2, .int .u64 p3] by rw [← hW0]; exact rngB (C := [.slice A n c, .int .u64 p0, .int .u64 p1, .int .u64 p2, .int .u64 p3]) (Kk.Blk.new w _ 26))
  obtain ⟨p, hp⟩ : ∃ p, w.heap.size = p := ⟨_, rfl⟩
  rw [hp] at R0
  have c0 : W0.cell? ⟨p, 0, none⟩ = some (.slice A n c) := R0.out 0 _ rfl
  have PSU := Lib.hid (fun V (h : Kk.Bel W0 V) => pools_su (v := .slice A n c) (ps := [p0, p1, p2, p3]) (rng_bel R0.out h) rfl)
  have ZS := Lib.hid (fun V (h : Kk.Bel W0 V) => (hi.bel B0.out).bel h)
  have CK := Lib.hid (fun V (h : Kk.Bel W0 V) => checkC A n c zs p0 p1 p2 p3 V (ZS.out V h) hn hz hps)
  have HZ := Lib.hid hz
  have HPS := Lib.hid hps
  have HP := Lib.hid hp
  have HW := Lib.hid hW0
  have HLEN := Lib.hid hi.len
  have uB := Try.underlying26
  have iB := Lib.hid (show (Try.prog.info? 26).map (·.size) = some ([.slice A n c, .int .u64 p0, .int .u64 p1, .int .u64 p2, .int .u64 p3] : List Value).length from info_bank)
  clear hi hz hps hp hW0
  obtain ⟨W1, hW1⟩ : ∃ W1, W0.alloc (.cells #[.slice none 0 0, .int .u64 0, .int .u64 0, .int .u64 0, .int .u64 0] 26) = W1 := ⟨_, rfl⟩
  have hs0 : W0.heap.size = p + 1 := by rw [← HW.out, ← HP.out, World.size_alloc]
  have B01 := Lib.hid (show Kk.Bel W0 W1 by rw [← hW1]; exact (Kk.Bel.refl W0).alloc _)
  have Q1 := Lib.hid (show Kk.Blk W1 (p + 1) [.slice none 0 0, .int .u64 0, .int .u64 0, .int .u64 0, .int .u64 0].toArray 26 by rw [← hW1, ← hs0]; exact Kk.Blk.new W0 _ _)
  have R1 := Lib.hid (rng_bel R0.out B01.out)
  have HW1 := Lib.hid hW1
  clear hW1 hs0
  obtain ⟨x, hx⟩ : ∃ x, xE zs [p0, p1, p2, p3] false true f t m 0 = x := ⟨_, rfl⟩
  obtain ⟨X, hX⟩ : ∃ x, xZ zs [p0, p1, p2, p3] false true f t m 0 = x := ⟨_, rfl⟩
  obtain ⟨Z, hZ⟩ : ∃ x, xP zs [p0, p1, p2, p3] false true f t m 0 = x := ⟨_, rfl⟩
  have ZL := Lib.hid (show Z.length = 4 by rw [← hZ]; exact xP_len rfl)
  rw [hx, hX, hZ] at CT
  rw [hx, hX, hZ]
  clear hx hX hZ
  go_enter Try.func49, Try.ntmps49
  go_upto_region 1 with fail
  rw [HW.out, HP.out, HW1.out]
  go_wp2_with ((with_reducible refine wpList_load_mid ?_ 26 (.tmp 4) ?_ p 0 ?_ [.slice A n c, .int .u64 p0, .int .u64 p1, .int .u64 p2, .int .u64 p3] _ R1.out uB ?_ iB.out ?_); rfl; rfl; rfl; rfl)
  refine (CT.out W1 (ZS.out _ B01.out)).mono ?_
  rintro e w1 ⟨V, rfl, hfb⟩
  obtain ⟨Y, rfl, hYL, hYO⟩ := hfb.cells ZL.out
  have Q2 := Lib.hid (Q1.out.bel hfb.bel)
  have TH := Lib.hid (show w1.there (p + 1) 0 Y.toArray.size from bthere Q2.out 0 _ (by rw [List.size_toArray, hYL]; exact Nat.le_refl 5))
  have YI := Lib.hid (show (Try.prog.info? 26).map (·.size) = some Y.toArray.size by rw [List.size_toArray, hYL]; exact info_bank)
  have YI2 := Lib.hid (show (Try.prog.info? 26).map (·.size) = some Y.length by rw [hYL]; exact info_bank)
  have YO := Lib.hid hYO
  have YL := Lib.hid hYL
  have F1 := Lib.hid (FB.after (B0.out.trans B01.out) hfb)
  clear hfb hYL hYO CT
  go_wp2_with ((with_reducible refine wpList_store_mid ?_ 26 (.tmp 8) (.tmp 17) ?_ (p + 1) 0 Y.toArray ?_ ?_ TH.out YI.out YO.out ?_); rfl; rfl; rfl; rfl)
  have F2 := F1.out.set (g := p + 1) (Y := Y) (o := 0) Q2.out (by decide) (by rw [HP.out]; omega)
  have Q3 := blk5 Q2.out rfl Y YL.out
  refine bodyPost_ret (res_ci Try.results49 _ _ ⟨p + 1, 0, none⟩ (.agg Y.toArray) (.int .i64 x) rfl rfl (load_b Q3 Try.underlying26 rfl YI2.out)) rfl ⟨_, rfl, F2⟩

set_option maxRecDepth 10000 in
set_option maxHeartbeats 1000000 in
theorem move (f t m : Int) (A : Option Addr) (n c : Nat) (zs : List Int) (p0 p1 p2 p3 : Int) (w : World) (hi : SU w A n c zs) (hn : n ≤ 1000000000) (hz : Words zs) (hps : Words [p0, p1, p2, p3]) (m0 : 0 ≤ m) (m1 : m ≤ 18446744073709551615) :
    Calls Try.prog 50 #[.agg #[.slice A n c, .int .u64 p0, .int .u64 p1, .int .u64 p2, .int .u64 p3], .int .i64 f, .int .i64 t, .int .u64 m] w fun e w' => ∃ V, e = .returned (.tuple #[V, .int .i64 (xE zs [p0, p1, p2, p3] true true f t m 0)]) ∧ FB w w' V (xZ zs [p0, p1, p2, p3] true true f t m 0) (xP zs [p0, p1, p2, p3] true true f t m 0) := by
  have CT := Lib.hid (fun V (h : SU V A n c zs) => transferPP f t m 0 A n c zs p0 p1 p2 p3 V h hn hz hps m0 m1 (by omega) (by omega))
  obtain ⟨W0, hW0⟩ : ∃ W0, w.alloc (.cells #[.slice A n c, .int .u64 p0, .int .u64 p1, .int .u64 p2, .int .u64 p3] 26) = W0 := ⟨_, rfl⟩
  have B0 := Lib.hid (show Kk.Bel w W0 by rw [← hW0]; exact (Kk.Bel.refl w).alloc _)
  have R0 := Lib.hid (show W0.rangeAt w.heap.size 0 [.slice A n c, .int .u64 p0, .int .u64 p1, .int .u64 p2, .int .u64 p3] by rw [← hW0]; exact rngB (C := [.slice A n c, .int .u64 p0, .int .u64 p1, .int .u64 p2, .int .u64 p3]) (Kk.Blk.new w _ 26))
  obtain ⟨p, hp⟩ : ∃ p, w.heap.size = p := ⟨_, rfl⟩
  rw [hp] at R0
  have c0 : W0.cell? ⟨p, 0, none⟩ = some (.slice A n c) := R0.out 0 _ rfl
  have PSU := Lib.hid (fun V (h : Kk.Bel W0 V) => pools_su (v := .slice A n c) (ps := [p0, p1, p2, p3]) (rng_bel R0.out h) rfl)
  have ZS := Lib.hid (fun V (h : Kk.Bel W0 V) => (hi.bel B0.out).bel h)
  have CK := Lib.hid (fun V (h : Kk.Bel W0 V) => checkC A n c zs p0 p1 p2 p3 V (ZS.out V h) hn hz hps)
  have HZ := Lib.hid hz
  have HPS := Lib.hid hps
  have HP := Lib.hid hp
  have HW := Lib.hid hW0
  have HLEN := Lib.hid hi.len
  have uB := Try.underlying26
  have iB := Lib.hid (show (Try.prog.info? 26).map (·.size) = some ([.slice A n c, .int .u64 p0, .int .u64 p1, .int .u64 p2, .int .u64 p3] : List Value).length from info_bank)
  clear hi hz hps hp hW0
  obtain ⟨W1, hW1⟩ : ∃ W1, W0.alloc (.cells #[.slice none 0 0, .int .u64 0, .int .u64 0, .int .u64 0, .int .u64 0] 26) = W1 := ⟨_, rfl⟩
  have hs0 : W0.heap.size = p + 1 := by rw [← HW.out, ← HP.out, World.size_alloc]
  have B01 := Lib.hid (show Kk.Bel W0 W1 by rw [← hW1]; exact (Kk.Bel.refl W0).alloc _)
  have Q1 := Lib.hid (show Kk.Blk W1 (p + 1) [.slice none 0 0, .int .u64 0, .int .u64 0, .int .u64 0, .int .u64 0].toArray 26 by rw [← hW1, ← hs0]; exact Kk.Blk.new W0 _ _)
  have R1 := Lib.hid (rng_bel R0.out B01.out)
  have HW1 := Lib.hid hW1
  clear hW1 hs0
  obtain ⟨x, hx⟩ : ∃ x, xE zs [p0, p1, p2, p3] true true f t m 0 = x := ⟨_, rfl⟩
  obtain ⟨X, hX⟩ : ∃ x, xZ zs [p0, p1, p2, p3] true true f t m 0 = x := ⟨_, rfl⟩
  obtain ⟨Z, hZ⟩ : ∃ x, xP zs [p0, p1, p2, p3] true true f t m 0 = x := ⟨_, rfl⟩
  have ZL := Lib.hid (show Z.length = 4 by rw [← hZ]; exact xP_len rfl)
  rw [hx, hX, hZ] at CT
  rw [hx, hX, hZ]
  clear hx hX hZ
  go_enter Try.func50, Try.ntmps50
  go_upto_region 1 with fail
  rw [HW.out, HP.out, HW1.out]
  go_wp2_with ((with_reducible refine wpList_load_mid ?_ 26 (.tmp 4) ?_ p 0 ?_ [.slice A n c, .int .u64 p0, .int .u64 p1, .int .u64 p2, .int .u64 p3] _ R1.out uB ?_ iB.out ?_); rfl; rfl; rfl; rfl)
  refine (CT.out W1 (ZS.out _ B01.out)).mono ?_
  rintro e w1 ⟨V, rfl, hfb⟩
  obtain ⟨Y, rfl, hYL, hYO⟩ := hfb.cells ZL.out
  have Q2 := Lib.hid (Q1.out.bel hfb.bel)
  have TH := Lib.hid (show w1.there (p + 1) 0 Y.toArray.size from bthere Q2.out 0 _ (by rw [List.size_toArray, hYL]; exact Nat.le_refl 5))
  have YI := Lib.hid (show (Try.prog.info? 26).map (·.size) = some Y.toArray.size by rw [List.size_toArray, hYL]; exact info_bank)
  have YI2 := Lib.hid (show (Try.prog.info? 26).map (·.size) = some Y.length by rw [hYL]; exact info_bank)
  have YO := Lib.hid hYO
  have YL := Lib.hid hYL
  have F1 := Lib.hid (FB.after (B0.out.trans B01.out) hfb)
  clear hfb hYL hYO CT
  go_wp2_with ((with_reducible refine wpList_store_mid ?_ 26 (.tmp 8) (.tmp 17) ?_ (p + 1) 0 Y.toArray ?_ ?_ TH.out YI.out YO.out ?_); rfl; rfl; rfl; rfl)
  have F2 := F1.out.set (g := p + 1) (Y := Y) (o := 0) Q2.out (by decide) (by rw [HP.out]; omega)
  have Q3 := blk5 Q2.out rfl Y YL.out
  refine bodyPost_ret (res_ci Try.results50 _ _ ⟨p + 1, 0, none⟩ (.agg Y.toArray) (.int .i64 x) rfl rfl (load_b Q3 Try.underlying26 rfl YI2.out)) rfl ⟨_, rfl, F2⟩

set_option maxRecDepth 10000 in
set_option maxHeartbeats 1000000 in
theorem burn (f m : Int) (A : Option Addr) (n c : Nat) (zs : List Int) (p0 p1 p2 p3 : Int) (w : World) (hi : SU w A n c zs) (hn : n ≤ 1000000000) (hz : Words zs) (hps : Words [p0, p1, p2, p3]) (m0 : 0 ≤ m) (m1 : m ≤ 18446744073709551615) :
    Calls Try.prog 39 #[.agg #[.slice A n c, .int .u64 p0, .int .u64 p1, .int .u64 p2, .int .u64 p3], .int .i64 f, .int .u64 m] w fun e w' => ∃ V, e = .returned (.tuple #[V, .int .i64 (xE zs [p0, p1, p2, p3] true true f 2 m 0)]) ∧ FB w w' V (xZ zs [p0, p1, p2, p3] true true f 2 m 0) (xP zs [p0, p1, p2, p3] true true f 2 m 0) := by
  have CT := Lib.hid (fun V (h : SU V A n c zs) => move f 2 m A n c zs p0 p1 p2 p3 V h hn hz hps m0 m1)
  obtain ⟨W0, hW0⟩ : ∃ W0, w.alloc (.cells #[.slice A n c, .int .u64 p0, .int .u64 p1, .int .u64 p2, .int .u64 p3] 26) = W0 := ⟨_, rfl⟩
  have B0 := Lib.hid (show Kk.Bel w W0 by rw [← hW0]; exact (Kk.Bel.refl w).alloc _)
  have R0 := Lib.hid (show W0.rangeAt w.heap.size 0 [.slice A n c, .int .u64 p0, .int .u64 p1, .int .u64 p2, .int .u64 p3] by rw [← hW0]; exact rngB (C := [.slice A n c, .int .u64 p0, .int .u64 p1, .int .u64 p2, .int .u64 p3]) (Kk.Blk.new w _ 26))
  obtain ⟨p, hp⟩ : ∃ p, w.heap.size = p := ⟨_, rfl⟩
  rw [hp] at R0
  have c0 : W0.cell? ⟨p, 0, none⟩ = some (.slice A n c) := R0.out 0 _ rfl
  have PSU := Lib.hid (fun V (h : Kk.Bel W0 V) => pools_su (v := .slice A n c) (ps := [p0, p1, p2, p3]) (rng_bel R0.out h) rfl)
  have ZS := Lib.hid (fun V (h : Kk.Bel W0 V) => (hi.bel B0.out).bel h)
  have CK := Lib.hid (fun V (h : Kk.Bel W0 V) => checkC A n c zs p0 p1 p2 p3 V (ZS.out V h) hn hz hps)
  have HZ := Lib.hid hz
  have HPS := Lib.hid hps
  have HP := Lib.hid hp
  have HW := Lib.hid hW0
  have HLEN := Lib.hid hi.len
  have uB := Try.underlying26
  have iB := Lib.hid (show (Try.prog.info? 26).map (·.size) = some ([.slice A n c, .int .u64 p0, .int .u64 p1, .int .u64 p2, .int .u64 p3] : List Value).length from info_bank)
  clear hi hz hps hp hW0
  obtain ⟨W1, hW1⟩ : ∃ W1, W0.alloc (.cells #[.slice none 0 0, .int .u64 0, .int .u64 0, .int .u64 0, .int .u64 0] 26) = W1 := ⟨_, rfl⟩
  have hs0 : W0.heap.size = p + 1 := by rw [← HW.out, ← HP.out, World.size_alloc]
  have B01 := Lib.hid (show Kk.Bel W0 W1 by rw [← hW1]; exact (Kk.Bel.refl W0).alloc _)
  have Q1 := Lib.hid (show Kk.Blk W1 (p + 1) [.slice none 0 0, .int .u64 0, .int .u64 0, .int .u64 0, .int .u64 0].toArray 26 by rw [← hW1, ← hs0]; exact Kk.Blk.new W0 _ _)
  have R1 := Lib.hid (rng_bel R0.out B01.out)
  have HW1 := Lib.hid hW1
  clear hW1 hs0
  obtain ⟨x, hx⟩ : ∃ x, xE zs [p0, p1, p2, p3] true true f 2 m 0 = x := ⟨_, rfl⟩
  obtain ⟨X, hX⟩ : ∃ x, xZ zs [p0, p1, p2, p3] true true f 2 m 0 = x := ⟨_, rfl⟩
  obtain ⟨Z, hZ⟩ : ∃ x, xP zs [p0, p1, p2, p3] true true f 2 m 0 = x := ⟨_, rfl⟩
  have ZL := Lib.hid (show Z.length = 4 by rw [← hZ]; exact xP_len rfl)
  rw [hx, hX, hZ] at CT
  rw [hx, hX, hZ]
  clear hx hX hZ
  go_enter Try.func39, Try.ntmps39
  go_upto_region 1 with fail
  rw [HW.out, HP.out, HW1.out]
  go_wp2_with ((with_reducible refine wpList_load_mid ?_ 26 (.tmp 3) ?_ p 0 ?_ [.slice A n c, .int .u64 p0, .int .u64 p1, .int .u64 p2, .int .u64 p3] _ R1.out uB ?_ iB.out ?_); rfl; rfl; rfl; rfl)
  refine (CT.out W1 (ZS.out _ B01.out)).mono ?_
  rintro e w1 ⟨V, rfl, hfb⟩
  obtain ⟨Y, rfl, hYL, hYO⟩ := hfb.cells ZL.out
  have Q2 := Lib.hid (Q1.out.bel hfb.bel)
  have TH := Lib.hid (show w1.there (p + 1) 0 Y.toArray.size from bthere Q2.out 0 _ (by rw [List.size_toArray, hYL]; exact Nat.le_refl 5))
  have YI := Lib.hid (show (Try.prog.info? 26).map (·.size) = some Y.toArray.size by rw [List.size_toArray, hYL]; exact info_bank)
  have YI2 := Lib.hid (show (Try.prog.info? 26).map (·.size) = some Y.length by rw [hYL]; exact info_bank)
  have YO := Lib.hid hYO
  have YL := Lib.hid hYL
  have F1 := Lib.hid (FB.after (B0.out.trans B01.out) hfb)
  clear hfb hYL hYO CT
  go_wp2_with ((with_reducible refine wpList_store_mid ?_ 26 (.tmp 6) (.tmp 12) ?_ (p + 1) 0 Y.toArray ?_ ?_ TH.out YI.out YO.out ?_); rfl; rfl; rfl; rfl)
  have F2 := F1.out.set (g := p + 1) (Y := Y) (o := 0) Q2.out (by decide) (by rw [HP.out]; omega)
  have Q3 := blk5 Q2.out rfl Y YL.out
  refine bodyPost_ret (res_ci Try.results39 _ _ ⟨p + 1, 0, none⟩ (.agg Y.toArray) (.int .i64 x) rfl rfl (load_b Q3 Try.underlying26 rfl YI2.out)) rfl ⟨_, rfl, F2⟩

set_option maxRecDepth 10000 in
set_option maxHeartbeats 1000000 in
theorem new (A : Option Addr) (n c : Nat) (zs : List Int) (w : World) (hi : SU w A n c zs) (hn : n ≤ 1000000000) (hz : Words zs) :
    Calls Try.prog 8 #[.slice A n c] w fun e w' => ∃ V, e = .returned (.tuple #[V, .int .i64 (chk zs [0, 0, 0, 0])]) ∧ FB w w' V (okZ (chk zs [0, 0, 0, 0]) zs) [0, 0, 0, 0] := by
  have hps : Words [0, 0, 0, 0] := words_of (by intro z hz; simp at hz; subst hz; decide)
  obtain ⟨W0, hW0⟩ : ∃ W0, w.alloc (.cells #[.slice none 0 0, .int .u64 0, .int .u64 0, .int .u64 0, .int .u64 0] 26) = W0 := ⟨_, rfl⟩
  have B0 := Lib.hid (show Kk.Bel w W0 by rw [← hW0]; exact (Kk.Bel.refl w).alloc _)
  obtain ⟨p, hp⟩ : ∃ p, w.heap.size = p := ⟨_, rfl⟩
  have Q0 := Lib.hid (show Kk.Blk W0 p [.slice none 0 0, .int .u64 0, .int .u64 0, .int .u64 0, .int .u64 0].toArray 26 by rw [← hW0, ← hp]; exact Kk.Blk.new w _ _)
  have hs0 : W0.heap.size = p + 1 := by rw [← hW0, ← hp, World.size_alloc]
  obtain ⟨W1, hW1⟩ : ∃ W1, W0.alloc (.cells #[.slice none 0 0, .int .u64 0, .int .u64 0, .int .u64 0, .int .u64 0] 26) = W1 := ⟨_, rfl⟩
  have B1 := Lib.hid (show Kk.Bel W0 W1 by rw [← hW1]; exact (Kk.Bel.refl W0).alloc _)
  have Q1 := Lib.hid (show Kk.Blk W1 (p + 1) [.slice none 0 0, .int .u64 0, .int .u64 0, .int .u64 0, .int .u64 0].toArray 26 by rw [← hW1, ← hs0]; exact Kk.Blk.new W0 _ _)
  obtain ⟨Y, hY⟩ : ∃ Y, Y = ([.slice A n c, .int .u64 0, .int .u64 0, .int .u64 0, .int .u64 0] : List Value) := ⟨_, rfl⟩
  obtain ⟨W2, hW2⟩ : ∃ W2, W1.setCells (p + 1) 0 Y = W2 := ⟨_, rfl⟩
  have hYL : Y.length = 5 := by rw [hY]; rfl
  have B2 := Lib.hid (show Kk.Bel W0 W2 by rw [← hW2]; exact bel_setCells B1.out (by rw [hs0]; exact Nat.le_refl _) 0 _)
  have Q2 := Lib.hid (show Kk.Blk W2 (p + 1) Y.toArray 26 by rw [← hW2]; exact blk5 Q1.out rfl Y hYL)
  have TH := Lib.hid (show W1.there (p + 1) 0 Y.toArray.size from bthere Q1.out 0 _ (by rw [List.size_toArray, hYL]; exact Nat.le_refl 5))
  have YI := Lib.hid (show (Try.prog.info? 26).map (·.size) = some Y.toArray.size by rw [List.size_toArray, hYL]; exact info_bank)
  have iY := Lib.hid (show (Try.prog.info? 26).map (·.size) = some Y.length by rw [hYL]; exact info_bank)
  have YO := Lib.hid (show Y.toArray.all (·.oneCell') = true by rw [hY]; exact one5 rfl)
  have R2 := Lib.hid (rngB Q2.out)
  have CK := Lib.hid (fun V (h : Kk.Bel W0 V) => checkC A n c zs 0 0 0 0 V ((hi.bel B0.out).bel h) hn hz hps)
  have CL := Lib.hid (fun V (h : Kk.Bel W0 V) => clone A n c zs 0 0 0 0 V ((hi.bel B0.out).bel h) hn)
  rw [← hY] at CK CL
  have HP := Lib.hid hp
  have HW0 := Lib.hid hW0
  have HW1 := Lib.hid hW1
  have HW2 := Lib.hid hW2
  have HS0 := Lib.hid hs0
  have HY := Lib.hid hY
  have uB := Try.underlying26
  obtain ⟨q, hq⟩ : ∃ q, chk zs [0, 0, 0, 0] = q := ⟨_, rfl⟩
  rw [hq] at CK
  rw [hq]
  clear hi hz hps hp hW0 hW1 hW2 hs0 hY hYL hq
  go_enter Try.func8, Try.ntmps8
  go_upto_region 1 with fail
  rw [HW0.out, HP.out]
  have hs0 := HS0.out
  have hW1 := HW1.out
  have hY := HY.out.symm
  go_upto_region 2 with ((with_reducible refine wpList_store_mid ?_ 26 (.tmp 4) (.tmp 7) ?_ (p + 1) 0 Y.toArray ?_ ?_ TH.out YI.out YO.out ?_); rfl; rfl; rfl; rfl)
  rw [HW2.out]
  clear hs0 hW1 hY
  go_wp2_with ((with_reducible refine wpList_load_mid ?_ 26 (.tmp 4) ?_ (p + 1) 0 ?_ Y _ R2.out uB ?_ iY.out ?_); rfl; rfl; rfl; rfl)
  refine (CK.out _ B2.out).mono ?_
  rintro e w3 ⟨rfl, k3⟩
  have B3 := Lib.hid (B2.out.trans k3)
  have R3 := Lib.hid (rng_bel R2.out k3)
  have Q3 := Lib.hid (Q0.out.bel (B2.out.trans k3))
  clear k3 CK
  have TZ := Lib.hid (show w3.there p 0 (#[.slice none 0 0, .int .u64 0, .int .u64 0, .int .u64 0, .int .u64 0] : Array Value).size from bthere Q3.out 0 _ (by simp))
  have IZ := Lib.hid (show (Try.prog.info? 26).map (·.size) = some (#[.slice none 0 0, .int .u64 0, .int .u64 0, .int .u64 0, .int .u64 0] : Array Value).size from info_bank)
  have OZ := Lib.hid (one5 (v := .slice none 0 0) (a := 0) (b := 0) (c := 0) (d := 0) rfl)
  by_cases hq0 : q = 0
  · subst hq0
    go_wp2_with ((with_reducible refine wpList_load_mid ?_ 26 (.tmp 4) ?_ (p + 1) 0 ?_ Y _ R3.out uB ?_ iY.out ?_); rfl; rfl; rfl; rfl)
    refine (CL.out _ B3.out).mono ?_
    rintro e w4 ⟨V, rfl, hfb⟩
    obtain ⟨T, rfl, hTL, hTO⟩ := hfb.cells rfl
    have Q4 := Lib.hid (Q3.out.bel hfb.bel)
    have TT := Lib.hid (show w4.there p 0 T.toArray.size from bthere Q4.out 0 _ (by rw [List.size_toArray, hTL]; exact Nat.le_refl 5))
    have TI := Lib.hid (show (Try.prog.info? 26).map (·.size) = some T.toArray.size by rw [List.size_toArray, hTL]; exact info_bank)
    have TI2 := Lib.hid (show (Try.prog.info? 26).map (·.size) = some T.length by rw [hTL]; exact info_bank)
    have TO := Lib.hid hTO
    have TL := Lib.hid hTL
    have F1 := Lib.hid (FB.after (B0.out.trans B3.out) hfb)
    clear hfb hTL hTO CL
    go_wp2_with ((with_reducible refine wpList_store_mid ?_ 26 (.tmp 2) (.tmp 15) ?_ p 0 T.toArray ?_ ?_ TT.out TI.out TO.out ?_); rfl; rfl; rfl; rfl)
    have F2 := F1.out.set (g := p) (Y := T) (o := 0) Q4.out (by decide) (by rw [HP.out]; exact Nat.le_refl _)
    have Q5 := blk5 Q4.out rfl T TL.out
    refine bodyPost_ret (res_ci Try.results8 _ _ ⟨p, 0, none⟩ (.agg T.toArray) (.int .i64 0) rfl rfl (load_b Q5 Try.underlying26 rfl TI2.out)) rfl ⟨_, rfl, F2⟩
  · have hq1 : (q != 0) = true := by simpa using hq0
    go_wp2_with ((with_reducible refine wpList_store_mid ?_ 26 (.tmp 2) (.tmp 12) ?_ p 0 #[.slice none 0 0, .int .u64 0, .int .u64 0, .int .u64 0, .int .u64 0] ?_ ?_ TZ.out IZ.out OZ.out ?_); rfl; rfl; rfl; rfl)
    have Q5 := blk5 Q3.out rfl [.slice none 0 0, .int .u64 0, .int .u64 0, .int .u64 0, .int .u64 0] rfl
    refine bodyPost_ret (res_ci Try.results8 _ _ ⟨p, 0, none⟩ (.agg #[.slice none 0 0, .int .u64 0, .int .u64 0, .int .u64 0, .int .u64 0]) (.int .i64 q) rfl rfl (load_b Q5 Try.underlying26 rfl info_bank)) rfl ⟨_, rfl, ?_⟩
    rw [okZ_no _ hq0]
    exact fb_zero (bel_setCells (B0.out.trans B3.out) (by rw [HP.out]; exact Nat.le_refl _) 0 _)
end Bk
end Go.Proofs.Ytgdaojbflokmoaa
end

section
/-
  What distraintkit.SameWords, SameBank and OverWords answer. Conditions: the slices read as words, of at most some billions.
-/
namespace Go.Proofs.Ytgdaojbflokmoaa
open Go.RowKit Go.Shelf
set_option linter.unusedVariables false
namespace Bk
open Pm

/-- Words of the call's own, written over. -/
theorem overWords (g n c base : Nat) (zs : List Int) (w : World) (hn : n ≤ 1000000000) (ho : w.ownsRow base 23 1 (.slice (some ⟨g, 0, none⟩) n c) n (zs.map (Value.int .u64))) :
    Calls Try.prog 11 #[.slice (some ⟨g, 0, none⟩) n c] w fun e w' => e = .returned (.tuple #[]) ∧ Kk.Kep (fun k => k = g) w w' := by
  have HO := Lib.hid ho
  clear ho
  go_enter Try.func11, Try.ntmps11
  go_wp2_with fail
  go_loopw [2] (fun i wr => ∃ (k : Nat) (ys : List Int), i = .int .i64 k ∧ k ≤ n ∧ wr.ownsRow base 23 1 (.slice (some ⟨g, 0, none⟩) n c) n (ys.map (Value.int .u64)) ∧ Kk.Kep (fun k => k = g) w wr) (fun i _ => n - (intOf i).toNat)
  case atStart => exact ⟨0, zs, rfl, Nat.zero_le _, HO.out, Kk.Kep.refl _ _⟩
  case round =>
    obtain ⟨k, ys, rfl, hk, hown, hb⟩ := hrel
    have HW := Lib.hid hown
    clear hown
    by_cases hlt : k < n
    · have hyl : ys.length = n := by simpa using HW.out.1
      have hcell : wr.cell? ⟨g, k, none⟩ = some (.int .u64 (ys.getD k 0)) := by
        rw [HW.out.cellAt k (by omega), List.getElem?_map, List.getElem?_eq_getElem (by omega), Kk.getD_eq _ _ (by omega)]
        rfl
      have hfz := HW.out.frozenAt k
      have HST : Hid (∀ z, (wr.setCell ⟨g, k, none⟩ (.int .u64 z)).ownsRow base 23 1 (.slice (some ⟨g, 0, none⟩) n c) n ((ys.set k z).map (Value.int .u64))) := by
        intro z
        have h := (HW.out.stored k (.int .u64 z)).1
        rw [← List.map_set] at h
        exact h
      clear hyl
      generalize ys.getD k 0 = y at *
      go_wp2
      go_roundw
      case rel => exact ⟨k + 1, ys.set k 777777777, by go_num, by omega, HST.out _, hb.set rfl _⟩
      case measure => simp [intOf]; omega
    · obtain rfl : k = n := by omega
      go_wp2
      go_end0
      exact ⟨rfl, hb⟩
theorem overWords_none (A : Option Addr) (c : Nat) (w : World) :
    Calls Try.prog 11 #[.slice A 0 c] w fun e w' => e = .returned (.tuple #[]) ∧ w = w' := by
  go_enter Try.func11, Try.ntmps11
  go_wp2_with fail
  go_loop [2] (fun i => i = .int .i64 0) (fun _ => 0)
  case atStart => rfl
  case round =>
    subst hrel
    go_wp2
    go_end0
    exact ⟨rfl, rfl⟩
theorem over_any (base n : Nat) (v : Value) (zs : List Int) (w : World) (hn : n ≤ 1000000000) (ho : w.ownsRow base 23 1 v n (zs.map (Value.int .u64))) :
    Calls Try.prog 11 #[v] w fun e w' => e = .returned (.tuple #[]) ∧ Kk.Kep (fun k => v.ownBlock = some k) w w' := by
  rcases ho.2 with ⟨rfl, rfl⟩ | ⟨g, c, cur, rfl, r⟩
  · exact (overWords_none none 0 w).mono fun e w' h => ⟨h.1, by rw [h.2]; exact Kk.Kep.refl _ _⟩
  · exact (overWords g n c base zs w hn ho).mono fun e w' h => ⟨h.1, h.2.mono fun k _ e => by rw [e]; rfl⟩

theorem same_of_len {zs ys : List Int} (h : zs.length = ys.length) (hk : ∀ i, i < zs.length → zs.getD i 0 = ys.getD i 0) : zs = ys := by
  refine List.ext_getElem h fun i h1 h2 => ?_
  have := hk i h1
  rwa [Kk.getD_eq _ _ h1, Kk.getD_eq _ _ h2] at this

set_option maxHeartbeats 1000000 in
theorem sameWords (A B : Option Addr) (n c m d : Nat) (zs ys : List Int) (w : World) (ha : SU w A n c zs) (hb : SU w B m d ys) (hn : n ≤ 1000000000) (hm : m ≤ 1000000000) :
    Calls Try.prog 40 #[.slice A n c, .slice B m d] w fun e w' => e = .returned (.bool (decide (zs = ys))) ∧ Kk.Bel w w' := by
  have HA := Lib.hid ha
  have HB := Lib.hid hb
  have HLA := Lib.hid ha.len
  have HLB := Lib.hid hb.len
  clear ha hb
  by_cases hnm : n = m
  · subst hnm
    have hbb : ((n : Int) == n) = true := by simp
    go_enter Try.func40, Try.ntmps40
    go_wp2_with fail
    go_loopw [5, 6] (fun s i wr => ∃ k : Nat, k ≤ n ∧ i = .int .i64 k ∧ Kk.Bel w wr ∧ ∃ b : Bool, s = .bool b ∧ (b = true → ∀ j, j < k → zs.getD j 0 = ys.getD j 0) ∧ (b = false → zs ≠ ys)) (fun _ i _ => n - (intOf i).toNat)
    case atStart => exact ⟨0, Nat.zero_le _, rfl, Kk.Bel.refl _, true, rfl, fun _ j hj => absurd hj (by omega), fun h => by cases h⟩
    case round =>
      obtain ⟨k, hk, rfl, hbel, b, rfl, ht, hf⟩ := hrel
      cases b with
      | false =>
        have HD := Lib.hid (show decide (zs = ys) = false from decide_eq_false (hf rfl))
        have HBE := Lib.hid hbel
        clear ht hf hbel
        go_wp2
        go_ret
        exact ⟨by rw [HD.out]; rfl, HBE.out⟩
      | true =>
        have HT := Lib.hid (ht rfl)
        clear ht hf
        by_cases hlt : k < n
        · obtain ⟨g1, o1, rfl, hg1, c1⟩ := (HA.out.ints.bel hbel).cell hlt
          obtain ⟨g2, o2, rfl, hg2, c2⟩ := (HB.out.ints.bel hbel).cell hlt
          obtain ⟨x, hx⟩ : ∃ x, zs.getD k 0 = x := ⟨_, rfl⟩
          obtain ⟨y, hy⟩ : ∃ y, ys.getD k 0 = y := ⟨_, rfl⟩
          rw [hx] at c1
          rw [hy] at c2
          have HX := Lib.hid hx
          have HY := Lib.hid hy
          have HBE := Lib.hid hbel
          clear hx hy hbel
          go_upto_region 5 with fail
          go_quiet (fail)
          have c1 := c1
          go_wp2
          go_roundw
          case rel =>
            refine ⟨k + 1, by omega, by go_num, by first | exact HBE.out | exact HBE.out.drew | exact HBE.out.drewN _, (x == y), rfl, ?_, ?_⟩
            · intro h j hj
              rcases Nat.lt_or_ge j k with h' | h'
              · exact HT.out j h'
              · obtain rfl : j = k := by omega
                rw [HX.out, HY.out]
                simpa using h
            · intro h e
              subst e
              have := HX.out.symm.trans HY.out
              subst this
              simp at h
          case measure => simp [intOf]; omega
        · obtain rfl : k = n := by omega
          have HD := Lib.hid (show decide (zs = ys) = true from decide_eq_true (same_of_len (by rw [HLA.out, HLB.out]) (by rw [HLA.out]; exact HT.out)))
          have HBE := Lib.hid hbel
          clear hbel
          go_wp2
          go_ret
          exact ⟨by rw [HD.out]; rfl, HBE.out⟩
  · have HD := Lib.hid (show decide (zs = ys) = false from decide_eq_false (fun e => hnm (by rw [← HLA.out, ← HLB.out, e])))
    have hbb : ((n : Int) == m) = false := by simp; omega
    clear hnm
    go_enter Try.func40, Try.ntmps40
    go_wp2_with fail
    go_loop [5] (fun s => s = .bool false) (fun _ => 0)
    case atStart => rfl
    case round =>
      subst hrel
      go_wp2
      go_ret
      exact ⟨by rw [HD.out]; rfl, Kk.Bel.refl _⟩
end Bk
end Go.Proofs.Ytgdaojbflokmoaa
end

section
/-
  The contracts of package bank, said of banks as values; distraintkit.SameBank, CopyBank; the law's does. Conditions: the amounts are words, the accounts at most some billions.
-/
namespace Go.Proofs.Ytgdaojbflokmoaa
open Go.RowKit Go.Shelf
set_option linter.unusedVariables false
namespace Bk
open Pm

/-- A load of a row, whether it is guarded or not. -/
theorem wpList_load_g {ops : Array Oper} {rest : List Oper} {o : Oper} {a : Act} {w : World} {Q : Exit → Act → World → Prop} (hw : Region.wanted o (yielded ops a.tmps) = true) (ty : TypeId) (x : Operand) (ho : o.op = .load ty x)
    (b q : Nat) (hx : a.eval x = .pointer (some ⟨b, q, none⟩)) (cs : List Value) (d : TypeDesc) (hc : w.rangeAt b q cs)
    (hu : Try.prog.underlying ty = some d) (hd : d.isRow = true) (hi : (Try.prog.info? ty).map (·.size) = some cs.length)
    (h : wpList Try.prog ops Q rest (a.put o.dst (.agg cs.toArray)) w) : wpList Try.prog ops Q (o :: rest) a w :=
  wpList_step fun K hK => by
    rw [if_pos hw]
    exact wp_load_mid ty x ho b q hx cs d hc hu hd hi (hK _ _ h)

def Good (zs ps : List Int) : Prop := Words zs ∧ Words ps ∧ ps.length = 4 ∧ zs.length ≤ 1000000
/-- Cells that read as a bank. -/
def BV (w : World) (Y : List Value) (zs ps : List Int) : Prop := ∃ A c, Y = bkC (.slice A zs.length c) ps ∧ SU w A zs.length c zs ∧ Good zs ps
theorem BV.bel {w w' : World} {Y : List Value} {zs ps : List Int} (h : BV w Y zs ps) (hb : Kk.Bel w w') : BV w' Y zs ps := by
  obtain ⟨A, c, e, hs, hg⟩ := h
  exact ⟨A, c, e, hs.bel hb, hg⟩
theorem BV.len {w : World} {Y : List Value} {zs ps : List Int} (h : BV w Y zs ps) : Y.length = 5 := by obtain ⟨A, c, rfl, _, hg⟩ := h; exact bkC_len hg.2.2.1
theorem BV.one {w : World} {Y : List Value} {zs ps : List Int} (h : BV w Y zs ps) : Y.toArray.all (·.oneCell') = true := by obtain ⟨A, c, rfl, _⟩ := h; exact all_oneCell_toArray bkC_one
theorem BV.good {w : World} {Y : List Value} {zs ps : List Int} (h : BV w Y zs ps) : Good zs ps := by obtain ⟨A, c, rfl, _, hg⟩ := h; exact hg
theorem four_of {ps : List Int} (h : ps.length = 4) : ∃ a b c d, ps = [a, b, c, d] := by
  match ps, h with
  | [a, b, c, d], _ => exact ⟨a, b, c, d, rfl⟩
/-- A bank in new memory, its cells. -/
def NB (w w' : World) (Y : List Value) (zs ps : List Int) : Prop := FB w w' (.agg Y.toArray) zs ps ∧ BV w' Y zs ps
theorem NB.bel {w w' : World} {Y : List Value} {zs ps : List Int} (h : NB w w' Y zs ps) : Kk.Bel w w' := h.1.bel
theorem FB.nb {w w' : World} {V : Value} {zs ps : List Int} (h : FB w w' V zs ps) (hg : Good zs ps) : ∃ Y, V = .agg Y.toArray ∧ NB w w' Y zs ps := by
  obtain ⟨v, rfl, hf⟩ := h
  obtain ⟨A, c, rfl, hs⟩ := hf.su
  exact ⟨_, rfl, ⟨_, rfl, hf⟩, A, c, rfl, hs, hg⟩
theorem words_nil : Words [] := words_of (by simp)
theorem words_zero : Words [0, 0, 0, 0] := words_of (by intro z hz; simp at hz; subst hz; decide)
theorem good_zero : Good [] [0, 0, 0, 0] := ⟨words_nil, words_zero, rfl, Nat.zero_le _⟩
theorem good_okZ {e : Int} {zs : List Int} (h : Good zs [0, 0, 0, 0]) : Good (okZ e zs) [0, 0, 0, 0] := by
  unfold okZ
  split
  · exact h
  · exact good_zero

theorem checkV (Y : List Value) (zs ps : List Int) (w : World) (h : BV w Y zs ps) :
    Calls Try.prog 18 #[.agg Y.toArray] w fun e w' => e = .returned (.int .i64 (chk zs ps)) ∧ Kk.Bel w w' := by
  obtain ⟨A, c, rfl, hs, hz, hp, hl, hn⟩ := h
  obtain ⟨p0, p1, p2, p3, rfl⟩ := four_of hl
  exact check A _ c zs [p0, p1, p2, p3] w hs (by omega) hz hp rfl
theorem supplyV (Y : List Value) (zs ps : List Int) (w : World) (h : BV w Y zs ps) :
    Calls Try.prog 12 #[.agg Y.toArray] w fun e w' => e = .returned (.tuple #[.int .u64 (okI (chk zs ps) (zs.sum + ps.sum)), .int .i64 (chk zs ps)]) ∧ Kk.Bel w w' := by
  obtain ⟨A, c, rfl, hs, hz, hp, hl, hn⟩ := h
  obtain ⟨p0, p1, p2, p3, rfl⟩ := four_of hl
  exact supply A _ c zs p0 p1 p2 p3 w hs (by omega) hz hp
theorem totalV (Y : List Value) (zs ps : List Int) (w : World) (h : BV w Y zs ps) :
    Calls Try.prog 14 #[.agg Y.toArray] w fun e w' => e = .returned (.tuple #[.int .u64 (okI (chk zs ps) zs.sum), .int .i64 (chk zs ps)]) ∧ Kk.Bel w w' := by
  obtain ⟨A, c, rfl, hs, hz, hp, hl, hn⟩ := h
  obtain ⟨p0, p1, p2, p3, rfl⟩ := four_of hl
  exact total_ A _ c zs p0 p1 p2 p3 w hs (by omega) hz hp
theorem haveV (k : Int) (Y : List Value) (zs ps : List Int) (w : World) (h : BV w Y zs ps) :
    Calls Try.prog 16 #[.agg Y.toArray, .int .i64 k] w fun e w' => e = .returned (.tuple #[.int .u64 (okI (havE zs ps k) (zs.getD k.toNat 0)), .int .i64 (havE zs ps k)]) ∧ Kk.Bel w w' := by
  obtain ⟨A, c, rfl, hs, hz, hp, hl, hn⟩ := h
  obtain ⟨p0, p1, p2, p3, rfl⟩ := four_of hl
  exact have_ k A _ c zs p0 p1 p2 p3 w hs (by omega) hz hp
theorem newV (A : Option Addr) (n c : Nat) (zs : List Int) (w : World) (hi : SU w A n c zs) (hn : n ≤ 1000000) (hz : Words zs) :
    Calls Try.prog 8 #[.slice A n c] w fun e w' => ∃ Y, e = .returned (.tuple #[.agg Y.toArray, .int .i64 (chk zs [0, 0, 0, 0])]) ∧ NB w w' Y (okZ (chk zs [0, 0, 0, 0]) zs) [0, 0, 0, 0] := by
  refine (new A n c zs w hi (by omega) hz).mono ?_
  rintro e w' ⟨V, rfl, hfb⟩
  obtain ⟨Y, rfl, hnb⟩ := hfb.nb (good_okZ ⟨hz, words_zero, rfl, by rw [hi.len]; exact hn⟩)
  exact ⟨Y, rfl, hnb⟩

/-! ### What moves do to amounts -/
theorem x_ok {zs ps : List Int} {pf pt : Bool} {f t m least : Int} (h : xE zs ps pf pt f t m least = 0) :
    chk zs ps = 0 ∧ plE zs pf f = 0 ∧ plE zs pt t = 0 ∧ ¬ ((pf = pt ∧ f = t) ∨ (pf = true ∧ f = 2) ∨ m < least) ∧ m ≤ bal zs ps pf f := by
  unfold xE at h
  split at h
  · rename_i h1
    split at h
    · rename_i h2
      split at h
      · rename_i h3
        split at h
        · cases h
        · rename_i h4
          split at h
          · cases h
          · exact ⟨h1, h2, h3, h4, by omega⟩
      · rename_i h3; exact absurd h h3
    · rename_i h2; exact absurd h h2
  · rename_i h1; exact absurd h h1
theorem x_of {zs ps : List Int} {pf pt : Bool} {f t m least : Int} (h1 : chk zs ps = 0) (h2 : plE zs pf f = 0) (h3 : plE zs pt t = 0) (h4 : ¬ ((pf = pt ∧ f = t) ∨ (pf = true ∧ f = 2) ∨ m < least)) (h5 : m ≤ bal zs ps pf f) : xE zs ps pf pt f t m least = 0 := by
  unfold xE
  rw [if_pos h1, if_pos h2, if_pos h3, if_neg h4, if_neg (by omega)]
/-- A place that there is. -/
def At (zs ps : List Int) (pool : Bool) (k : Nat) : Prop := if pool then k < ps.length else k < zs.length
theorem pl_at {zs ps : List Int} {pool : Bool} {f : Int} (hl : ps.length = 4) (h : plE zs pool f = 0) : ∃ k : Nat, f = k ∧ At zs ps pool k := by
  cases pool
  · obtain ⟨j, rfl, hj⟩ := plA_ok h; exact ⟨j, rfl, hj⟩
  · obtain ⟨j, rfl, hj⟩ := plP_ok h; exact ⟨j, rfl, by show j < ps.length; omega⟩
theorem at_pl {zs ps : List Int} {pool : Bool} {k : Nat} (hl : ps.length = 4) (h : At zs ps pool k) : plE zs pool k = 0 := by
  cases pool
  · unfold plE; rw [if_neg (by decide), if_neg (by have : k < zs.length := h; omega)]
  · unfold plE; rw [if_pos rfl, if_neg (by have : k < ps.length := h; omega)]
theorem put_sum {zs ps : List Int} {pool : Bool} {k : Nat} (h : At zs ps pool k) (v : Int) : (putZ zs pool k v).sum + (putP ps pool k v).sum = zs.sum + ps.sum - bal zs ps pool k + v := by
  cases pool
  · have := sum_set zs k v h
    simp only [putZ, putP, bal, Int.toNat_natCast, Bool.false_eq_true, if_false, this]; omega
  · have := sum_set ps k v h
    simp only [putZ, putP, bal, Int.toNat_natCast, if_true, this]; omega
theorem put_len (zs ps : List Int) (pool : Bool) (k : Nat) (v : Int) : (putZ zs pool k v).length = zs.length ∧ (putP ps pool k v).length = ps.length := by
  cases pool <;> simp [putZ, putP]
theorem at_len {zs ps zs' ps' : List Int} (h1 : zs'.length = zs.length) (h2 : ps'.length = ps.length) {pool : Bool} {k : Nat} (h : At zs ps pool k) : At zs' ps' pool k := by
  cases pool
  · show k < zs'.length; rw [h1]; exact h
  · show k < ps'.length; rw [h2]; exact h
theorem getD_set (l : List Int) (i : Nat) (v : Int) (h : i < l.length) : (l.set i v).getD i 0 = v := by
  rw [List.getD_eq_getElem?_getD, List.getElem?_set_self h]; rfl
theorem bal_put {zs ps : List Int} {pool q : Bool} {k j : Nat} (h : At zs ps pool k) (v : Int) : bal (putZ zs pool k v) (putP ps pool k v) q j = if pool = q ∧ k = j then v else bal zs ps q j := by
  cases pool <;> cases q
  · simp only [putZ, putP, bal, Int.toNat_natCast, Bool.false_eq_true, if_false, true_and]
    by_cases e : k = j
    · subst e; rw [if_pos rfl]; exact getD_set zs k v h
    · rw [if_neg e]; exact getD_set_ne zs v e
  · simp [putP, bal]
  · simp [putZ, bal]
  · simp only [putZ, putP, bal, Int.toNat_natCast, if_true, true_and]
    by_cases e : k = j
    · subst e; rw [if_pos rfl]; exact getD_set ps k v h
    · rw [if_neg e]; exact getD_set_ne ps v e
theorem bal_words {zs ps : List Int} (hz : Words zs) (hp : Words ps) (pool : Bool) (k : Int) : 0 ≤ bal zs ps pool k ∧ bal zs ps pool k ≤ 18446744073709551615 := by
  cases pool
  · exact hz _
  · exact hp _
theorem bal_le {zs ps : List Int} (hz : Words zs) (hp : Words ps) (pool : Bool) (k : Int) : bal zs ps pool k ≤ zs.sum + ps.sum := by
  have h1 := sum0 hz
  have h2 := sum0 hp
  cases pool
  · have := get_le_sum hz k.toNat; show zs.getD k.toNat 0 ≤ _; omega
  · have := get_le_sum hp k.toNat; show ps.getD k.toNat 0 ≤ _; omega
theorem put_words {zs ps : List Int} (hz : Words zs) (hp : Words ps) (pool : Bool) (k v : Int) (h0 : 0 ≤ v) (h1 : v ≤ 18446744073709551615) : Words (putZ zs pool k v) ∧ Words (putP ps pool k v) := by
  cases pool
  · exact ⟨words_set hz h0 h1, hp⟩
  · exact ⟨hz, words_set hp h0 h1⟩

/-- What a move that is done makes: the places, their amounts, the sum. -/
structure Moved (zs ps zs' ps' : List Int) (pf pt : Bool) (i j : Nat) (m : Int) : Prop where
  good : Good zs' ps'
  zl : zs'.length = zs.length
  sum : zs'.sum + ps'.sum = zs.sum + ps.sum
  from_ : At zs ps pf i
  to_ : At zs ps pt j
  ne : ¬ (pf = pt ∧ i = j)
  unburned : ¬ (pf = true ∧ i = 2)
  le : m ≤ bal zs ps pf i
  at_ : ∀ (q : Bool) (k : Nat), bal zs' ps' q k = bal zs ps q k + (if pt = q ∧ j = k then m else 0) - (if pf = q ∧ i = k then m else 0)
theorem moved {zs ps : List Int} {pf pt : Bool} {f t m least : Int} (hg : Good zs ps) (m0 : 0 ≤ m) (h : xE zs ps pf pt f t m least = 0) :
    chk zs ps = 0 ∧ ¬ m < least ∧ ∃ i j : Nat, f = i ∧ t = j ∧ Moved zs ps (xZ zs ps pf pt f t m least) (xP zs ps pf pt f t m least) pf pt i j m := by
  obtain ⟨h1, h2, h3, h4, h5⟩ := x_ok h
  obtain ⟨hz, hp, hl, hn⟩ := hg
  obtain ⟨i, rfl, hi⟩ := pl_at (ps := ps) hl h2
  obtain ⟨j, rfl, hj⟩ := pl_at (ps := ps) hl h3
  have hle := (chk_ok h1).2.2
  have b1 := bal_words hz hp pf i
  have b2 := bal_words hz hp pt j
  have b3 := bal_le hz hp pt j
  have b4 := bal_le hz hp pf i
  have hne : ¬ (pf = pt ∧ i = j) := fun e => h4 (.inl ⟨e.1, by rw [e.2]⟩)
  have w1 := put_words hz hp pf i (bal zs ps pf i - m) (by omega) (by omega)
  have w2 := put_words w1.1 w1.2 pt j (bal zs ps pt j + m) (by omega) (by omega)
  have l1 := put_len zs ps pf i (bal zs ps pf i - m)
  have l2 := put_len (putZ zs pf i (bal zs ps pf i - m)) (putP ps pf i (bal zs ps pf i - m)) pt j (bal zs ps pt j + m)
  have hj2 : At (putZ zs pf i (bal zs ps pf i - m)) (putP ps pf i (bal zs ps pf i - m)) pt j := at_len l1.1 l1.2 hj
  have s1 := put_sum hi (bal zs ps pf i - m)
  have s2 := put_sum hj2 (bal zs ps pt j + m)
  have e1 : bal (putZ zs pf i (bal zs ps pf i - m)) (putP ps pf i (bal zs ps pf i - m)) pt j = bal zs ps pt j := by rw [bal_put hi, if_neg hne]
  rw [e1] at s2
  refine ⟨h1, fun e => h4 (.inr (.inr e)), i, j, rfl, rfl, ?_⟩
  have eZ : xZ zs ps pf pt i j m least = putZ (putZ zs pf i (bal zs ps pf i - m)) pt j (bal zs ps pt j + m) := by unfold xZ okZ; rw [if_pos h]; rfl
  have eP : xP zs ps pf pt i j m least = putP (putP ps pf i (bal zs ps pf i - m)) pt j (bal zs ps pt j + m) := by unfold xP okP; rw [if_pos h]; rfl
  rw [eZ, eP]
  refine ⟨⟨w2.1, w2.2, by rw [l2.2, l1.2, hl], by rw [l2.1, l1.1]; exact hn⟩, by rw [l2.1, l1.1], by omega, hi, hj, hne, fun e => h4 (.inr (.inl ⟨e.1, by rw [e.2]; rfl⟩)), h5, ?_⟩
  intro q k
  rw [bal_put hj2, bal_put hi]
  by_cases c1 : pt = q ∧ j = k
  · rw [if_pos c1, if_pos c1]
    obtain ⟨rfl, rfl⟩ := c1
    rw [if_neg hne]
    omega
  · rw [if_neg c1, if_neg c1]
    by_cases c2 : pf = q ∧ i = k
    · rw [if_pos c2, if_pos c2]
      obtain ⟨rfl, rfl⟩ := c2
      omega
    · rw [if_neg c2, if_neg c2]
      omega
theorem x_good {zs ps : List Int} {pf pt : Bool} {f t m least : Int} (hg : Good zs ps) (m0 : 0 ≤ m) : Good (xZ zs ps pf pt f t m least) (xP zs ps pf pt f t m least) := by
  by_cases h : xE zs ps pf pt f t m least = 0
  · obtain ⟨_, _, i, j, _, _, hm⟩ := moved hg m0 h
    exact hm.good
  · rw [xZ_no h, xP_no h]; exact good_zero

theorem sendV (f t m : Int) (Y : List Value) (zs ps : List Int) (w : World) (h : BV w Y zs ps) (m0 : 0 ≤ m) (m1 : m ≤ 18446744073709551615) :
    Calls Try.prog 38 #[.agg Y.toArray, .int .i64 f, .int .i64 t, .int .u64 m] w fun e w' => ∃ X, e = .returned (.tuple #[.agg X.toArray, .int .i64 (xE zs ps false false f t m 1)]) ∧ NB w w' X (xZ zs ps false false f t m 1) (xP zs ps false false f t m 1) := by
  have hg := x_good (pf := false) (pt := false) (f := f) (t := t) (least := 1) h.good m0
  obtain ⟨A, c, rfl, hs, hz, hp, hl, hn⟩ := h
  obtain ⟨p0, p1, p2, p3, rfl⟩ := four_of hl
  refine (send f t m A _ c zs p0 p1 p2 p3 w hs (by omega) hz hp m0 m1).mono ?_
  rintro e w' ⟨V, rfl, hfb⟩
  obtain ⟨X, rfl, hnb⟩ := hfb.nb hg
  exact ⟨X, rfl, hnb⟩

theorem payV (f t m : Int) (Y : List Value) (zs ps : List Int) (w : World) (h : BV w Y zs ps) (m0 : 0 ≤ m) (m1 : m ≤ 18446744073709551615) :
    Calls Try.prog 48 #[.agg Y.toArray, .int .i64 f, .int .i64 t, .int .u64 m] w fun e w' => ∃ X, e = .returned (.tuple #[.agg X.toArray, .int .i64 (xE zs ps true false f t m 0)]) ∧ NB w w' X (xZ zs ps true false f t m 0) (xP zs ps true false f t m 0) := by
  have hg := x_good (pf := true) (pt := false) (f := f) (t := t) (least := 0) h.good m0
  obtain ⟨A, c, rfl, hs, hz, hp, hl, hn⟩ := h
  obtain ⟨p0, p1, p2, p3, rfl⟩ := four_of hl
  refine (pay f t m A _ c zs p0 p1 p2 p3 w hs (by omega) hz hp m0 m1).mono ?_
  rintro e w' ⟨V, rfl, hfb⟩
  obtain ⟨X, rfl, hnb⟩ := hfb.nb hg
  exact ⟨X, rfl, hnb⟩

theorem take_V (f t m : Int) (Y : List Value) (zs ps : List Int) (w : World) (h : BV w Y zs ps) (m0 : 0 ≤ m) (m1 : m ≤ 18446744073709551615) :
    Calls Try.prog 49 #[.agg Y.toArray, .int .i64 f, .int .i64 t, .int .u64 m] w fun e w' => ∃ X, e = .returned (.tuple #[.agg X.toArray, .int .i64 (xE zs ps false true f t m 0)]) ∧ NB w w' X (xZ zs ps false true f t m 0) (xP zs ps false true f t m 0) := by
  have hg := x_good (pf := false) (pt := true) (f := f) (t := t) (least := 0) h.good m0
  obtain ⟨A, c, rfl, hs, hz, hp, hl, hn⟩ := h
  obtain ⟨p0, p1, p2, p3, rfl⟩ := four_of hl
  refine (take_ f t m A _ c zs p0 p1 p2 p3 w hs (by omega) hz hp m0 m1).mono ?_
  rintro e w' ⟨V, rfl, hfb⟩
  obtain ⟨X, rfl, hnb⟩ := hfb.nb hg
  exact ⟨X, rfl, hnb⟩

theorem moveV (f t m : Int) (Y : List Value) (zs ps : List Int) (w : World) (h : BV w Y zs ps) (m0 : 0 ≤ m) (m1 : m ≤ 18446744073709551615) :
    Calls Try.prog 50 #[.agg Y.toArray, .int .i64 f, .int .i64 t, .int .u64 m] w fun e w' => ∃ X, e = .returned (.tuple #[.agg X.toArray, .int .i64 (xE zs ps true true f t m 0)]) ∧ NB w w' X (xZ zs ps true true f t m 0) (xP zs ps true true f t m 0) := by
  have hg := x_good (pf := true) (pt := true) (f := f) (t := t) (least := 0) h.good m0
  obtain ⟨A, c, rfl, hs, hz, hp, hl, hn⟩ := h
  obtain ⟨p0, p1, p2, p3, rfl⟩ := four_of hl
  refine (move f t m A _ c zs p0 p1 p2 p3 w hs (by omega) hz hp m0 m1).mono ?_
  rintro e w' ⟨V, rfl, hfb⟩
  obtain ⟨X, rfl, hnb⟩ := hfb.nb hg
  exact ⟨X, rfl, hnb⟩

theorem burnV (f m : Int) (Y : List Value) (zs ps : List Int) (w : World) (h : BV w Y zs ps) (m0 : 0 ≤ m) (m1 : m ≤ 18446744073709551615) :
    Calls Try.prog 39 #[.agg Y.toArray, .int .i64 f, .int .u64 m] w fun e w' => ∃ X, e = .returned (.tuple #[.agg X.toArray, .int .i64 (xE zs ps true true f 2 m 0)]) ∧ NB w w' X (xZ zs ps true true f 2 m 0) (xP zs ps true true f 2 m 0) := by
  have hg := x_good (pf := true) (pt := true) (f := f) (t := 2) (least := 0) h.good m0
  obtain ⟨A, c, rfl, hs, hz, hp, hl, hn⟩ := h
  obtain ⟨p0, p1, p2, p3, rfl⟩ := four_of hl
  refine (burn f m A _ c zs p0 p1 p2 p3 w hs (by omega) hz hp m0 m1).mono ?_
  rintro e w' ⟨V, rfl, hfb⟩
  obtain ⟨X, rfl, hnb⟩ := hfb.nb hg
  exact ⟨X, rfl, hnb⟩

theorem eql_p (p q : List Int) (hp : p.length = 4) (hq : q.length = 4) (W : World) : (binOp .eql 24 (.agg (p.map (Value.int .u64)).toArray) (.agg (q.map (Value.int .u64)).toArray)).run Try.prog W = .ok (.bool (decide (p = q))) W := by
  obtain ⟨i, hi⟩ := info_of_underlying Try.underlying23
  rw [Ki.eql_ints Try.underlying24 Try.underlying23 hi (by kernel_rfl) p q hp hq W, show (p == q) = decide (p = q) from Bool.eq_iff_iff.2 (by simp)]

set_option maxRecDepth 10000 in
set_option maxHeartbeats 1000000 in
theorem sameBank (Y X : List Value) (zs ps ys qs : List Int) (w : World) (hY : BV w Y zs ps) (hX : BV w X ys qs) :
    Calls Try.prog 10 #[.agg Y.toArray, .agg X.toArray] w fun e w' => e = .returned (.bool (decide (zs = ys ∧ ps = qs))) ∧ Kk.Bel w w' := by
  have lY := hY.len
  have lX := hX.len
  obtain ⟨A, c, eY, hs, hz, hp, hl, hn⟩ := hY
  obtain ⟨B, d, eX, hs2, hz2, hp2, hl2, hn2⟩ := hX
  obtain ⟨W0, hW0⟩ : ∃ W0, w.alloc (.cells Y.toArray 26) = W0 := ⟨_, rfl⟩
  obtain ⟨W1, hW1⟩ : ∃ W1, W0.alloc (.cells X.toArray 26) = W1 := ⟨_, rfl⟩
  obtain ⟨p, hp0⟩ : ∃ p, w.heap.size = p := ⟨_, rfl⟩
  have hs0 : W0.heap.size = p + 1 := by rw [← hW0, ← hp0, World.size_alloc]
  have B1 := Lib.hid (show Kk.Bel w W1 by rw [← hW1, ← hW0]; exact ((Kk.Bel.refl w).alloc _).alloc _)
  have r0 : W1.rangeAt p 0 Y := by rw [← hW1, ← hp0, ← hW0]; exact rngB ((Kk.Blk.new w _ _).alloc _)
  have r1 : W1.rangeAt (p + 1) 0 X := by rw [← hW1, ← hs0]; exact rngB (Kk.Blk.new W0 _ _)
  have hc0 : W1.cell? ⟨p, 0, none⟩ = some (.slice A zs.length c) := by rw [eY] at r0; exact bk_slice r0
  have hc1 : W1.cell? ⟨p + 1, 0, none⟩ = some (.slice B ys.length d) := by rw [eX] at r1; exact bk_slice r1
  have R0 := Lib.hid (show W1.rangeAt p 1 (ps.map (Value.int .u64)) from fun j v hv => by
    rw [eY] at r0
    have := r0 (1 + j) v (by rw [Nat.add_comm, bkC, List.getElem?_cons_succ]; exact hv)
    rwa [Nat.zero_add] at this)
  have R1 := Lib.hid (show W1.rangeAt (p + 1) 1 (qs.map (Value.int .u64)) from fun j v hv => by
    rw [eX] at r1
    have := r1 (1 + j) v (by rw [Nat.add_comm, bkC, List.getElem?_cons_succ]; exact hv)
    rwa [Nat.zero_add] at this)
  have CW := Lib.hid (sameWords A B _ c _ d zs ys W1 (hs.bel B1.out) (hs2.bel B1.out) (by omega) (by omega))
  have uP := Try.underlying24
  obtain ⟨P, hP⟩ : ∃ P, P = ps.map (Value.int .u64) := ⟨_, rfl⟩
  obtain ⟨Q, hQ⟩ : ∃ Q, Q = qs.map (Value.int .u64) := ⟨_, rfl⟩
  have hpe : ∀ V, (binOp .eql 24 (.agg P.toArray) (.agg Q.toArray)).run Try.prog V = .ok (.bool (decide (ps = qs))) V := fun V => by rw [hP, hQ]; exact eql_p ps qs hl hl2 V
  rw [← hP] at R0
  rw [← hQ] at R1
  have iP := Lib.hid (show (Try.prog.info? 24).map (·.size) = some P.length by rw [hP, List.length_map, hl]; exact info_pools)
  have iQ := Lib.hid (show (Try.prog.info? 24).map (·.size) = some Q.length by rw [hQ, List.length_map, hl2]; exact info_pools)
  have HP0 := Lib.hid hp0
  have HS0 := Lib.hid hs0
  have HW0 := Lib.hid hW0
  have HW1 := Lib.hid hW1
  obtain ⟨b1, hb1⟩ : ∃ b, decide (zs = ys) = b := ⟨_, rfl⟩
  obtain ⟨b2, hb2⟩ : ∃ b, decide (ps = qs) = b := ⟨_, rfl⟩
  rw [hb1] at CW
  rw [hb2] at hpe
  have HB : decide (zs = ys ∧ ps = qs) = (b1 && b2) := by rw [← hb1, ← hb2]; simp
  rw [HB]
  clear hb1 hb2 HB hP hQ r0 r1 eY eX hs hs2 hz hp hl hn hz2 hp2 hl2 hn2 hp0 hs0 hW0 hW1 lX lY
  cases b1
  · go_enter Try.func10, Try.ntmps10
    go_upto_region 1 with fail
    rw [HW0.out, HP0.out, HW1.out]
    go_wp2_with fail
    refine CW.out.mono ?_
    rintro e w2 ⟨rfl, k2⟩
    go_wp2
    go_ret
    exact ⟨rfl, B1.out.trans k2⟩
  · go_enter Try.func10, Try.ntmps10
    go_upto_region 1 with fail
    rw [HW0.out, HP0.out, HW1.out]
    go_wp2_with fail
    refine CW.out.mono ?_
    rintro e w2 ⟨rfl, k2⟩
    have R2 := Lib.hid (rng_bel R0.out k2)
    have R3 := Lib.hid (rng_bel R1.out k2)
    have B2 := Lib.hid (B1.out.trans k2)
    clear k2 CW
    go_wp2_with (first | ((with_reducible refine wpList_load_g ?_ 24 (.tmp 11) ?_ p 1 ?_ P _ R2.out uP ?_ iP.out ?_); rfl; rfl; rfl; rfl) | ((with_reducible refine wpList_load_g ?_ 24 (.tmp 13) ?_ (p + 1) 1 ?_ Q _ R3.out uP ?_ iQ.out ?_); rfl; rfl; rfl; rfl))
    go_ret
    exact ⟨rfl, B2.out⟩
end Bk
end Go.Proofs.Ytgdaojbflokmoaa
end

section
/-
  A bank in a variable of a law's. No walk.
-/
namespace Go.Proofs.Ytgdaojbflokmoaa
open Go.RowKit Go.Shelf
set_option linter.unusedVariables false
namespace Bk
open Pm

theorem FB.same {w w' : World} {Y : List Value} {zs ps : List Int} (h : FB w w' (.agg Y.toArray) zs ps) (hg : Good zs ps) : NB w w' Y zs ps := by
  obtain ⟨X, e, hnb⟩ := h.nb hg
  injection e with e
  obtain rfl : Y = X := by simpa using e
  exact hnb
/-- The block b holds the cells Y, which read as a bank in memory that is newer than w0. -/
structure Var (w0 W : World) (b : Nat) (Y : List Value) (zs ps : List Int) : Prop where
  blk : Kk.Blk W b Y.toArray 26
  nb : NB w0 W Y zs ps
  le : w0.heap.size ≤ b
theorem Var.bv {w0 W : World} {b : Nat} {Y : List Value} {zs ps : List Int} (h : Var w0 W b Y zs ps) : BV W Y zs ps := h.nb.2
theorem Var.good {w0 W : World} {b : Nat} {Y : List Value} {zs ps : List Int} (h : Var w0 W b Y zs ps) : Good zs ps := h.nb.2.good
theorem Var.bel {w0 W V : World} {b : Nat} {Y : List Value} {zs ps : List Int} (h : Var w0 W b Y zs ps) (k : Kk.Bel W V) : Var w0 V b Y zs ps := ⟨h.blk.bel k, FB.same (h.nb.1.then_ k) h.good, h.le⟩
theorem Var.other {w0 W : World} {b : Nat} {Y : List Value} {zs ps : List Int} (h : Var w0 W b Y zs ps) {c : Nat} {C : Array Value} (hc : Kk.Blk W c C 26) (hne : b ≠ c) (hl : w0.heap.size ≤ c) (X : List Value) : Var w0 (W.setCells c 0 X) b Y zs ps :=
  ⟨h.blk.kep (kep_setCells c X 0 W) hne, FB.same (h.nb.1.set hc (by decide) hl) h.good, h.le⟩
theorem Var.rng {w0 W : World} {b : Nat} {Y : List Value} {zs ps : List Int} (h : Var w0 W b Y zs ps) : W.rangeAt b 0 Y := rngB h.blk
theorem NB.info {w0 W : World} {Y : List Value} {zs ps : List Int} (h : NB w0 W Y zs ps) : (Try.prog.info? 26).map (·.size) = some Y.length := by rw [h.2.len]; exact info_bank
theorem NB.infoA {w0 W : World} {Y : List Value} {zs ps : List Int} (h : NB w0 W Y zs ps) : (Try.prog.info? 26).map (·.size) = some Y.toArray.size := by rw [List.size_toArray, h.2.len]; exact info_bank
theorem NB.one {w0 W : World} {Y : List Value} {zs ps : List Int} (h : NB w0 W Y zs ps) : Y.toArray.all (·.oneCell') = true := h.2.one
theorem Var.cell {w0 W : World} {b : Nat} {Y : List Value} {zs ps : List Int} (h : Var w0 W b Y zs ps) : ∃ A c, W.cell? ⟨b, 0, none⟩ = some (.slice A zs.length c) ∧ SU W A zs.length c zs := by
  obtain ⟨A, c, rfl, hs, _⟩ := h.bv
  exact ⟨A, c, bk_slice h.rng, hs⟩
theorem Var.pools {w0 W : World} {b : Nat} {Y : List Value} {zs ps : List Int} (h : Var w0 W b Y zs ps) : W.rangeAt b 1 (ps.map (Value.int .u64)) := fun j v hv => by
  obtain ⟨A, c, e, _⟩ := h.bv
  have := h.rng (1 + j) v (by rw [e, Nat.add_comm, bkC, List.getElem?_cons_succ]; exact hv)
  rwa [Nat.zero_add] at this
theorem Var.there {w0 W : World} {b : Nat} {Y X : List Value} {zs ps : List Int} (h : Var w0 W b Y zs ps) (hX : X.length = 5) : W.there b 0 X.toArray.size := bthere h.blk 0 _ (by rw [List.size_toArray, List.size_toArray, hX, h.bv.len]; exact Nat.le_refl 5)
abbrev ZB : Array Value := #[.slice none 0 0, .int .u64 0, .int .u64 0, .int .u64 0, .int .u64 0]
theorem blk_there {W : World} {b : Nat} {C : List Value} {X : List Value} (h : Kk.Blk W b C.toArray 26) (hC : C.length = 5) (hX : X.length = 5) : W.there b 0 X.toArray.size := bthere h 0 _ (by rw [List.size_toArray, List.size_toArray, hX, hC]; exact Nat.le_refl 5)
/-- A new variable. -/
theorem put_there (W : World) (Y : List Value) (hY : Y.length = 5) : (W.alloc (.cells ZB 26)).there W.heap.size 0 Y.toArray.size := bthere (Kk.Blk.new W _ _) 0 _ (by rw [List.size_toArray, hY]; exact Nat.le_refl 5)
theorem put_bel (W : World) (Y : List Value) : Kk.Bel W ((W.alloc (.cells ZB 26)).setCells W.heap.size 0 Y) := bel_setCells ((Kk.Bel.refl W).alloc _) (Nat.le_refl _) 0 _
theorem put_var {w0 w1 W : World} {Y : List Value} {zs ps : List Int} (h : NB w1 W Y zs ps) (h0 : Kk.Bel w0 w1) : Var w0 ((W.alloc (.cells ZB 26)).setCells W.heap.size 0 Y) W.heap.size Y zs ps :=
  ⟨blk5 (C := [.slice none 0 0, .int .u64 0, .int .u64 0, .int .u64 0, .int .u64 0]) (Kk.Blk.new W _ _) rfl Y h.2.len, FB.same (((h.1.then_ (put_bel W Y)).after h0)) h.2.good, Below.size (h0.trans h.bel)⟩
/-- A variable that gets another bank. -/
theorem set_var {w0 w1 W : World} {b : Nat} {C X : List Value} {zs ps : List Int} (hb : Kk.Blk W b C.toArray 26) (hC : C.length = 5) (hl : w0.heap.size ≤ b) (h : NB w1 W X zs ps) (h0 : Kk.Bel w0 w1) : Var w0 (W.setCells b 0 X) b X zs ps :=
  ⟨blk5 hb hC X h.2.len, FB.same ((h.1.after h0).set hb (by decide) hl) h.2.good, hl⟩
theorem Var.set {w0 w1 W : World} {b : Nat} {Y X : List Value} {zs ps ys qs : List Int} (hv : Var w0 W b Y ys qs) (h : NB w1 W X zs ps) (h0 : Kk.Bel w0 w1) : Var w0 (W.setCells b 0 X) b X zs ps := set_var hv.blk hv.bv.len hv.le h h0
theorem NB.after {a w w' : World} {Y : List Value} {zs ps : List Int} (hb : Kk.Bel a w) (h : NB w w' Y zs ps) : NB a w' Y zs ps := ⟨h.1.after hb, h.2⟩
theorem Var.res {w0 W : World} {b : Nat} {Y : List Value} {zs ps : List Int} (h : Var w0 W b Y zs ps) : (loadVar 26 ⟨b, 0, none⟩).run Try.prog W = .ok (.agg Y.toArray) W := load_b h.blk Try.underlying26 rfl h.nb.info
end Bk
end Go.Proofs.Ytgdaojbflokmoaa
end

section
/-
  The law's chapter and awake: the chapter's bank. No condition.
-/
namespace Go.Proofs.Ytgdaojbflokmoaa
open Go.RowKit Go.Shelf
set_option linter.unusedVariables false
namespace Bk
open Pm

theorem lit2 (W : World) (a b : Int) : SU (W.alloc (.cells #[.int .u64 a, .int .u64 b] 23)) (some ⟨W.heap.size, 0, none⟩) 2 2 [a, b] := su_lit W [a, b]
theorem words_two {a b : Int} (ha : 0 ≤ a ∧ a ≤ 18446744073709551615) (hb : 0 ≤ b ∧ b ≤ 18446744073709551615) : Words [a, b] := words_of (by
  intro z hz
  rcases List.mem_cons.1 hz with rfl | hz
  · exact ha
  · obtain rfl := List.mem_singleton.1 hz
    exact hb)

set_option maxRecDepth 10000 in
set_option maxHeartbeats 4000000 in
theorem chapter (w : World) : Calls Try.prog 37 #[] w fun e w' => ∃ Y, e = .returned (.tuple #[.agg Y.toArray, .bool true]) ∧ NB w w' Y [70, 50] [30, 0, 0, 0] := by
  obtain ⟨W0, hW0⟩ : ∃ W0, w.alloc (.cells ZB 26) = W0 := ⟨_, rfl⟩
  obtain ⟨r, hr0⟩ : ∃ r, w.heap.size = r := ⟨_, rfl⟩
  have B0 := Lib.hid (show Kk.Bel w W0 by rw [← hW0]; exact (Kk.Bel.refl w).alloc _)
  have Q0 := Lib.hid (show Kk.Blk W0 r [.slice none 0 0, .int .u64 0, .int .u64 0, .int .u64 0, .int .u64 0].toArray 26 by rw [← hW0, ← hr0]; exact Kk.Blk.new w _ _)
  obtain ⟨W1, hW1⟩ : ∃ W1, W0.alloc (.cells #[.int .u64 100, .int .u64 50] 23) = W1 := ⟨_, rfl⟩
  have hs0 : W0.heap.size = r + 1 := by rw [← hW0, ← hr0, World.size_alloc]
  have B1 := Lib.hid (show Kk.Bel W0 W1 by rw [← hW1]; exact (Kk.Bel.refl W0).alloc _)
  have CN := Lib.hid (newV (some ⟨r + 1, 0, none⟩) 2 2 [100, 50] W1 (by rw [← hW1, ← hs0]; exact lit2 W0 100 50) (by omega) (words_two (by decide) (by decide)))
  rw [show chk [100, 50] [0, 0, 0, 0] = 0 from rfl, show okZ 0 [100, 50] = [100, 50] from rfl] at CN
  have HW0 := Lib.hid hW0
  have HR := Lib.hid hr0
  have uB := Try.underlying26
  have uP := Try.underlying24
  clear hW0 hr0
  go_enter Try.func37, Try.ntmps37
  go_upto_region 1 with fail
  rw [HR.out]
  rw [show w.alloc (.cells #[.slice none 0 0, .int .u64 0, .int .u64 0, .int .u64 0, .int .u64 0] 26) = W0 from HW0.out]
  go_wp2_with fail
  refine CN.out.mono ?_
  rintro e w2 ⟨Y, rfl, hnb⟩
  have N2 := Lib.hid hnb
  have K2 := Lib.hid (B1.out.trans hnb.bel)
  have P2 := Lib.hid (put_there w2 Y hnb.2.len)
  have I2 := Lib.hid hnb.infoA
  have O2 := Lib.hid hnb.one
  clear hnb CN hs0 hW1
  go_upto_region 2 with ((with_reducible refine wpList_store_mid ?_ 26 (.tmp 2) (.tmp 7) ?_ (World.heap w2).size 0 Y.toArray ?_ ?_ P2.out I2.out O2.out ?_); rfl; rfl; rfl; rfl)
  have V3 := Lib.hid (put_var N2.out (B0.out.trans B1.out))
  have K3 := Lib.hid (K2.out.trans (put_bel w2 Y))
  obtain ⟨q, hq⟩ : ∃ q, w2.heap.size = q := ⟨_, rfl⟩
  obtain ⟨w3, hw3⟩ : ∃ w3, (w2.alloc (.cells ZB 26)).setCells w2.heap.size 0 Y = w3 := ⟨_, rfl⟩
  rw [hw3]
  rw [hw3] at V3 K3
  rw [hq] at V3 ⊢
  have HQ := Lib.hid (show r < q by rw [← hq]; exact Nat.lt_of_lt_of_le Q0.out.lt (Below.size K2.out))
  clear hw3 hq P2 I2 O2 K2 N2
  have CT := Lib.hid (take_V 0 0 30 Y [100, 50] [0, 0, 0, 0] w3 V3.out.bv (by decide) (by decide))
  rw [show xE [100, 50] [0, 0, 0, 0] false true 0 0 30 0 = 0 from rfl, show xZ [100, 50] [0, 0, 0, 0] false true 0 0 30 0 = [70, 50] from rfl, show xP [100, 50] [0, 0, 0, 0] false true 0 0 30 0 = [30, 0, 0, 0] from rfl] at CT
  go_wp2_with ((with_reducible refine wpList_load_g ?_ 26 (.tmp 2) ?_ q 0 ?_ Y _ (Var.rng V3.out) uB ?_ (NB.info V3.out.nb) ?_); rfl; rfl; rfl; rfl)
  refine CT.out.mono ?_
  rintro e w4 ⟨X, rfl, hnb⟩
  have V4 := Lib.hid (V3.out.bel hnb.bel)
  have N4 := Lib.hid hnb
  have T4 := Lib.hid (V4.out.there hnb.2.len)
  have I4 := Lib.hid hnb.infoA
  have O4 := Lib.hid hnb.one
  clear hnb CT
  go_upto_region 5 with ((with_reducible refine wpList_store_mid ?_ 26 (.tmp 2) (.tmp 15) ?_ q 0 X.toArray ?_ ?_ T4.out I4.out O4.out ?_); rfl; rfl; rfl; rfl)
  have V5 := Lib.hid (V4.out.set N4.out (B0.out.trans K3.out))
  have Q5 := Lib.hid ((Q0.out.bel (K3.out.trans N4.out.bel)).kep (kep_setCells q X 0 w4) (by have := HQ.out; omega))
  have K5 := Lib.hid (bel_setCells (B0.out.trans (K3.out.trans N4.out.bel)) V4.out.le 0 X)
  obtain ⟨w5, hw5⟩ : ∃ w5, w4.setCells q 0 X = w5 := ⟨_, rfl⟩
  rw [hw5] at V5 Q5 K5 ⊢
  clear hw5 V4 N4 T4 I4 O4 V3 K3
  obtain ⟨A, c, hcell, hsu⟩ := V5.out.cell
  have HSU := Lib.hid (show SU w5 A 2 c [70, 50] from hsu)
  have hcell : w5.cell? ⟨q, 0, none⟩ = some (.slice A 2 c) := hcell
  have RP := Lib.hid (show w5.rangeAt q 1 [.int .u64 30, .int .u64 0, .int .u64 0, .int .u64 0] from V5.out.pools)
  have hpe : ∀ V, (binOp .eql 24 (.agg #[.int .u64 30, .int .u64 0, .int .u64 0, .int .u64 0]) (.agg #[.int .u64 30, .int .u64 0, .int .u64 0, .int .u64 0])).run Try.prog V = .ok (.bool true) V := fun V => eql_p [30, 0, 0, 0] [30, 0, 0, 0] rfl rfl V
  have SB := Lib.hid (show ∀ V, Kk.Bel w5 V → (V.cell? ⟨q, 0, none⟩ = some (.slice A 2 c) ∧ V.rangeAt q 0 X ∧ V.rangeAt q 1 [.int .u64 30, .int .u64 0, .int .u64 0, .int .u64 0]) from fun V h => ⟨cell_bel hcell h, rng_bel (Var.rng V5.out) h, rng_bel RP.out h⟩)
  refine wp_region_held_drew (S := fun V => V.cell? ⟨q, 0, none⟩ = some (.slice A 2 c) ∧ V.rangeAt q 0 X ∧ V.rangeAt q 1 [.int .u64 30, .int .u64 0, .int .u64 0, .int .u64 0]) (by kernel_rfl) (SB.out _ (Kk.Bel.refl _).drew) (fun hS0 => ?_)
  have K6 := (Kk.Bel.refl w5).drew
  obtain ⟨w6, hw6⟩ : ∃ w6, World.drew w5 = w6 := ⟨_, rfl⟩
  rw [hw6] at hS0 K6 ⊢
  clear hw6 hsu
  refine wpAnyH_take (i := 0) (oi := { dst := some 17, op := .load 26 (.tmp 2), type := 26, pos := "outright.go:16", after := #[], guard := none }) (v := .agg X.toArray) rfl (by kernel_rfl) (by kernel_rfl) (by kernel_rfl) (fun _ _ _ h => h) (yieldsIf_load_mid (by rfl) _ _ rfl _ _ rfl _ _ (fun w h => h.2.1) uB rfl (NB.info V5.out.nb)) hS0 ?_
  try simp only [Act.put, List.setIfInBounds_toArray, List.set_cons_zero, List.set_cons_succ]
  refine wpAnyH_take (i := 1) (oi := { dst := some 18, op := .move (.tmp 3), type := 30, pos := "outright.go:16", after := #[], guard := none }) (v := .int .i64 0) rfl (by kernel_rfl) (by kernel_rfl) (by kernel_rfl) (fun _ _ _ h => h) (Or.inl ⟨by rfl, by intro w hSw; clear hSw; go_simp⟩) hS0 ?_
  try simp only [Act.put, List.setIfInBounds_toArray, List.set_cons_zero, List.set_cons_succ]
  refine wpAnyH_take (i := 2) (oi := { dst := some 19, op := .binOp .eql 30 (.tmp 18) (.const (Value.int IntKind.i64 0)) 30, type := 4, pos := "outright.go:16", after := #[{ on := 1, ground := .data }], guard := none }) (v := .bool true) rfl (by kernel_rfl) (by kernel_rfl) (by kernel_rfl) (fun _ _ _ h => h) (Or.inl ⟨by rfl, by intro w hSw; clear hSw; go_simp⟩) hS0 ?_
  try simp only [Act.put, List.setIfInBounds_toArray, List.set_cons_zero, List.set_cons_succ]
  refine wpAnyH_take (i := 3) (oi := { dst := some 20, op := .move (.tmp 19), type := 4, pos := "outright.go:16", after := #[{ on := 2, ground := .data }], guard := none }) (v := .bool true) rfl (by kernel_rfl) (by kernel_rfl) (by kernel_rfl) (fun _ _ _ h => h) (Or.inl ⟨by rfl, by intro w hSw; clear hSw; go_simp⟩) hS0 ?_
  try simp only [Act.put, List.setIfInBounds_toArray, List.set_cons_zero, List.set_cons_succ]
  refine wpAnyH_take (i := 4) (oi := { dst := some 21, op := .fieldAddr 26 (.tmp 2) 0, type := 0, pos := "outright.go:16", after := #[{ on := 3, ground := .guard }], guard := some (3, true) }) (v := .pointer (some ⟨q, 0, none⟩)) rfl (by kernel_rfl) (by kernel_rfl) (by kernel_rfl) (fun _ _ _ h => h) (Or.inl ⟨by rfl, by intro w hSw; clear hSw; go_simp⟩) hS0 ?_
  try simp only [Act.put, List.setIfInBounds_toArray, List.set_cons_zero, List.set_cons_succ]
  refine wpAnyH_take (i := 5) (oi := { dst := some 22, op := .load 22 (.tmp 21), type := 22, pos := "outright.go:16", after := #[{ on := 4, ground := .data }, { on := 3, ground := .guard }], guard := some (3, true) }) (v := .slice A 2 c) rfl (by kernel_rfl) (by kernel_rfl) (by kernel_rfl) (fun _ _ _ h => h) (Or.inl ⟨by rfl, by intro w h; have hcell := (h.1); clear h; go_simp⟩) hS0 ?_
  try simp only [Act.put, List.setIfInBounds_toArray, List.set_cons_zero, List.set_cons_succ]
  refine wpAnyH_ready (rs := [6]) (by kernel_rfl) (by simp) ?_
  refine AllReadyH.cons (o := { dst := some 23, op := .buildSlice 22 2 #[(0, .const (Value.int IntKind.u64 70)), (1, .const (Value.int IntKind.u64 50))], type := 22, pos := "outright.go:16", after := #[{ on := 3, ground := .guard }], guard := some (3, true) }) rfl (fun K hK => ?_) AllReadyH.nil
  go_simp
  refine hK.out _ _ (SB.out _ (K6.alloc _)) (fun hS1 => ?_)
  clear hK K
  try simp only [Act.put, List.setIfInBounds_toArray, List.set_cons_zero, List.set_cons_succ]
  obtain ⟨g, hg⟩ : ∃ g, (World.heap w6).size = g := ⟨_, rfl⟩
  have L1 : SU (World.alloc w6 (.cells #[.int .u64 70, .int .u64 50] 23)) (some ⟨g, 0, none⟩) 2 2 [70, 50] := by rw [← hg]; exact lit2 w6 70 50
  obtain ⟨v1, hv⟩ : ∃ v, World.alloc w6 (.cells #[.int .u64 70, .int .u64 50] 23) = v := ⟨_, rfl⟩
  have K7 : Kk.Bel w5 (World.alloc w6 (.cells #[.int .u64 70, .int .u64 50] 23)) := K6.alloc _
  rw [hv] at L1 hS1 K7 ⊢
  rw [hg]
  clear hv hg
  refine wpAnyH_ready (rs := [7]) (by kernel_rfl) (by simp) ?_
  refine AllReadyH.cons (o := { dst := some 24, op := .call { callee := .value (.func 40), args := #[.tmp 22, .tmp 23], argTypes := #[22, 22] }, type := 4, pos := "outright.go:16", after := #[{ on := 5, ground := .data }, { on := 6, ground := .data }, { on := 3, ground := .chain }, { on := 3, ground := .guard }], guard := some (3, true) }) rfl (fun K hK => ?_) AllReadyH.nil
  go_simp
  refine (sameWords A (some ⟨g, 0, none⟩) 2 c 2 2 [70, 50] [70, 50] v1 (HSU.out.bel K7) L1 (by omega) (by omega)).mono ?_
  rintro e v2 ⟨rfl, k2⟩
  go_wp2_with fail
  refine hK.out _ _ (SB.out _ (K7.trans k2)) (fun hS2 => ?_)
  clear hK K
  try simp only [Act.put, List.setIfInBounds_toArray, List.set_cons_zero, List.set_cons_succ]
  have K8 := K7.trans k2
  refine wpAnyH_take (i := 8) (oi := { dst := some 25, op := .pick (.tmp 20) (.tmp 24) (.const (Value.bool false)), type := 4, pos := "outright.go:16", after := #[{ on := 3, ground := .data }, { on := 7, ground := .data }], guard := none }) (v := .bool true) rfl (by kernel_rfl) (by kernel_rfl) (by kernel_rfl) (fun _ _ _ h => h) (Or.inl ⟨by rfl, by intro w hSw; clear hSw; go_simp⟩) hS2 ?_
  try simp only [Act.put, List.setIfInBounds_toArray, List.set_cons_zero, List.set_cons_succ]
  refine wpAnyH_take (i := 9) (oi := { dst := some 26, op := .move (.tmp 25), type := 4, pos := "outright.go:16", after := #[{ on := 8, ground := .data }, { on := 7, ground := .chain }], guard := none }) (v := .bool true) rfl (by kernel_rfl) (by kernel_rfl) (by kernel_rfl) (fun _ _ _ h => h) (Or.inl ⟨by rfl, by intro w hSw; clear hSw; go_simp⟩) hS2 ?_
  try simp only [Act.put, List.setIfInBounds_toArray, List.set_cons_zero, List.set_cons_succ]
  refine wpAnyH_take (i := 10) (oi := { dst := some 27, op := .fieldAddr 26 (.tmp 2) 1, type := 0, pos := "outright.go:16", after := #[{ on := 9, ground := .guard }, { on := 15, ground := .gcOnly .lateStores }], guard := some (9, true) }) (v := .pointer (some ⟨q, 1, none⟩)) rfl (by kernel_rfl) (by kernel_rfl) (by kernel_rfl) (fun _ _ _ h => h) (Or.inl ⟨by rfl, by intro w hSw; clear hSw; go_simp⟩) hS2 ?_
  try simp only [Act.put, List.setIfInBounds_toArray, List.set_cons_zero, List.set_cons_succ]
  refine wpAnyH_take (i := 11) (oi := { dst := some 28, op := .load 24 (.tmp 27), type := 24, pos := "outright.go:16", after := #[{ on := 10, ground := .data }, { on := 9, ground := .guard }, { on := 15, ground := .gcOnly .lateStores }], guard := some (9, true) }) (v := .agg #[.int .u64 30, .int .u64 0, .int .u64 0, .int .u64 0]) rfl (by kernel_rfl) (by kernel_rfl) (by kernel_rfl) (fun _ _ _ h => h) (yieldsIf_load_mid (by rfl) _ _ rfl _ _ rfl _ _ (fun w h => h.2.2) uP rfl info_pools) hS2 ?_
  try simp only [Act.put, List.setIfInBounds_toArray, List.set_cons_zero, List.set_cons_succ]
  refine wpAnyH_take (i := 12) (oi := { dst := some 29, op := .build 24 #[(0, .const (Value.int IntKind.u64 30))], type := 24, pos := "outright.go:16", after := #[{ on := 9, ground := .guard }, { on := 15, ground := .gcOnly .lateStores }], guard := some (9, true) }) (v := .agg #[.int .u64 30, .int .u64 0, .int .u64 0, .int .u64 0]) rfl (by kernel_rfl) (by kernel_rfl) (by kernel_rfl) (fun _ _ _ h => h) (Or.inl ⟨by rfl, by intro w hSw; clear hSw; go_simp⟩) hS2 ?_
  try simp only [Act.put, List.setIfInBounds_toArray, List.set_cons_zero, List.set_cons_succ]
  refine wpAnyH_take (i := 13) (oi := { dst := some 30, op := .binOp .eql 24 (.tmp 28) (.tmp 29) 24, type := 4, pos := "outright.go:16", after := #[{ on := 11, ground := .data }, { on := 12, ground := .data }, { on := 9, ground := .guard }, { on := 15, ground := .gcOnly .lateStores }], guard := some (9, true) }) (v := .bool true) rfl (by kernel_rfl) (by kernel_rfl) (by kernel_rfl) (fun _ _ _ h => h) (Or.inl ⟨by rfl, by intro w hSw; clear hSw; go_simp⟩) hS2 ?_
  try simp only [Act.put, List.setIfInBounds_toArray, List.set_cons_zero, List.set_cons_succ]
  refine wpAnyH_take (i := 14) (oi := { dst := some 31, op := .pick (.tmp 26) (.tmp 30) (.const (Value.bool false)), type := 4, pos := "outright.go:16", after := #[{ on := 9, ground := .data }, { on := 13, ground := .data }, { on := 15, ground := .gcOnly .lateStores }], guard := none }) (v := .bool true) rfl (by kernel_rfl) (by kernel_rfl) (by kernel_rfl) (fun _ _ _ h => h) (Or.inl ⟨by rfl, by intro w hSw; clear hSw; go_simp⟩) hS2 ?_
  try simp only [Act.put, List.setIfInBounds_toArray, List.set_cons_zero, List.set_cons_succ]
  refine wpAnyH_ready (rs := [15]) (by kernel_rfl) (by simp) ?_
  refine AllReadyH.cons (o := { dst := none, op := .store 26 (.tmp 0) (.tmp 17), type := 0, pos := "outright.go:16", after := #[{ on := 0, ground := .data }, { on := 9, ground := .chain }, { on := 0, ground := .phase }, { on := 1, ground := .textOnly .lateStores }, { on := 2, ground := .textOnly .lateStores }, { on := 3, ground := .textOnly .lateStores }, { on := 4, ground := .textOnly .lateStores }, { on := 5, ground := .textOnly .lateStores }, { on := 6, ground := .textOnly .lateStores }, { on := 7, ground := .textOnly .lateStoresUnsure }, { on := 8, ground := .textOnly .lateStores }, { on := 9, ground := .textOnly .lateStores }, { on := 10, ground := .textOnly .lateStores }, { on := 11, ground := .textOnly .lateStores }, { on := 12, ground := .textOnly .lateStores }, { on := 13, ground := .textOnly .lateStores }, { on := 14, ground := .textOnly .lateStores }], guard := none }) rfl (fun K hK => ?_) AllReadyH.nil
  rw [if_pos (by rfl)]
  have VB := V5.out.bel K8
  have QB := Q5.out.bel K8
  refine wp_store_mid 26 (.tmp 0) (.tmp 17) rfl r 0 X.toArray rfl rfl (blk_there QB rfl VB.bv.len) VB.nb.infoA VB.nb.one ?_
  have VE : Var w (World.setCells v2 r 0 X) r X [70, 50] [30, 0, 0, 0] := set_var QB rfl (by rw [HR.out]; exact Nat.le_refl _) VB.nb (Kk.Bel.refl _)
  have RE := Lib.hid (show (loadVar 26 ⟨r, 0, none⟩).run Try.prog (World.setCells v2 r 0 X) = .ok (.agg X.toArray) (World.setCells v2 r 0 X) from VE.res)
  have hS3 := And.intro (cell_kep hS2.1 (kep_setCells r X 0 v2) (by have := HQ.out; omega)) (And.intro (rng_kep hS2.2.1 (kep_setCells r X 0 v2) (by have := HQ.out; omega)) (rng_kep hS2.2.2 (kep_setCells r X 0 v2) (by have := HQ.out; omega)))
  refine hK.out _ _ hS3 (fun _ => ?_)
  clear hK K
  have hS4 := hS3
  refine wpAnyH_take (i := 16) (oi := { dst := some 1, op := .assign (.tmp 31), type := 4, pos := "outright.go:16", after := #[{ on := 14, ground := .data }, { on := 15, ground := .chain }, { on := 0, ground := .phase }, { on := 1, ground := .phase }, { on := 2, ground := .phase }, { on := 3, ground := .phase }, { on := 4, ground := .phase }, { on := 5, ground := .phase }, { on := 6, ground := .phase }, { on := 7, ground := .phase }, { on := 8, ground := .phase }, { on := 9, ground := .phase }, { on := 10, ground := .phase }, { on := 11, ground := .phase }, { on := 12, ground := .phase }, { on := 13, ground := .phase }, { on := 14, ground := .phase }, { on := 15, ground := .phase }], guard := none }) (v := .bool true) rfl (by kernel_rfl) (by kernel_rfl) (by kernel_rfl) (fun _ _ _ h => h) (Or.inl ⟨by rfl, by intro w hSw; clear hSw; go_simp⟩) hS3 ?_
  try simp only [Act.put, List.setIfInBounds_toArray, List.set_cons_zero, List.set_cons_succ]
  refine wpAnyH_done (by kernel_rfl) ?_ _
  go_wp2_with fail
  refine bodyPost_ret (res_ci Try.results37 _ _ ⟨r, 0, none⟩ (.agg X.toArray) (.bool true) rfl rfl RE.out) rfl ⟨X, rfl, VE.nb⟩
end Bk
end Go.Proofs.Ytgdaojbflokmoaa
end

section
/-
  The law's awake. No condition.
-/
namespace Go.Proofs.Ytgdaojbflokmoaa
open Go.RowKit Go.Shelf
set_option linter.unusedVariables false
namespace Bk
open Pm

set_option maxRecDepth 10000 in
set_option maxHeartbeats 4000000 in
theorem awake (w : World) : Calls Try.prog 6 #[] w fun e w' => e = .returned (.bool true) ∧ Kk.Bel w w' := by
  have uB := Try.underlying26
  have uP := Try.underlying24
  go_enter Try.func6, Try.ntmps6
  have CB := Lib.hid (chapter w)
  go_wp2_with fail
  refine CB.out.mono ?_
  rintro e w1 ⟨Y1, rfl, hnb⟩
  clear CB
  have KO := Lib.hid (show Kk.Bel w w from (Kk.Bel.refl w))
  have NN := Lib.hid (NB.after KO.out hnb)
  have hk := Lib.hid hnb.bel
  clear hnb KO
  have KB := Lib.hid (show Kk.Bel w _ from hk.out)
  clear hk
  have PT := Lib.hid (put_there w1 Y1 NN.out.2.len)
  have PI := Lib.hid NN.out.infoA
  have PO := Lib.hid NN.out.one
  go_upto_region 2 with ((with_reducible refine wpList_store_mid ?_ 26 (.tmp 1) (.tmp 11) ?_ (World.heap w1).size 0 Y1.toArray ?_ ?_ PT.out PI.out PO.out ?_); rfl; rfl; rfl; rfl)
  have V_b := Lib.hid (put_var NN.out (Kk.Bel.refl _))
  have hk := Lib.hid (put_bel w1 Y1)
  have KB := Lib.hid (KB.out.trans hk.out)
  obtain ⟨q_b, hq⟩ : ∃ q, (World.heap w1).size = q := ⟨_, rfl⟩
  obtain ⟨w2, hw⟩ : ∃ v, (World.alloc w1 (.cells ZB 26)).setCells (World.heap w1).size 0 Y1 = v := ⟨_, rfl⟩
  rw [hw]
  rw [hw] at V_b KB
  rw [hq] at V_b ⊢
  clear hk hw hq PT PI PO NN
  go_wp2_with ((with_reducible refine wpList_load_g ?_ 26 (.tmp 1) ?_ q_b 0 ?_ Y1 _ (Var.rng V_b.out) uB ?_ (NB.info V_b.out.nb) ?_); rfl; rfl; rfl; rfl)
  refine (supplyV _ _ _ _ V_b.out.bv).mono ?_
  rintro e w3 ⟨rfl, k⟩
  have hk := Lib.hid k
  clear k
  have V_b := Lib.hid (V_b.out.bel hk.out)
  have KB := Lib.hid (KB.out.trans hk.out)
  clear hk
  have CB := Lib.hid (sendV 0 1 70 _ _ _ _ V_b.out.bv (by decide) (by decide))
  rw [show xE [70, 50] [30, 0, 0, 0] false false 0 1 70 1 = 0 from rfl, show xZ [70, 50] [30, 0, 0, 0] false false 0 1 70 1 = [0, 120] from rfl, show xP [70, 50] [30, 0, 0, 0] false false 0 1 70 1 = [30, 0, 0, 0] from rfl] at CB
  go_wp2_with ((with_reducible refine wpList_load_g ?_ 26 (.tmp 1) ?_ q_b 0 ?_ Y1 _ (Var.rng V_b.out) uB ?_ (NB.info V_b.out.nb) ?_); rfl; rfl; rfl; rfl)
  refine CB.out.mono ?_
  rintro e w4 ⟨Y4, rfl, hnb⟩
  clear CB
  have KO := Lib.hid (show Kk.Bel w w3 from KB.out)
  have NN := Lib.hid (NB.after KO.out hnb)
  have hk := Lib.hid hnb.bel
  clear hnb KO
  have V_b := Lib.hid (V_b.out.bel hk.out)
  have KB := Lib.hid (KB.out.trans hk.out)
  clear hk
  have PT := Lib.hid (put_there w4 Y4 NN.out.2.len)
  have PI := Lib.hid NN.out.infoA
  have PO := Lib.hid NN.out.one
  go_upto_region 4 with (first | ((with_reducible refine wpList_store_mid ?_ 26 (.tmp 5) (.tmp 21) ?_ (World.heap w4).size 0 Y4.toArray ?_ ?_ PT.out PI.out PO.out ?_); rfl; rfl; rfl; rfl) | ((with_reducible refine wpList_load_g ?_ 26 (.tmp 1) ?_ q_b 0 ?_ Y1 _ (Var.rng V_b.out) uB ?_ (NB.info V_b.out.nb) ?_); rfl; rfl; rfl; rfl))
  have V_c := Lib.hid (put_var NN.out (Kk.Bel.refl _))
  have hk := Lib.hid (put_bel w4 Y4)
  have V_b := Lib.hid (V_b.out.bel hk.out)
  have KB := Lib.hid (KB.out.trans hk.out)
  obtain ⟨q_c, hq⟩ : ∃ q, (World.heap w4).size = q := ⟨_, rfl⟩
  obtain ⟨w5, hw⟩ : ∃ v, (World.alloc w4 (.cells ZB 26)).setCells (World.heap w4).size 0 Y4 = v := ⟨_, rfl⟩
  rw [hw]
  rw [hw] at V_b V_c KB
  rw [hq] at V_c ⊢
  clear hk hw hq PT PI PO NN
  have CB := Lib.hid (burnV 0 10 _ _ _ _ V_b.out.bv (by decide) (by decide))
  rw [show xE [70, 50] [30, 0, 0, 0] true true 0 2 10 0 = 0 from rfl, show xZ [70, 50] [30, 0, 0, 0] true true 0 2 10 0 = [70, 50] from rfl, show xP [70, 50] [30, 0, 0, 0] true true 0 2 10 0 = [20, 0, 10, 0] from rfl] at CB
  go_wp2_with (first | ((with_reducible refine wpList_load_g ?_ 26 (.tmp 1) ?_ q_b 0 ?_ Y1 _ (Var.rng V_b.out) uB ?_ (NB.info V_b.out.nb) ?_); rfl; rfl; rfl; rfl) | ((with_reducible refine wpList_load_g ?_ 26 (.tmp 5) ?_ q_c 0 ?_ Y4 _ (Var.rng V_c.out) uB ?_ (NB.info V_c.out.nb) ?_); rfl; rfl; rfl; rfl))
  refine CB.out.mono ?_
  rintro e w6 ⟨Y6, rfl, hnb⟩
  clear CB
  have KO := Lib.hid (show Kk.Bel w w5 from KB.out)
  have NN := Lib.hid (NB.after KO.out hnb)
  have hk := Lib.hid hnb.bel
  clear hnb KO
  have V_b := Lib.hid (V_b.out.bel hk.out)
  have V_c := Lib.hid (V_c.out.bel hk.out)
  have KB := Lib.hid (KB.out.trans hk.out)
  clear hk
  have PT := Lib.hid (put_there w6 Y6 NN.out.2.len)
  have PI := Lib.hid NN.out.infoA
  have PO := Lib.hid NN.out.one
  go_upto_region 5 with (first | ((with_reducible refine wpList_store_mid ?_ 26 (.tmp 7) (.tmp 26) ?_ (World.heap w6).size 0 Y6.toArray ?_ ?_ PT.out PI.out PO.out ?_); rfl; rfl; rfl; rfl) | ((with_reducible refine wpList_load_g ?_ 26 (.tmp 1) ?_ q_b 0 ?_ Y1 _ (Var.rng V_b.out) uB ?_ (NB.info V_b.out.nb) ?_); rfl; rfl; rfl; rfl) | ((with_reducible refine wpList_load_g ?_ 26 (.tmp 5) ?_ q_c 0 ?_ Y4 _ (Var.rng V_c.out) uB ?_ (NB.info V_c.out.nb) ?_); rfl; rfl; rfl; rfl))
  have V_d := Lib.hid (put_var NN.out (Kk.Bel.refl _))
  have hk := Lib.hid (put_bel w6 Y6)
  have V_b := Lib.hid (V_b.out.bel hk.out)
  have V_c := Lib.hid (V_c.out.bel hk.out)
  have KB := Lib.hid (KB.out.trans hk.out)
  obtain ⟨q_d, hq⟩ : ∃ q, (World.heap w6).size = q := ⟨_, rfl⟩
  obtain ⟨w7, hw⟩ : ∃ v, (World.alloc w6 (.cells ZB 26)).setCells (World.heap w6).size 0 Y6 = v := ⟨_, rfl⟩
  rw [hw]
  rw [hw] at V_b V_c V_d KB
  rw [hq] at V_d ⊢
  clear hk hw hq PT PI PO NN
  obtain ⟨A, c, hcell, hsu⟩ := V_c.out.cell
  have HSU := Lib.hid (show SU w7 A 2 c [0, 120] from hsu)
  have hcell : World.cell? w7 ⟨q_c, 0, none⟩ = some (.slice A 2 c) := hcell
  have RP := Lib.hid (show World.rangeAt w7 q_d 1 [.int .u64 20, .int .u64 0, .int .u64 10, .int .u64 0] from V_d.out.pools)
  have hpe : ∀ V, (binOp .eql 24 (.agg #[.int .u64 20, .int .u64 0, .int .u64 10, .int .u64 0]) (.agg #[.int .u64 20, .int .u64 0, .int .u64 10, .int .u64 0])).run Try.prog V = .ok (.bool true) V := fun V => eql_p [20, 0, 10, 0] [20, 0, 10, 0] rfl rfl V
  have iP := Lib.hid (show (Try.prog.info? 24).map (·.size) = some ([.int .u64 20, .int .u64 0, .int .u64 10, .int .u64 0] : List Value).length from info_pools)
  clear hsu
  have CS := Lib.hid (sameWords A (some ⟨w7.heap.size, 0, none⟩) 2 c 2 2 [0, 120] [0, 120] (w7.alloc (.cells #[.int .u64 0, .int .u64 120] 23)) (HSU.out.bel ((Kk.Bel.refl _).alloc _)) (lit2 w7 0 120) (by omega) (by omega))
  go_wp2_with fail
  refine CS.out.mono ?_
  rintro e w8 ⟨rfl, k8⟩
  have K8 := Lib.hid (((Kk.Bel.refl w7).alloc (.cells #[.int .u64 0, .int .u64 120] 23)).trans k8)
  have R8 := Lib.hid (rng_bel RP.out K8.out)
  clear k8 CS
  go_wp2_with ((with_reducible refine wpList_load_g ?_ 24 (.tmp 52) ?_ q_d 1 ?_ _ _ R8.out uP ?_ iP.out ?_); rfl; rfl; rfl; rfl)
  go_ret
  exact ⟨rfl, KB.out.trans K8.out⟩
end Bk
end Go.Proofs.Ytgdaojbflokmoaa
end

section
/-
  The law's does, errs and news. Conditions: the amounts are words.
-/
namespace Go.Proofs.Ytgdaojbflokmoaa
open Go.RowKit Go.Shelf
set_option linter.unusedVariables false
namespace Bk
open Pm

def dE (zs ps : List Int) (a f t m : Int) : Int := if a = 0 then xE zs ps false false f t m 1 else if a = 1 then xE zs ps true false f t m 0 else if a = 2 then xE zs ps false true f t m 0 else if a = 3 then xE zs ps true true f t m 0 else if a = 4 then xE zs ps true true f 2 m 0 else 0
def dZ (zs ps : List Int) (a f t m : Int) : List Int := if a = 0 then xZ zs ps false false f t m 1 else if a = 1 then xZ zs ps true false f t m 0 else if a = 2 then xZ zs ps false true f t m 0 else if a = 3 then xZ zs ps true true f t m 0 else if a = 4 then xZ zs ps true true f 2 m 0 else []
def dP (zs ps : List Int) (a f t m : Int) : List Int := if a = 0 then xP zs ps false false f t m 1 else if a = 1 then xP zs ps true false f t m 0 else if a = 2 then xP zs ps false true f t m 0 else if a = 3 then xP zs ps true true f t m 0 else if a = 4 then xP zs ps true true f 2 m 0 else [0, 0, 0, 0]
abbrev actV (a f t m : Int) : Value := .agg #[.int .i64 a, .int .i64 f, .int .i64 t, .int .u64 m]
theorem bv_zero (W : World) : BV W [.slice none 0 0, .int .u64 0, .int .u64 0, .int .u64 0, .int .u64 0] [] [0, 0, 0, 0] := ⟨none, 0, rfl, ⟨Kk.Ints.nil_, Nat.le_refl _, fun _ => rfl⟩, good_zero⟩
theorem nb_zero {w W : World} (h : Kk.Bel w W) : NB w W [.slice none 0 0, .int .u64 0, .int .u64 0, .int .u64 0, .int .u64 0] [] [0, 0, 0, 0] := FB.same (fb_zero h) good_zero
theorem xZP_no {zs ps : List Int} {pf pt : Bool} {f t m least : Int} (h : ¬ xE zs ps pf pt f t m least = 0) : xZ zs ps pf pt f t m least = [] ∧ xP zs ps pf pt f t m least = [0, 0, 0, 0] := ⟨xZ_no h, xP_no h⟩
theorem d_no {zs ps : List Int} {a f t m : Int} (h : ¬ dE zs ps a f t m = 0) : dZ zs ps a f t m = [] ∧ dP zs ps a f t m = [0, 0, 0, 0] := by
  unfold dE at h
  unfold dZ dP
  by_cases h0 : a = 0
  · rw [if_pos h0] at h; rw [if_pos h0, if_pos h0]; exact xZP_no h
  rw [if_neg h0] at h; rw [if_neg h0, if_neg h0]
  by_cases h1 : a = 1
  · rw [if_pos h1] at h; rw [if_pos h1, if_pos h1]; exact xZP_no h
  rw [if_neg h1] at h; rw [if_neg h1, if_neg h1]
  by_cases h2 : a = 2
  · rw [if_pos h2] at h; rw [if_pos h2, if_pos h2]; exact xZP_no h
  rw [if_neg h2] at h; rw [if_neg h2, if_neg h2]
  by_cases h3 : a = 3
  · rw [if_pos h3] at h; rw [if_pos h3, if_pos h3]; exact xZP_no h
  rw [if_neg h3] at h; rw [if_neg h3, if_neg h3]
  by_cases h4 : a = 4
  · rw [if_pos h4] at h; rw [if_pos h4, if_pos h4]; exact xZP_no h
  rw [if_neg h4, if_neg h4]; exact ⟨rfl, rfl⟩

set_option maxRecDepth 10000 in
set_option maxHeartbeats 4000000 in
theorem does (a f t m : Int) (Y : List Value) (zs ps : List Int) (w : World) (h : BV w Y zs ps) (m0 : 0 ≤ m) (m1 : m ≤ 18446744073709551615) :
    Calls Try.prog 20 #[.agg Y.toArray, actV a f t m] w fun e w' => ∃ X, e = .returned (.tuple #[.agg X.toArray, .int .i64 (dE zs ps a f t m)]) ∧ NB w w' X (dZ zs ps a f t m) (dP zs ps a f t m) := by
  obtain ⟨W0, hW0⟩ : ∃ W0, w.alloc (.cells Y.toArray 26) = W0 := ⟨_, rfl⟩
  obtain ⟨W1, hW1⟩ : ∃ W1, W0.alloc (.cells #[.int .i64 a, .int .i64 f, .int .i64 t, .int .u64 m] 41) = W1 := ⟨_, rfl⟩
  obtain ⟨W2, hW2⟩ : ∃ W2, W1.alloc (.cells ZB 26) = W2 := ⟨_, rfl⟩
  obtain ⟨p, hp⟩ : ∃ p, w.heap.size = p := ⟨_, rfl⟩
  have hs0 : W0.heap.size = p + 1 := by rw [← hW0, ← hp, World.size_alloc]
  have hs1 : W1.heap.size = p + 2 := by rw [← hW1, World.size_alloc, hs0]
  have B2 := Lib.hid (show Kk.Bel w W2 by rw [← hW2, ← hW1, ← hW0]; exact (((Kk.Bel.refl w).alloc _).alloc _).alloc _)
  have R2 := Lib.hid (show W2.rangeAt p 0 Y by rw [← hW2, ← hW1, ← hp, ← hW0]; exact rngB (((Kk.Blk.new w _ _).alloc _).alloc _))
  have A2 : Kk.Blk W2 (p + 1) #[.int .i64 a, .int .i64 f, .int .i64 t, .int .u64 m] 41 := by rw [← hW2, ← hW1, ← hs0]; exact (Kk.Blk.new W0 _ _).alloc _
  have Q2 := Lib.hid (show Kk.Blk W2 (p + 2) [.slice none 0 0, .int .u64 0, .int .u64 0, .int .u64 0, .int .u64 0].toArray 26 by rw [← hW2, ← hs1]; exact Kk.Blk.new W1 _ _)
  have ca := A2.cell 0 (v := .int .i64 a) rfl
  have cf := A2.cell 1 (v := .int .i64 f) rfl
  have ct := A2.cell 2 (v := .int .i64 t) rfl
  have cm := A2.cell 3 (v := .int .u64 m) rfl
  have HV := Lib.hid (h.bel B2.out)
  have iY := Lib.hid (show (Try.prog.info? 26).map (·.size) = some Y.length by rw [h.len]; exact info_bank)
  have uB := Try.underlying26
  have HP := Lib.hid hp
  have HW0 := Lib.hid hW0
  have HW1 := Lib.hid hW1
  have HW2 := Lib.hid (show W1.alloc (.cells #[.slice none 0 0, .int .u64 0, .int .u64 0, .int .u64 0, .int .u64 0] 26) = W2 from hW2)
  clear A2 hW0 hW1 hW2 hs0 hs1 h hp
  by_cases h0 : a = 0
  · subst h0
    have EE : Hid (dE zs ps 0 f t m = xE zs ps false false f t m 1 ∧ dZ zs ps 0 f t m = xZ zs ps false false f t m 1 ∧ dP zs ps 0 f t m = xP zs ps false false f t m 1) := ⟨rfl, rfl, rfl⟩
    rw [EE.out.1, EE.out.2.1, EE.out.2.2]
    have CT := Lib.hid (sendV f t m Y zs ps W2 HV.out m0 m1)
    obtain ⟨ex, hex⟩ : ∃ ex, xE zs ps false false f t m 1 = ex := ⟨_, rfl⟩
    obtain ⟨zx, hzx⟩ : ∃ zx, xZ zs ps false false f t m 1 = zx := ⟨_, rfl⟩
    obtain ⟨px, hpx⟩ : ∃ px, xP zs ps false false f t m 1 = px := ⟨_, rfl⟩
    rw [hex, hzx, hpx] at CT
    rw [hex, hzx, hpx]
    clear hex hzx hpx EE
    go_enter Try.func20, Try.ntmps20
    go_upto_region 1 with fail
    rw [HW0.out, HP.out, HW1.out, HW2.out]
    go_wp2_with ((with_reducible refine wpList_load_mid ?_ 26 (.tmp 2) ?_ p 0 ?_ Y _ R2.out uB ?_ iY.out ?_); rfl; rfl; rfl; rfl)
    refine CT.out.mono ?_
    rintro e w1 ⟨X, rfl, hnb⟩
    have NN := Lib.hid (NB.after B2.out hnb)
    have Q3 := Lib.hid (Q2.out.bel hnb.bel)
    have T3 := Lib.hid (blk_there Q3.out rfl hnb.2.len)
    have I3 := Lib.hid hnb.infoA
    have O3 := Lib.hid hnb.one
    clear hnb CT
    go_wp2_with ((with_reducible refine wpList_store_mid ?_ 26 (.tmp 4) (.tmp 18) ?_ (p + 2) 0 X.toArray ?_ ?_ T3.out I3.out O3.out ?_); rfl; rfl; rfl; rfl)
    have VE := set_var Q3.out rfl (by rw [HP.out]; omega) NN.out (Kk.Bel.refl _)
    refine bodyPost_ret (res_ci Try.results20 _ _ ⟨p + 2, 0, none⟩ (.agg X.toArray) (.int .i64 ex) rfl rfl VE.res) rfl ⟨X, rfl, VE.nb⟩
  have h0' : (a == 0) = false := by simpa using h0
  by_cases h1 : a = 1
  · subst h1
    have EE : Hid (dE zs ps 1 f t m = xE zs ps true false f t m 0 ∧ dZ zs ps 1 f t m = xZ zs ps true false f t m 0 ∧ dP zs ps 1 f t m = xP zs ps true false f t m 0) := ⟨rfl, rfl, rfl⟩
    rw [EE.out.1, EE.out.2.1, EE.out.2.2]
    have CT := Lib.hid (payV f t m Y zs ps W2 HV.out m0 m1)
    obtain ⟨ex, hex⟩ : ∃ ex, xE zs ps true false f t m 0 = ex := ⟨_, rfl⟩
    obtain ⟨zx, hzx⟩ : ∃ zx, xZ zs ps true false f t m 0 = zx := ⟨_, rfl⟩
    obtain ⟨px, hpx⟩ : ∃ px, xP zs ps true false f t m 0 = px := ⟨_, rfl⟩
    rw [hex, hzx, hpx] at CT
    rw [hex, hzx, hpx]
    clear hex hzx hpx EE
    go_enter Try.func20, Try.ntmps20
    go_upto_region 1 with fail
    rw [HW0.out, HP.out, HW1.out, HW2.out]
    go_wp2_with ((with_reducible refine wpList_load_mid ?_ 26 (.tmp 2) ?_ p 0 ?_ Y _ R2.out uB ?_ iY.out ?_); rfl; rfl; rfl; rfl)
    refine CT.out.mono ?_
    rintro e w1 ⟨X, rfl, hnb⟩
    have NN := Lib.hid (NB.after B2.out hnb)
    have Q3 := Lib.hid (Q2.out.bel hnb.bel)
    have T3 := Lib.hid (blk_there Q3.out rfl hnb.2.len)
    have I3 := Lib.hid hnb.infoA
    have O3 := Lib.hid hnb.one
    clear hnb CT
    go_wp2_with ((with_reducible refine wpList_store_mid ?_ 26 (.tmp 4) (.tmp 30) ?_ (p + 2) 0 X.toArray ?_ ?_ T3.out I3.out O3.out ?_); rfl; rfl; rfl; rfl)
    have VE := set_var Q3.out rfl (by rw [HP.out]; omega) NN.out (Kk.Bel.refl _)
    refine bodyPost_ret (res_ci Try.results20 _ _ ⟨p + 2, 0, none⟩ (.agg X.toArray) (.int .i64 ex) rfl rfl VE.res) rfl ⟨X, rfl, VE.nb⟩
  have h1' : (a == 1) = false := by simpa using h1
  by_cases h2 : a = 2
  · subst h2
    have EE : Hid (dE zs ps 2 f t m = xE zs ps false true f t m 0 ∧ dZ zs ps 2 f t m = xZ zs ps false true f t m 0 ∧ dP zs ps 2 f t m = xP zs ps false true f t m 0) := ⟨rfl, rfl, rfl⟩
    rw [EE.out.1, EE.out.2.1, EE.out.2.2]
    have CT := Lib.hid (take_V f t m Y zs ps W2 HV.out m0 m1)
    obtain ⟨ex, hex⟩ : ∃ ex, xE zs ps false true f t m 0 = ex := ⟨_, rfl⟩
    obtain ⟨zx, hzx⟩ : ∃ zx, xZ zs ps false true f t m 0 = zx := ⟨_, rfl⟩
    obtain ⟨px, hpx⟩ : ∃ px, xP zs ps false true f t m 0 = px := ⟨_, rfl⟩
    rw [hex, hzx, hpx] at CT
    rw [hex, hzx, hpx]
    clear hex hzx hpx EE
    go_enter Try.func20, Try.ntmps20
    go_upto_region 1 with fail
    rw [HW0.out, HP.out, HW1.out, HW2.out]
    go_wp2_with ((with_reducible refine wpList_load_mid ?_ 26 (.tmp 2) ?_ p 0 ?_ Y _ R2.out uB ?_ iY.out ?_); rfl; rfl; rfl; rfl)
    refine CT.out.mono ?_
    rintro e w1 ⟨X, rfl, hnb⟩
    have NN := Lib.hid (NB.after B2.out hnb)
    have Q3 := Lib.hid (Q2.out.bel hnb.bel)
    have T3 := Lib.hid (blk_there Q3.out rfl hnb.2.len)
    have I3 := Lib.hid hnb.infoA
    have O3 := Lib.hid hnb.one
    clear hnb CT
    go_wp2_with ((with_reducible refine wpList_store_mid ?_ 26 (.tmp 4) (.tmp 42) ?_ (p + 2) 0 X.toArray ?_ ?_ T3.out I3.out O3.out ?_); rfl; rfl; rfl; rfl)
    have VE := set_var Q3.out rfl (by rw [HP.out]; omega) NN.out (Kk.Bel.refl _)
    refine bodyPost_ret (res_ci Try.results20 _ _ ⟨p + 2, 0, none⟩ (.agg X.toArray) (.int .i64 ex) rfl rfl VE.res) rfl ⟨X, rfl, VE.nb⟩
  have h2' : (a == 2) = false := by simpa using h2
  by_cases h3 : a = 3
  · subst h3
    have EE : Hid (dE zs ps 3 f t m = xE zs ps true true f t m 0 ∧ dZ zs ps 3 f t m = xZ zs ps true true f t m 0 ∧ dP zs ps 3 f t m = xP zs ps true true f t m 0) := ⟨rfl, rfl, rfl⟩
    rw [EE.out.1, EE.out.2.1, EE.out.2.2]
    have CT := Lib.hid (moveV f t m Y zs ps W2 HV.out m0 m1)
    obtain ⟨ex, hex⟩ : ∃ ex, xE zs ps true true f t m 0 = ex := ⟨_, rfl⟩
    obtain ⟨zx, hzx⟩ : ∃ zx, xZ zs ps true true f t m 0 = zx := ⟨_, rfl⟩
    obtain ⟨px, hpx⟩ : ∃ px, xP zs ps true true f t m 0 = px := ⟨_, rfl⟩
    rw [hex, hzx, hpx] at CT
    rw [hex, hzx, hpx]
    clear hex hzx hpx EE
    go_enter Try.func20, Try.ntmps20
    go_upto_region 1 with fail
    rw [HW0.out, HP.out, HW1.out, HW2.out]
    go_wp2_with ((with_reducible refine wpList_load_mid ?_ 26 (.tmp 2) ?_ p 0 ?_ Y _ R2.out uB ?_ iY.out ?_); rfl; rfl; rfl; rfl)
    refine CT.out.mono ?_
    rintro e w1 ⟨X, rfl, hnb⟩
    have NN := Lib.hid (NB.after B2.out hnb)
    have Q3 := Lib.hid (Q2.out.bel hnb.bel)
    have T3 := Lib.hid (blk_there Q3.out rfl hnb.2.len)
    have I3 := Lib.hid hnb.infoA
    have O3 := Lib.hid hnb.one
    clear hnb CT
    go_wp2_with ((with_reducible refine wpList_store_mid ?_ 26 (.tmp 4) (.tmp 54) ?_ (p + 2) 0 X.toArray ?_ ?_ T3.out I3.out O3.out ?_); rfl; rfl; rfl; rfl)
    have VE := set_var Q3.out rfl (by rw [HP.out]; omega) NN.out (Kk.Bel.refl _)
    refine bodyPost_ret (res_ci Try.results20 _ _ ⟨p + 2, 0, none⟩ (.agg X.toArray) (.int .i64 ex) rfl rfl VE.res) rfl ⟨X, rfl, VE.nb⟩
  have h3' : (a == 3) = false := by simpa using h3
  by_cases h4 : a = 4
  · subst h4
    have EE : Hid (dE zs ps 4 f t m = xE zs ps true true f 2 m 0 ∧ dZ zs ps 4 f t m = xZ zs ps true true f 2 m 0 ∧ dP zs ps 4 f t m = xP zs ps true true f 2 m 0) := ⟨rfl, rfl, rfl⟩
    rw [EE.out.1, EE.out.2.1, EE.out.2.2]
    have CT := Lib.hid (burnV f m Y zs ps W2 HV.out m0 m1)
    obtain ⟨ex, hex⟩ : ∃ ex, xE zs ps true true f 2 m 0 = ex := ⟨_, rfl⟩
    obtain ⟨zx, hzx⟩ : ∃ zx, xZ zs ps true true f 2 m 0 = zx := ⟨_, rfl⟩
    obtain ⟨px, hpx⟩ : ∃ px, xP zs ps true true f 2 m 0 = px := ⟨_, rfl⟩
    rw [hex, hzx, hpx] at CT
    rw [hex, hzx, hpx]
    clear hex hzx hpx EE
    go_enter Try.func20, Try.ntmps20
    go_upto_region 1 with fail
    rw [HW0.out, HP.out, HW1.out, HW2.out]
    go_wp2_with ((with_reducible refine wpList_load_mid ?_ 26 (.tmp 2) ?_ p 0 ?_ Y _ R2.out uB ?_ iY.out ?_); rfl; rfl; rfl; rfl)
    refine CT.out.mono ?_
    rintro e w1 ⟨X, rfl, hnb⟩
    have NN := Lib.hid (NB.after B2.out hnb)
    have Q3 := Lib.hid (Q2.out.bel hnb.bel)
    have T3 := Lib.hid (blk_there Q3.out rfl hnb.2.len)
    have I3 := Lib.hid hnb.infoA
    have O3 := Lib.hid hnb.one
    clear hnb CT
    go_wp2_with ((with_reducible refine wpList_store_mid ?_ 26 (.tmp 4) (.tmp 64) ?_ (p + 2) 0 X.toArray ?_ ?_ T3.out I3.out O3.out ?_); rfl; rfl; rfl; rfl)
    have VE := set_var Q3.out rfl (by rw [HP.out]; omega) NN.out (Kk.Bel.refl _)
    refine bodyPost_ret (res_ci Try.results20 _ _ ⟨p + 2, 0, none⟩ (.agg X.toArray) (.int .i64 ex) rfl rfl VE.res) rfl ⟨X, rfl, VE.nb⟩
  have h4' : (a == 4) = false := by simpa using h4
  have EE : Hid (dE zs ps a f t m = 0 ∧ dZ zs ps a f t m = [] ∧ dP zs ps a f t m = [0, 0, 0, 0]) := by
    unfold dE dZ dP
    rw [if_neg h0, if_neg h1, if_neg h2, if_neg h3, if_neg h4]
    rw [if_neg h0, if_neg h1, if_neg h2, if_neg h3, if_neg h4]
    rw [if_neg h0, if_neg h1, if_neg h2, if_neg h3, if_neg h4]
    exact ⟨rfl, rfl, rfl⟩
  rw [EE.out.1, EE.out.2.1, EE.out.2.2]
  have TZ := Lib.hid (blk_there (X := [.slice none 0 0, .int .u64 0, .int .u64 0, .int .u64 0, .int .u64 0]) Q2.out rfl rfl)
  have IZ := Lib.hid (show (Try.prog.info? 26).map (·.size) = some (#[.slice none 0 0, .int .u64 0, .int .u64 0, .int .u64 0, .int .u64 0] : Array Value).size from info_bank)
  have OZ := Lib.hid (one5 (v := .slice none 0 0) (a := 0) (b := 0) (c := 0) (d := 0) rfl)
  go_enter Try.func20, Try.ntmps20
  go_upto_region 1 with fail
  rw [HW0.out, HP.out, HW1.out, HW2.out]
  go_wp2_with ((with_reducible refine wpList_store_mid ?_ 26 (.tmp 4) (.tmp 66) ?_ (p + 2) 0 #[.slice none 0 0, .int .u64 0, .int .u64 0, .int .u64 0, .int .u64 0] ?_ ?_ TZ.out IZ.out OZ.out ?_); rfl; rfl; rfl; rfl)
  have VE := set_var Q2.out rfl (by rw [HP.out]; omega) (nb_zero B2.out) (Kk.Bel.refl _)
  exact bodyPost_ret (res_ci Try.results20 _ _ ⟨p + 2, 0, none⟩ (.agg ZB) (.int .i64 0) rfl rfl VE.res) rfl ⟨[.slice none 0 0, .int .u64 0, .int .u64 0, .int .u64 0, .int .u64 0], rfl, VE.nb⟩

end Bk
end Go.Proofs.Ytgdaojbflokmoaa
end
