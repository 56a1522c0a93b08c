/-
  What the reference's New and the law's should answer. Conditions: the amounts are words.
-/
import Derived.Test.YtgdaojbflokmoaaGBm2
namespace Go.Proofs.Ytgdaojbflokmoaa
open Go.RowKit Go.Shelf
set_option linter.unusedVariables false
namespace Bk
open Pm

set_option maxRecDepth 10000 in
set_option maxHeartbeats 4000000 in
theorem should (a f t m : Int) (Y : List Value) (zs ps : List Int) (w : World) (h : BV w Y zs ps) (m0 : 0 ≤ m) (m1 : m ≤ 18446744073709551615) :
    Calls Try.prog 21 #[.agg Y.toArray, actV a f t m] w fun e w' => ∃ X, e = .returned (.tuple #[.agg X.toArray, .int .i64 (dE zs ps a f t m)]) ∧ NB w w' X (dZ zs ps a f t m) (dP zs ps a f t m) := by
  obtain ⟨W0, hW0⟩ : ∃ W0, w.alloc (.cells Y.toArray 26) = W0 := ⟨_, rfl⟩
  obtain ⟨W1, hW1⟩ : ∃ W1, W0.alloc (.cells #[.int .i64 a, .int .i64 f, .int .i64 t, .int .u64 m] 41) = W1 := ⟨_, rfl⟩
  obtain ⟨W2, hW2⟩ : ∃ W2, W1.alloc (.cells ZB 26) = W2 := ⟨_, rfl⟩
  obtain ⟨p, hp⟩ : ∃ p, w.heap.size = p := ⟨_, rfl⟩
  have hs0 : W0.heap.size = p + 1 := by rw [← hW0, ← hp, World.size_alloc]
  have hs1 : W1.heap.size = p + 2 := by rw [← hW1, World.size_alloc, hs0]
  have B2 := Lib.hid (show Kk.Bel w W2 by rw [← hW2, ← hW1, ← hW0]; exact (((Kk.Bel.refl w).alloc _).alloc _).alloc _)
  have R2 := Lib.hid (show W2.rangeAt p 0 Y by rw [← hW2, ← hW1, ← hp, ← hW0]; exact rngB (((Kk.Blk.new w _ _).alloc _).alloc _))
  have A2 : Kk.Blk W2 (p + 1) #[.int .i64 a, .int .i64 f, .int .i64 t, .int .u64 m] 41 := by rw [← hW2, ← hW1, ← hs0]; exact (Kk.Blk.new W0 _ _).alloc _
  have Q2 := Lib.hid (show Kk.Blk W2 (p + 2) [.slice none 0 0, .int .u64 0, .int .u64 0, .int .u64 0, .int .u64 0].toArray 26 by rw [← hW2, ← hs1]; exact Kk.Blk.new W1 _ _)
  have ca := A2.cell 0 (v := .int .i64 a) rfl
  have cf := A2.cell 1 (v := .int .i64 f) rfl
  have ct := A2.cell 2 (v := .int .i64 t) rfl
  have cm := A2.cell 3 (v := .int .u64 m) rfl
  have HV := Lib.hid (h.bel B2.out)
  have iY := Lib.hid (show (Try.prog.info? 26).map (·.size) = some Y.length by rw [h.len]; exact info_bank)
  have uB := Try.underlying26
  have HP := Lib.hid hp
  have HW0 := Lib.hid hW0
  have HW1 := Lib.hid hW1
  have HW2 := Lib.hid (show W1.alloc (.cells #[.slice none 0 0, .int .u64 0, .int .u64 0, .int .u64 0, .int .u64 0] 26) = W2 from hW2)
  clear A2 hW0 hW1 hW2 hs0 hs1 h hp
  by_cases h0 : a = 0
  · subst h0
    have EE : Hid (dE zs ps 0 f t m = xE zs ps false false f t m 1 ∧ dZ zs ps 0 f t m = xZ zs ps false false f t m 1 ∧ dP zs ps 0 f t m = xP zs ps false false f t m 1) := ⟨rfl, rfl, rfl⟩
    rw [EE.out.1, EE.out.2.1, EE.out.2.2]
    have CT := Lib.hid (sendR f t m Y zs ps W2 HV.out m0 m1)
    obtain ⟨ex, hex⟩ : ∃ ex, xE zs ps false false f t m 1 = ex := ⟨_, rfl⟩
    obtain ⟨zx, hzx⟩ : ∃ zx, xZ zs ps false false f t m 1 = zx := ⟨_, rfl⟩
    obtain ⟨px, hpx⟩ : ∃ px, xP zs ps false false f t m 1 = px := ⟨_, rfl⟩
    rw [hex, hzx, hpx] at CT
    rw [hex, hzx, hpx]
    clear hex hzx hpx EE
    go_enter Try.func21, Try.ntmps21
    go_upto_region 1 with fail
    rw [HW0.out, HP.out, HW1.out, HW2.out]
    go_wp2_with ((with_reducible refine wpList_load_mid ?_ 26 (.tmp 2) ?_ p 0 ?_ Y _ R2.out uB ?_ iY.out ?_); rfl; rfl; rfl; rfl)
    refine CT.out.mono ?_
    rintro e w1 ⟨X, rfl, hnb⟩
    have NN := Lib.hid (NB.after B2.out hnb)
    have Q3 := Lib.hid (Q2.out.bel hnb.bel)
    have T3 := Lib.hid (blk_there Q3.out rfl hnb.2.len)
    have I3 := Lib.hid hnb.infoA
    have O3 := Lib.hid hnb.one
    clear hnb CT
    go_wp2_with ((with_reducible refine wpList_store_mid ?_ 26 (.tmp 4) (.tmp 18) ?_ (p + 2) 0 X.toArray ?_ ?_ T3.out I3.out O3.out ?_); rfl; rfl; rfl; rfl)
    have VE := set_var Q3.out rfl (by rw [HP.out]; omega) NN.out (Kk.Bel.refl _)
    refine bodyPost_ret (res_ci Try.results21 _ _ ⟨p + 2, 0, none⟩ (.agg X.toArray) (.int .i64 ex) rfl rfl VE.res) rfl ⟨X, rfl, VE.nb⟩
  have h0' : (a == 0) = false := by simpa using h0
  by_cases h1 : a = 1
  · subst h1
    have EE : Hid (dE zs ps 1 f t m = xE zs ps true false f t m 0 ∧ dZ zs ps 1 f t m = xZ zs ps true false f t m 0 ∧ dP zs ps 1 f t m = xP zs ps true false f t m 0) := ⟨rfl, rfl, rfl⟩
    rw [EE.out.1, EE.out.2.1, EE.out.2.2]
    have CT := Lib.hid (payR f t m Y zs ps W2 HV.out m0 m1)
    obtain ⟨ex, hex⟩ : ∃ ex, xE zs ps true false f t m 0 = ex := ⟨_, rfl⟩
    obtain ⟨zx, hzx⟩ : ∃ zx, xZ zs ps true false f t m 0 = zx := ⟨_, rfl⟩
    obtain ⟨px, hpx⟩ : ∃ px, xP zs ps true false f t m 0 = px := ⟨_, rfl⟩
    rw [hex, hzx, hpx] at CT
    rw [hex, hzx, hpx]
    clear hex hzx hpx EE
    go_enter Try.func21, Try.ntmps21
    go_upto_region 1 with fail
    rw [HW0.out, HP.out, HW1.out, HW2.out]
    go_wp2_with ((with_reducible refine wpList_load_mid ?_ 26 (.tmp 2) ?_ p 0 ?_ Y _ R2.out uB ?_ iY.out ?_); rfl; rfl; rfl; rfl)
    refine CT.out.mono ?_
    rintro e w1 ⟨X, rfl, hnb⟩
    have NN := Lib.hid (NB.after B2.out hnb)
    have Q3 := Lib.hid (Q2.out.bel hnb.bel)
    have T3 := Lib.hid (blk_there Q3.out rfl hnb.2.len)
    have I3 := Lib.hid hnb.infoA
    have O3 := Lib.hid hnb.one
    clear hnb CT
    go_wp2_with ((with_reducible refine wpList_store_mid ?_ 26 (.tmp 4) (.tmp 30) ?_ (p + 2) 0 X.toArray ?_ ?_ T3.out I3.out O3.out ?_); rfl; rfl; rfl; rfl)
    have VE := set_var Q3.out rfl (by rw [HP.out]; omega) NN.out (Kk.Bel.refl _)
    refine bodyPost_ret (res_ci Try.results21 _ _ ⟨p + 2, 0, none⟩ (.agg X.toArray) (.int .i64 ex) rfl rfl VE.res) rfl ⟨X, rfl, VE.nb⟩
  have h1' : (a == 1) = false := by simpa using h1
  by_cases h2 : a = 2
  · subst h2
    have EE : Hid (dE zs ps 2 f t m = xE zs ps false true f t m 0 ∧ dZ zs ps 2 f t m = xZ zs ps false true f t m 0 ∧ dP zs ps 2 f t m = xP zs ps false true f t m 0) := ⟨rfl, rfl, rfl⟩
    rw [EE.out.1, EE.out.2.1, EE.out.2.2]
    have CT := Lib.hid (takeR f t m Y zs ps W2 HV.out m0 m1)
    obtain ⟨ex, hex⟩ : ∃ ex, xE zs ps false true f t m 0 = ex := ⟨_, rfl⟩
    obtain ⟨zx, hzx⟩ : ∃ zx, xZ zs ps false true f t m 0 = zx := ⟨_, rfl⟩
    obtain ⟨px, hpx⟩ : ∃ px, xP zs ps false true f t m 0 = px := ⟨_, rfl⟩
    rw [hex, hzx, hpx] at CT
    rw [hex, hzx, hpx]
    clear hex hzx hpx EE
    go_enter Try.func21, Try.ntmps21
    go_upto_region 1 with fail
    rw [HW0.out, HP.out, HW1.out, HW2.out]
    go_wp2_with ((with_reducible refine wpList_load_mid ?_ 26 (.tmp 2) ?_ p 0 ?_ Y _ R2.out uB ?_ iY.out ?_); rfl; rfl; rfl; rfl)
    refine CT.out.mono ?_
    rintro e w1 ⟨X, rfl, hnb⟩
    have NN := Lib.hid (NB.after B2.out hnb)
    have Q3 := Lib.hid (Q2.out.bel hnb.bel)
    have T3 := Lib.hid (blk_there Q3.out rfl hnb.2.len)
    have I3 := Lib.hid hnb.infoA
    have O3 := Lib.hid hnb.one
    clear hnb CT
    go_wp2_with ((with_reducible refine wpList_store_mid ?_ 26 (.tmp 4) (.tmp 42) ?_ (p + 2) 0 X.toArray ?_ ?_ T3.out I3.out O3.out ?_); rfl; rfl; rfl; rfl)
    have VE := set_var Q3.out rfl (by rw [HP.out]; omega) NN.out (Kk.Bel.refl _)
    refine bodyPost_ret (res_ci Try.results21 _ _ ⟨p + 2, 0, none⟩ (.agg X.toArray) (.int .i64 ex) rfl rfl VE.res) rfl ⟨X, rfl, VE.nb⟩
  have h2' : (a == 2) = false := by simpa using h2
  by_cases h3 : a = 3
  · subst h3
    have EE : Hid (dE zs ps 3 f t m = xE zs ps true true f t m 0 ∧ dZ zs ps 3 f t m = xZ zs ps true true f t m 0 ∧ dP zs ps 3 f t m = xP zs ps true true f t m 0) := ⟨rfl, rfl, rfl⟩
    rw [EE.out.1, EE.out.2.1, EE.out.2.2]
    have CT := Lib.hid (moveR f t m Y zs ps W2 HV.out m0 m1)
    obtain ⟨ex, hex⟩ : ∃ ex, xE zs ps true true f t m 0 = ex := ⟨_, rfl⟩
    obtain ⟨zx, hzx⟩ : ∃ zx, xZ zs ps true true f t m 0 = zx := ⟨_, rfl⟩
    obtain ⟨px, hpx⟩ : ∃ px, xP zs ps true true f t m 0 = px := ⟨_, rfl⟩
    rw [hex, hzx, hpx] at CT
    rw [hex, hzx, hpx]
    clear hex hzx hpx EE
    go_enter Try.func21, Try.ntmps21
    go_upto_region 1 with fail
    rw [HW0.out, HP.out, HW1.out, HW2.out]
    go_wp2_with ((with_reducible refine wpList_load_mid ?_ 26 (.tmp 2) ?_ p 0 ?_ Y _ R2.out uB ?_ iY.out ?_); rfl; rfl; rfl; rfl)
    refine CT.out.mono ?_
    rintro e w1 ⟨X, rfl, hnb⟩
    have NN := Lib.hid (NB.after B2.out hnb)
    have Q3 := Lib.hid (Q2.out.bel hnb.bel)
    have T3 := Lib.hid (blk_there Q3.out rfl hnb.2.len)
    have I3 := Lib.hid hnb.infoA
    have O3 := Lib.hid hnb.one
    clear hnb CT
    go_wp2_with ((with_reducible refine wpList_store_mid ?_ 26 (.tmp 4) (.tmp 54) ?_ (p + 2) 0 X.toArray ?_ ?_ T3.out I3.out O3.out ?_); rfl; rfl; rfl; rfl)
    have VE := set_var Q3.out rfl (by rw [HP.out]; omega) NN.out (Kk.Bel.refl _)
    refine bodyPost_ret (res_ci Try.results21 _ _ ⟨p + 2, 0, none⟩ (.agg X.toArray) (.int .i64 ex) rfl rfl VE.res) rfl ⟨X, rfl, VE.nb⟩
  have h3' : (a == 3) = false := by simpa using h3
  by_cases h4 : a = 4
  · subst h4
    have EE : Hid (dE zs ps 4 f t m = xE zs ps true true f 2 m 0 ∧ dZ zs ps 4 f t m = xZ zs ps true true f 2 m 0 ∧ dP zs ps 4 f t m = xP zs ps true true f 2 m 0) := ⟨rfl, rfl, rfl⟩
    rw [EE.out.1, EE.out.2.1, EE.out.2.2]
    have CT := Lib.hid (burnR f m Y zs ps W2 HV.out m0 m1)
    obtain ⟨ex, hex⟩ : ∃ ex, xE zs ps true true f 2 m 0 = ex := ⟨_, rfl⟩
    obtain ⟨zx, hzx⟩ : ∃ zx, xZ zs ps true true f 2 m 0 = zx := ⟨_, rfl⟩
    obtain ⟨px, hpx⟩ : ∃ px, xP zs ps true true f 2 m 0 = px := ⟨_, rfl⟩
    rw [hex, hzx, hpx] at CT
    rw [hex, hzx, hpx]
    clear hex hzx hpx EE
    go_enter Try.func21, Try.ntmps21
    go_upto_region 1 with fail
    rw [HW0.out, HP.out, HW1.out, HW2.out]
    go_wp2_with ((with_reducible refine wpList_load_mid ?_ 26 (.tmp 2) ?_ p 0 ?_ Y _ R2.out uB ?_ iY.out ?_); rfl; rfl; rfl; rfl)
    refine CT.out.mono ?_
    rintro e w1 ⟨X, rfl, hnb⟩
    have NN := Lib.hid (NB.after B2.out hnb)
    have Q3 := Lib.hid (Q2.out.bel hnb.bel)
    have T3 := Lib.hid (blk_there Q3.out rfl hnb.2.len)
    have I3 := Lib.hid hnb.infoA
    have O3 := Lib.hid hnb.one
    clear hnb CT
    go_wp2_with ((with_reducible refine wpList_store_mid ?_ 26 (.tmp 4) (.tmp 64) ?_ (p + 2) 0 X.toArray ?_ ?_ T3.out I3.out O3.out ?_); rfl; rfl; rfl; rfl)
    have VE := set_var Q3.out rfl (by rw [HP.out]; omega) NN.out (Kk.Bel.refl _)
    refine bodyPost_ret (res_ci Try.results21 _ _ ⟨p + 2, 0, none⟩ (.agg X.toArray) (.int .i64 ex) rfl rfl VE.res) rfl ⟨X, rfl, VE.nb⟩
  have h4' : (a == 4) = false := by simpa using h4
  have EE : Hid (dE zs ps a f t m = 0 ∧ dZ zs ps a f t m = [] ∧ dP zs ps a f t m = [0, 0, 0, 0]) := by
    unfold dE dZ dP
    rw [if_neg h0, if_neg h1, if_neg h2, if_neg h3, if_neg h4]
    rw [if_neg h0, if_neg h1, if_neg h2, if_neg h3, if_neg h4]
    rw [if_neg h0, if_neg h1, if_neg h2, if_neg h3, if_neg h4]
    exact ⟨rfl, rfl, rfl⟩
  rw [EE.out.1, EE.out.2.1, EE.out.2.2]
  have TZ := Lib.hid (blk_there (X := [.slice none 0 0, .int .u64 0, .int .u64 0, .int .u64 0, .int .u64 0]) Q2.out rfl rfl)
  have IZ := Lib.hid (show (Try.prog.info? 26).map (·.size) = some (#[.slice none 0 0, .int .u64 0, .int .u64 0, .int .u64 0, .int .u64 0] : Array Value).size from info_bank)
  have OZ := Lib.hid (one5 (v := .slice none 0 0) (a := 0) (b := 0) (c := 0) (d := 0) rfl)
  go_enter Try.func21, Try.ntmps21
  go_upto_region 1 with fail
  rw [HW0.out, HP.out, HW1.out, HW2.out]
  go_wp2_with ((with_reducible refine wpList_store_mid ?_ 26 (.tmp 4) (.tmp 66) ?_ (p + 2) 0 #[.slice none 0 0, .int .u64 0, .int .u64 0, .int .u64 0, .int .u64 0] ?_ ?_ TZ.out IZ.out OZ.out ?_); rfl; rfl; rfl; rfl)
  have VE := set_var Q2.out rfl (by rw [HP.out]; omega) (nb_zero B2.out) (Kk.Bel.refl _)
  exact bodyPost_ret (res_ci Try.results21 _ _ ⟨p + 2, 0, none⟩ (.agg ZB) (.int .i64 0) rfl rfl VE.res) rfl ⟨[.slice none 0 0, .int .u64 0, .int .u64 0, .int .u64 0, .int .u64 0], rfl, VE.nb⟩


set_option maxRecDepth 10000 in
set_option maxHeartbeats 1000000 in
theorem newR (A : Option Addr) (n c : Nat) (zs : List Int) (w : World) (hi : SU w A n c zs) (hn : n ≤ 1000000) (hz : Words zs) :
    Calls Try.prog 9 #[.slice A n c] w fun e w' => ∃ X, e = .returned (.tuple #[.agg X.toArray, .int .i64 (chk zs [0, 0, 0, 0])]) ∧ NB w w' X (okZ (chk zs [0, 0, 0, 0]) zs) [0, 0, 0, 0] := by
  have hg : Good zs [0, 0, 0, 0] := ⟨hz, words_zero, rfl, by rw [hi.len]; exact hn⟩
  have HG := Lib.hid hg
  obtain ⟨W0, hW0⟩ : ∃ W0, w.alloc (.cells ZB 26) = W0 := ⟨_, rfl⟩
  obtain ⟨p, hp⟩ : ∃ p, w.heap.size = p := ⟨_, rfl⟩
  have B0 := Lib.hid (show Kk.Bel w W0 by rw [← hW0]; exact (Kk.Bel.refl w).alloc _)
  have QR := Lib.hid (show Kk.Blk W0 p ZB 26 by rw [← hW0, ← hp]; exact Kk.Blk.new w _ _)
  have HW0 := Lib.hid hW0
  have HP := Lib.hid hp
  have CW := Lib.hid (copyWords A n c zs W0 (hi.bel B0.out) (by omega))
  have uB := Try.underlying26
  clear hW0 hp hi hg
  go_enter Try.func9, Try.ntmps9
  go_upto_region 1 with fail
  rw [HW0.out, HP.out]
  go_wp2_with fail
  refine CW.out.mono ?_
  rintro e w1 ⟨v, rfl, hf⟩
  obtain ⟨A2, c2, rfl, hsu⟩ := hf.su
  have FR := Lib.hid hf
  obtain ⟨X, hX⟩ : ∃ X, X = bkC (.slice A2 zs.length c2) [0, 0, 0, 0] := ⟨_, rfl⟩
  have hX2 : X = [.slice A2 zs.length c2, .int .u64 0, .int .u64 0, .int .u64 0, .int .u64 0] := hX
  have NX : BV w1 X zs [0, 0, 0, 0] := ⟨A2, c2, hX, hsu, HG.out⟩
  have XL := Lib.hid NX.len
  have XO := Lib.hid NX.one
  have B1 := Lib.hid (B0.out.trans hf.2)
  have QR1 := Lib.hid (QR.out.bel hf.2)
  clear hf hsu
  go_upto_region 2 with fail
  obtain ⟨W2, hW2⟩ : ∃ W2, w1.alloc (.cells X.toArray 26) = W2 := ⟨_, rfl⟩
  obtain ⟨r, hr⟩ : ∃ r, w1.heap.size = r := ⟨_, rfl⟩
  have Q2 := Lib.hid (show Kk.Blk W2 r X.toArray 26 by rw [← hW2, ← hr]; exact Kk.Blk.new w1 _ _)
  have D2 := Lib.hid (show Kk.Bel w1 W2 by rw [← hW2]; exact (Kk.Bel.refl _).alloc _)
  rw [hX2] at hW2
  have hW3 : w1.alloc (.cells #[.slice A2 zs.length c2, .int .u64 0, .int .u64 0, .int .u64 0, .int .u64 0] 26) = W2 := hW2
  rw [hW3, hr]
  have HX := Lib.hid hX
  have CK := Lib.hid (checkR X zs [0, 0, 0, 0] W2 (NX.bel D2.out))
  have iX := Lib.hid (show (Try.prog.info? 26).map (·.size) = some X.length by rw [XL.out]; exact info_bank)
  have XJ := Lib.hid (show (Try.prog.info? 26).map (·.size) = some X.toArray.size by rw [List.size_toArray, XL.out]; exact info_bank)
  have RX := Lib.hid (rngB Q2.out)
  have QR := Lib.hid (QR1.out.bel D2.out)
  have B2 := Lib.hid (B1.out.trans D2.out)
  obtain ⟨q, hq⟩ : ∃ q, chk zs [0, 0, 0, 0] = q := ⟨_, rfl⟩
  rw [hq] at CK
  have HQ := Lib.hid hq
  clear hX hX2 hW2 hW3 hr hq NX QR1 B1
  go_wp2_with ((with_reducible refine wpList_load_mid ?_ 26 (.tmp 4) ?_ r 0 ?_ X _ RX.out uB ?_ iX.out ?_); rfl; rfl; rfl; rfl)
  refine CK.out.mono ?_
  rintro e w3 ⟨rfl, kb⟩
  have QR3 := Lib.hid (QR.out.bel kb)
  have RX := Lib.hid (rng_bel RX.out kb)
  have B3 := Lib.hid (B2.out.trans kb)
  have FR3 := Lib.hid ((FR.out.after B0.out).then_ (D2.out.trans kb))
  clear kb
  by_cases h0 : q = 0
  · subst h0
    have TH := Lib.hid (show w3.there p 0 X.toArray.size from blk_there (C := ZB.toList) QR3.out rfl XL.out)
    have BL := Lib.hid (Pm.bwhole (vs := X) QR3.out (by rw [XL.out]; rfl))
    have FE := Lib.hid (FB.same ((show FB w w3 (.agg X.toArray) zs [0, 0, 0, 0] from ⟨_, by rw [HX.out], FR3.out⟩).set QR3.out (by decide) (o := 0) (Y := X) (show w.heap.size ≤ p by have := HP.out; omega)) HG.out)
    go_wp2_with (first | ((with_reducible refine wpList_load_mid ?_ 26 (.tmp 4) ?_ r 0 ?_ X _ RX.out uB ?_ iX.out ?_); rfl; rfl; rfl; rfl) | ((with_reducible refine wpList_store_mid ?_ 26 (.tmp 2) (.tmp 15) ?_ p 0 X.toArray ?_ ?_ TH.out XJ.out XO.out ?_); rfl; rfl; rfl; rfl))
    refine bodyPost_ret (v := .tuple #[.agg X.toArray, .int .i64 0]) (Pm.res_ci rfl _ _ ⟨p, 0, none⟩ (.agg X.toArray) (.int .i64 0) rfl rfl (Pm.load_b BL.out uB rfl iX.out)) rfl ⟨X, by rw [HQ.out], ?_⟩
    rw [HQ.out, show okZ 0 zs = zs from if_pos rfl]
    exact FE.out
  · have n2 : (q != 0) = true := by simpa using h0
    have TH5 := Lib.hid (show w3.there p 0 ZB.size from bthere QR3.out 0 _ (by simp))
    have YI5 := Lib.hid (show (Try.prog.info? 26).map (·.size) = some ZB.size from info_bank)
    have YO5 := Lib.hid (show ZB.all (·.oneCell') = true from one5 rfl)
    have BE := Lib.hid (bel_setCells B3.out (show w.heap.size ≤ p by have := HP.out; omega) 0 ZB.toList)
    have BL := Lib.hid (Pm.bwhole (vs := ZB.toList) QR3.out rfl)
    go_wp2_with ((with_reducible refine wpList_store_mid ?_ 26 (.tmp 2) (.tmp 13) ?_ p 0 ZB ?_ ?_ TH5.out YI5.out YO5.out ?_); rfl; rfl; rfl; rfl)
    refine bodyPost_ret (v := .tuple #[.agg ZB, .int .i64 q]) (Pm.res_ci rfl _ _ ⟨p, 0, none⟩ (.agg ZB) (.int .i64 q) rfl rfl (Pm.load_b (C := ZB.toList) BL.out uB rfl info_bank)) rfl ⟨ZB.toList, by rw [HQ.out], ?_⟩
    rw [HQ.out, okZ_no _ h0]
    exact nb_zero BE.out
end Bk
end Go.Proofs.Ytgdaojbflokmoaa
