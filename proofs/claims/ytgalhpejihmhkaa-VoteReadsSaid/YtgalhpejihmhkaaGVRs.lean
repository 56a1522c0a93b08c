/-
  The walk of the law VoteReads: it returns true. Conditions: a slice that reads as bytes.
-/
import Derived.Test.YtgalhpejihmhkaaGZ
import Derived.Test.YtgalhpejihmhkaaGV
import Derived.Test.YtgalhpejihmhkaaGE
namespace Go.Proofs.Ytgalhpejihmhkaa
open Go.RowKit Go.Shelf
set_option linter.unusedVariables false
namespace Vt
open Cd

set_option maxRecDepth 100000 in
set_option maxHeartbeats 16000000 in
theorem readsLaw (A : Option Addr) (n c : Nat) (zs : List Int) (w : World) (hz : Sl w A n c zs) (hy : ∀ z ∈ zs, 0 ≤ z ∧ z ≤ 255) (hm : n ≤ maxLen) :
    Calls Try.prog 3 #[.slice A n c] w fun e w' => e = .returned (.bool true) ∧ Bel w w' := by
  by_cases hn : 300 < n
  · have hni : (300 : Int) < (n : Int) := by omega
    have AW := Lib.hid (awake w)
    clear hz hy hm
    go_enter Try.func3, Try.ntmps3
    go_wp2_with fail
    refine AW.out.mono ?_
    rintro e w1 ⟨rfl, k1⟩
    have B1 := Lib.hid (show Bel w w1 from k1)
    go_wp2
    go_ret
    exact ⟨rfl, B1.out⟩
  have hni : ¬ (300 : Int) < (n : Int) := by omega
  obtain ⟨v, s, t, tg, hs, feA, hrd, hor⟩ := att_ex zs (Cd.bytes_of hy)
  obtain ⟨eA, pA⟩ := feA
  have h32 : (eA, pA).1 = 0 → hs.length = 32 := fun h => by
    rcases hor with h1 | h1
    · exact absurd h h1
    · exact h1.2.2.2.2.2.1
  have hfe0 : (eA, pA).1 ≠ 0 ∨ (eA, pA) = (0, 0) := hor.imp id (fun h => h.1)
  have lX := Lib.hid (show (attTl v s t tg hs (eA, pA)).length = 36 from len_attTl h32)
  obtain ⟨CA, hX⟩ : ∃ D, D = attTl v s t tg hs (eA, pA) := ⟨_, rfl⟩
  have RA := Lib.hid (show ∀ W A n c, n ≤ 1000000 → Sl W A n c zs → Calls Try.prog 6 #[.slice A n c] W fun e w' => e = .returned (.tuple #[.agg CA.toArray, .agg #[.int .i64 eA, .int .i64 pA]]) ∧ Bel W w' from fun W A n c hn hW => by
    have := readA A n c zs v s t tg hs (eA, pA) W hW hn (Cd.bytes_of hy) hrd
    rwa [← hX] at this)
  have SA := Lib.hid (show ∀ W A n c, n ≤ 1000000 → Sl W A n c zs → Calls Try.prog 7 #[.slice A n c] W fun e w' => e = .returned (.tuple #[.agg CA.toArray, .agg #[.int .i64 eA, .int .i64 pA]]) ∧ Bel W w' from fun W A n c hn hW => by
    have := qreadA A n c zs v s t tg hs (eA, pA) W hW hn (Cd.bytes_of hy) hrd hfe0
    rwa [← hX] at this)
  have EQA := Lib.hid (show ∀ W, (binOp .eql 29 (.agg CA.toArray) (.agg CA.toArray)).run Try.prog W = .ok (.bool true) W by rw [hX]; exact eql_attTl v s t tg hs (eA, pA) h32)
  have EFA := Lib.hid (show ∀ W, (binOp .eql 32 (.agg #[.int .i64 eA, .int .i64 pA]) (.agg #[.int .i64 eA, .int .i64 pA])).run Try.prog W = .ok (.bool true) W by intro W; rw [eql_fault]; simp)
  rw [← hX] at lX
  have lA := Lib.hid lX.out
  have oA := Lib.hid (all_oneCell_toArray (cs := CA) (by rw [hX]; exact attTl_cells _ _ _ _ _ _))
  have jA := Lib.hid (show (Try.prog.info? 29).map (·.size) = some CA.toArray.size by rw [List.size_toArray, lX.out]; exact info_att)
  have iA := Lib.hid (show (Try.prog.info? 29).map (·.size) = some CA.length by rw [lX.out]; exact info_att)
  clear hX hor hrd h32 hfe0 lX
  obtain ⟨v2, s2, tg2, hs2, feP, hrd, hor⟩ := prop_ex zs (Cd.bytes_of hy)
  obtain ⟨eP, pP⟩ := feP
  have h32 : (eP, pP).1 = 0 → hs2.length = 32 := fun h => by
    rcases hor with h1 | h1
    · exact absurd h h1
    · exact h1.2.2.2.2.1
  have hfe0 : (eP, pP).1 ≠ 0 ∨ (eP, pP) = (0, 0) := hor.imp id (fun h => h.1)
  have lX := Lib.hid (show (propTl v2 s2 tg2 hs2 (eP, pP)).length = 35 from len_propTl h32)
  obtain ⟨CP, hX⟩ : ∃ D, D = propTl v2 s2 tg2 hs2 (eP, pP) := ⟨_, rfl⟩
  have RP := Lib.hid (show ∀ W A n c, n ≤ 1000000 → Sl W A n c zs → Calls Try.prog 8 #[.slice A n c] W fun e w' => e = .returned (.tuple #[.agg CP.toArray, .agg #[.int .i64 eP, .int .i64 pP]]) ∧ Bel W w' from fun W A n c hn hW => by
    have := readB A n c zs v2 s2 tg2 hs2 (eP, pP) W hW hn (Cd.bytes_of hy) hrd
    rwa [← hX] at this)
  have SP := Lib.hid (show ∀ W A n c, n ≤ 1000000 → Sl W A n c zs → Calls Try.prog 9 #[.slice A n c] W fun e w' => e = .returned (.tuple #[.agg CP.toArray, .agg #[.int .i64 eP, .int .i64 pP]]) ∧ Bel W w' from fun W A n c hn hW => by
    have := qreadP A n c zs v2 s2 tg2 hs2 (eP, pP) W hW hn (Cd.bytes_of hy) hrd hfe0
    rwa [← hX] at this)
  have EQP := Lib.hid (show ∀ W, (binOp .eql 36 (.agg CP.toArray) (.agg CP.toArray)).run Try.prog W = .ok (.bool true) W by rw [hX]; exact eql_propTl v2 s2 tg2 hs2 (eP, pP) h32)
  have EFP := Lib.hid (show ∀ W, (binOp .eql 32 (.agg #[.int .i64 eP, .int .i64 pP]) (.agg #[.int .i64 eP, .int .i64 pP])).run Try.prog W = .ok (.bool true) W by intro W; rw [eql_fault]; simp)
  rw [← hX] at lX
  have lP := Lib.hid lX.out
  have oP := Lib.hid (all_oneCell_toArray (cs := CP) (by rw [hX]; exact propTl_cells _ _ _ _ _))
  have jP := Lib.hid (show (Try.prog.info? 36).map (·.size) = some CP.toArray.size by rw [List.size_toArray, lX.out]; exact info_prop)
  have iP := Lib.hid (show (Try.prog.info? 36).map (·.size) = some CP.length by rw [lX.out]; exact info_prop)
  clear hX hor hrd h32 hfe0 lX
  have LEN := Lib.hid (lent A n c zs w hz (by omega))
  have HZ := Lib.hid hz
  have NN := Lib.hid (show n ≤ 1000000 by omega)
  have B := Lib.hid (Bel.refl w)
  clear hz hy hn hm
  go_enter Try.func3, Try.ntmps3
  go_wp2_with fail
  refine LEN.out.mono ?_
  rintro e w1 ⟨vl, rfl, hl, k1⟩
  obtain ⟨g, cc, rfl, _⟩ := id hl.row
  have LE := Lib.hid hl
  have HZ := Lib.hid (HZ.out.bel k1)
  have B := Lib.hid (B.out.trans k1)
  clear k1 hl LEN hni
  go_wp2_with fail
  refine (RA.out _ _ _ _ NN.out (sl_own LE.out.own)).mono ?_
  rintro e wya ⟨rfl, k3⟩
  have k3 : Bel _ wya := k3
  have HZ := Lib.hid (HZ.out.bel k3)
  have B := Lib.hid (B.out.trans k3)
  have LE := Lib.hid (Lent.bel LE.out k3)
  clear k3
  obtain ⟨Wy1, hW1⟩ : ∃ x, wya.alloc Zr36 = x := ⟨_, rfl⟩
  obtain ⟨Wy2, hW2⟩ : ∃ x, Wy1.alloc (.cells #[.int .i64 0, .int .i64 0] 32) = x := ⟨_, rfl⟩
  have q1 : Bel wya Wy1 := by rw [← hW1]; exact (Bel.refl _).alloc _
  have q2 : Bel Wy1 Wy2 := by rw [← hW2]; exact (Bel.refl _).alloc _
  have z1 : Wy1.heap.size = wya.heap.size + 1 := by rw [← hW1]; simp
  obtain ⟨ay, ha⟩ : ∃ a, a = wya.heap.size := ⟨_, rfl⟩
  have X := Lib.hid (show Bx 29 wya Wy2 ay (attC 0 0 0 Y0 0) 0 0 from
    ⟨(show Blk Wy1 ay ((attC 0 0 0 Y0 0)).toArray 29 by rw [← hW1, ha]; exact Blk.new wya _ _).bel q2, by rw [← hW2, ha, ← z1]; exact Blk.new Wy1 _ _, q1.trans q2, ha.symm⟩)
  have HW1 := Lib.hid hW1
  have HW2 := Lib.hid hW2
  have HA1 := Lib.hid ha
  have TH := Lib.hid (show Wy2.there ay 0 CA.toArray.size by rw [show CA.toArray.size = 36 by rw [List.size_toArray]; exact lA.out]; exact X.out.blk.there 0 36 (Nat.le_refl _))
  have y0 : (Wy2.setCells ay 0 CA).cell? ⟨ay + 1, 0, none⟩ = some (.int .i64 0) := (X.out.whole (vs := CA) (by rw [lA.out]; rfl)).flt.cell 0 rfl
  have y1 : (Wy2.setCells ay 0 CA).cell? ⟨ay + 1, 1, none⟩ = some (.int .i64 0) := (X.out.whole (vs := CA) (by rw [lA.out]; rfl)).flt.cell 1 rfl
  have x0 : (Wy2.setCells ay 0 CA).frozen? ⟨ay + 1, 0, none⟩ = false := (X.out.whole (vs := CA) (by rw [lA.out]; rfl)).flt.frozen 0
  have x1 : (Wy2.setCells ay 0 CA).frozen? ⟨ay + 1, 1, none⟩ = false := (X.out.whole (vs := CA) (by rw [lA.out]; rfl)).flt.frozen 1
  clear hW1 hW2 ha q1 q2 z1
  go_upto_region 5 with (rw [HW1.out, HW2.out, ← HA1.out]; refine wpList_store_mid rfl 29 (.tmp 4) (.tmp 21) rfl ay 0 CA.toArray rfl rfl TH.out jA.out oA.out ?_)
  obtain ⟨wyb, hw⟩ : ∃ x, ((Wy2.setCells ay 0 CA).setCell ⟨ay + 1, 0, none⟩ (.int .i64 eA)).setCell ⟨ay + 1, 1, none⟩ (.int .i64 pA) = x := ⟨_, rfl⟩
  have X := Lib.hid (show Bx 29 wya wyb ay CA eA pA by rw [← hw]; exact (X.out.whole (vs := CA) (by rw [lA.out]; rfl)).fault eA pA)
  rw [hw]
  clear hw y0 y1 x0 x1 TH HW1 HW2 HA1
  have HZ := Lib.hid (HZ.out.bel X.out.bel)
  have B := Lib.hid (B.out.trans X.out.bel)
  have LE := Lib.hid (Lent.bel LE.out X.out.bel)
  have Ly := Lib.hid X.out.blk
  have Fy := Lib.hid X.out.flt
  clear X
  go_wp2_with fail
  refine (SA.out _ _ _ _ NN.out HZ.out).mono ?_
  rintro e wza ⟨rfl, k3⟩
  have k3 : Bel _ wza := k3
  have HZ := Lib.hid (HZ.out.bel k3)
  have B := Lib.hid (B.out.trans k3)
  have LE := Lib.hid (Lent.bel LE.out k3)
  have Ly := Lib.hid (Blk.bel Ly.out k3)
  have Fy := Lib.hid (Blk.bel Fy.out k3)
  clear k3
  obtain ⟨Wz1, hW1⟩ : ∃ x, wza.alloc Zr36 = x := ⟨_, rfl⟩
  obtain ⟨Wz2, hW2⟩ : ∃ x, Wz1.alloc (.cells #[.int .i64 0, .int .i64 0] 32) = x := ⟨_, rfl⟩
  have q1 : Bel wza Wz1 := by rw [← hW1]; exact (Bel.refl _).alloc _
  have q2 : Bel Wz1 Wz2 := by rw [← hW2]; exact (Bel.refl _).alloc _
  have z1 : Wz1.heap.size = wza.heap.size + 1 := by rw [← hW1]; simp
  obtain ⟨az, ha⟩ : ∃ a, a = wza.heap.size := ⟨_, rfl⟩
  have X := Lib.hid (show Bx 29 wza Wz2 az (attC 0 0 0 Y0 0) 0 0 from
    ⟨(show Blk Wz1 az ((attC 0 0 0 Y0 0)).toArray 29 by rw [← hW1, ha]; exact Blk.new wza _ _).bel q2, by rw [← hW2, ha, ← z1]; exact Blk.new Wz1 _ _, q1.trans q2, ha.symm⟩)
  have HW1 := Lib.hid hW1
  have HW2 := Lib.hid hW2
  have HA1 := Lib.hid ha
  have TH := Lib.hid (show Wz2.there az 0 CA.toArray.size by rw [show CA.toArray.size = 36 by rw [List.size_toArray]; exact lA.out]; exact X.out.blk.there 0 36 (Nat.le_refl _))
  have y0 : (Wz2.setCells az 0 CA).cell? ⟨az + 1, 0, none⟩ = some (.int .i64 0) := (X.out.whole (vs := CA) (by rw [lA.out]; rfl)).flt.cell 0 rfl
  have y1 : (Wz2.setCells az 0 CA).cell? ⟨az + 1, 1, none⟩ = some (.int .i64 0) := (X.out.whole (vs := CA) (by rw [lA.out]; rfl)).flt.cell 1 rfl
  have x0 : (Wz2.setCells az 0 CA).frozen? ⟨az + 1, 0, none⟩ = false := (X.out.whole (vs := CA) (by rw [lA.out]; rfl)).flt.frozen 0
  have x1 : (Wz2.setCells az 0 CA).frozen? ⟨az + 1, 1, none⟩ = false := (X.out.whole (vs := CA) (by rw [lA.out]; rfl)).flt.frozen 1
  clear hW1 hW2 ha q1 q2 z1
  go_upto_region 6 with (rw [HW1.out, HW2.out, ← HA1.out]; refine wpList_store_mid rfl 29 (.tmp 6) (.tmp 26) rfl az 0 CA.toArray rfl rfl TH.out jA.out oA.out ?_)
  obtain ⟨wzb, hw⟩ : ∃ x, ((Wz2.setCells az 0 CA).setCell ⟨az + 1, 0, none⟩ (.int .i64 eA)).setCell ⟨az + 1, 1, none⟩ (.int .i64 pA) = x := ⟨_, rfl⟩
  have X := Lib.hid (show Bx 29 wza wzb az CA eA pA by rw [← hw]; exact (X.out.whole (vs := CA) (by rw [lA.out]; rfl)).fault eA pA)
  rw [hw]
  clear hw y0 y1 x0 x1 TH HW1 HW2 HA1
  have HZ := Lib.hid (HZ.out.bel X.out.bel)
  have B := Lib.hid (B.out.trans X.out.bel)
  have LE := Lib.hid (Lent.bel LE.out X.out.bel)
  have Ly := Lib.hid (Blk.bel Ly.out X.out.bel)
  have Fy := Lib.hid (Blk.bel Fy.out X.out.bel)
  have Lz := Lib.hid X.out.blk
  have Fz := Lib.hid X.out.flt
  clear X
  go_wp2_with fail
  refine (RP.out _ _ _ _ NN.out (sl_own LE.out.own)).mono ?_
  rintro e wua ⟨rfl, k3⟩
  have k3 : Bel _ wua := k3
  have HZ := Lib.hid (HZ.out.bel k3)
  have B := Lib.hid (B.out.trans k3)
  have LE := Lib.hid (Lent.bel LE.out k3)
  have Ly := Lib.hid (Blk.bel Ly.out k3)
  have Fy := Lib.hid (Blk.bel Fy.out k3)
  have Lz := Lib.hid (Blk.bel Lz.out k3)
  have Fz := Lib.hid (Blk.bel Fz.out k3)
  clear k3
  obtain ⟨Wu1, hW1⟩ : ∃ x, wua.alloc Zr35 = x := ⟨_, rfl⟩
  obtain ⟨Wu2, hW2⟩ : ∃ x, Wu1.alloc (.cells #[.int .i64 0, .int .i64 0] 32) = x := ⟨_, rfl⟩
  have q1 : Bel wua Wu1 := by rw [← hW1]; exact (Bel.refl _).alloc _
  have q2 : Bel Wu1 Wu2 := by rw [← hW2]; exact (Bel.refl _).alloc _
  have z1 : Wu1.heap.size = wua.heap.size + 1 := by rw [← hW1]; simp
  obtain ⟨au, ha⟩ : ∃ a, a = wua.heap.size := ⟨_, rfl⟩
  have X := Lib.hid (show Bx 36 wua Wu2 au (propC 0 0 Y0 0) 0 0 from
    ⟨(show Blk Wu1 au ((propC 0 0 Y0 0)).toArray 36 by rw [← hW1, ha]; exact Blk.new wua _ _).bel q2, by rw [← hW2, ha, ← z1]; exact Blk.new Wu1 _ _, q1.trans q2, ha.symm⟩)
  have HW1 := Lib.hid hW1
  have HW2 := Lib.hid hW2
  have HA1 := Lib.hid ha
  have TH := Lib.hid (show Wu2.there au 0 CP.toArray.size by rw [show CP.toArray.size = 35 by rw [List.size_toArray]; exact lP.out]; exact X.out.blk.there 0 35 (Nat.le_refl _))
  have y0 : (Wu2.setCells au 0 CP).cell? ⟨au + 1, 0, none⟩ = some (.int .i64 0) := (X.out.whole (vs := CP) (by rw [lP.out]; rfl)).flt.cell 0 rfl
  have y1 : (Wu2.setCells au 0 CP).cell? ⟨au + 1, 1, none⟩ = some (.int .i64 0) := (X.out.whole (vs := CP) (by rw [lP.out]; rfl)).flt.cell 1 rfl
  have x0 : (Wu2.setCells au 0 CP).frozen? ⟨au + 1, 0, none⟩ = false := (X.out.whole (vs := CP) (by rw [lP.out]; rfl)).flt.frozen 0
  have x1 : (Wu2.setCells au 0 CP).frozen? ⟨au + 1, 1, none⟩ = false := (X.out.whole (vs := CP) (by rw [lP.out]; rfl)).flt.frozen 1
  clear hW1 hW2 ha q1 q2 z1
  go_upto_region 7 with (rw [HW1.out, HW2.out, ← HA1.out]; refine wpList_store_mid rfl 36 (.tmp 8) (.tmp 31) rfl au 0 CP.toArray rfl rfl TH.out jP.out oP.out ?_)
  obtain ⟨wub, hw⟩ : ∃ x, ((Wu2.setCells au 0 CP).setCell ⟨au + 1, 0, none⟩ (.int .i64 eP)).setCell ⟨au + 1, 1, none⟩ (.int .i64 pP) = x := ⟨_, rfl⟩
  have X := Lib.hid (show Bx 36 wua wub au CP eP pP by rw [← hw]; exact (X.out.whole (vs := CP) (by rw [lP.out]; rfl)).fault eP pP)
  rw [hw]
  clear hw y0 y1 x0 x1 TH HW1 HW2 HA1
  have HZ := Lib.hid (HZ.out.bel X.out.bel)
  have B := Lib.hid (B.out.trans X.out.bel)
  have LE := Lib.hid (Lent.bel LE.out X.out.bel)
  have Ly := Lib.hid (Blk.bel Ly.out X.out.bel)
  have Fy := Lib.hid (Blk.bel Fy.out X.out.bel)
  have Lz := Lib.hid (Blk.bel Lz.out X.out.bel)
  have Fz := Lib.hid (Blk.bel Fz.out X.out.bel)
  have Lu := Lib.hid X.out.blk
  have Fu := Lib.hid X.out.flt
  clear X
  go_wp2_with fail
  refine (SP.out _ _ _ _ NN.out HZ.out).mono ?_
  rintro e wva ⟨rfl, k3⟩
  have k3 : Bel _ wva := k3
  have HZ := Lib.hid (HZ.out.bel k3)
  have B := Lib.hid (B.out.trans k3)
  have LE := Lib.hid (Lent.bel LE.out k3)
  have Ly := Lib.hid (Blk.bel Ly.out k3)
  have Fy := Lib.hid (Blk.bel Fy.out k3)
  have Lz := Lib.hid (Blk.bel Lz.out k3)
  have Fz := Lib.hid (Blk.bel Fz.out k3)
  have Lu := Lib.hid (Blk.bel Lu.out k3)
  have Fu := Lib.hid (Blk.bel Fu.out k3)
  clear k3
  obtain ⟨Wv1, hW1⟩ : ∃ x, wva.alloc Zr35 = x := ⟨_, rfl⟩
  obtain ⟨Wv2, hW2⟩ : ∃ x, Wv1.alloc (.cells #[.int .i64 0, .int .i64 0] 32) = x := ⟨_, rfl⟩
  have q1 : Bel wva Wv1 := by rw [← hW1]; exact (Bel.refl _).alloc _
  have q2 : Bel Wv1 Wv2 := by rw [← hW2]; exact (Bel.refl _).alloc _
  have z1 : Wv1.heap.size = wva.heap.size + 1 := by rw [← hW1]; simp
  obtain ⟨av, ha⟩ : ∃ a, a = wva.heap.size := ⟨_, rfl⟩
  have X := Lib.hid (show Bx 36 wva Wv2 av (propC 0 0 Y0 0) 0 0 from
    ⟨(show Blk Wv1 av ((propC 0 0 Y0 0)).toArray 36 by rw [← hW1, ha]; exact Blk.new wva _ _).bel q2, by rw [← hW2, ha, ← z1]; exact Blk.new Wv1 _ _, q1.trans q2, ha.symm⟩)
  have HW1 := Lib.hid hW1
  have HW2 := Lib.hid hW2
  have HA1 := Lib.hid ha
  have TH := Lib.hid (show Wv2.there av 0 CP.toArray.size by rw [show CP.toArray.size = 35 by rw [List.size_toArray]; exact lP.out]; exact X.out.blk.there 0 35 (Nat.le_refl _))
  have y0 : (Wv2.setCells av 0 CP).cell? ⟨av + 1, 0, none⟩ = some (.int .i64 0) := (X.out.whole (vs := CP) (by rw [lP.out]; rfl)).flt.cell 0 rfl
  have y1 : (Wv2.setCells av 0 CP).cell? ⟨av + 1, 1, none⟩ = some (.int .i64 0) := (X.out.whole (vs := CP) (by rw [lP.out]; rfl)).flt.cell 1 rfl
  have x0 : (Wv2.setCells av 0 CP).frozen? ⟨av + 1, 0, none⟩ = false := (X.out.whole (vs := CP) (by rw [lP.out]; rfl)).flt.frozen 0
  have x1 : (Wv2.setCells av 0 CP).frozen? ⟨av + 1, 1, none⟩ = false := (X.out.whole (vs := CP) (by rw [lP.out]; rfl)).flt.frozen 1
  clear hW1 hW2 ha q1 q2 z1
  go_upto_region 8 with (rw [HW1.out, HW2.out, ← HA1.out]; refine wpList_store_mid rfl 36 (.tmp 10) (.tmp 36) rfl av 0 CP.toArray rfl rfl TH.out jP.out oP.out ?_)
  obtain ⟨wvb, hw⟩ : ∃ x, ((Wv2.setCells av 0 CP).setCell ⟨av + 1, 0, none⟩ (.int .i64 eP)).setCell ⟨av + 1, 1, none⟩ (.int .i64 pP) = x := ⟨_, rfl⟩
  have X := Lib.hid (show Bx 36 wva wvb av CP eP pP by rw [← hw]; exact (X.out.whole (vs := CP) (by rw [lP.out]; rfl)).fault eP pP)
  rw [hw]
  clear hw y0 y1 x0 x1 TH HW1 HW2 HA1
  have HZ := Lib.hid (HZ.out.bel X.out.bel)
  have B := Lib.hid (B.out.trans X.out.bel)
  have LE := Lib.hid (Lent.bel LE.out X.out.bel)
  have Ly := Lib.hid (Blk.bel Ly.out X.out.bel)
  have Fy := Lib.hid (Blk.bel Fy.out X.out.bel)
  have Lz := Lib.hid (Blk.bel Lz.out X.out.bel)
  have Fz := Lib.hid (Blk.bel Fz.out X.out.bel)
  have Lu := Lib.hid (Blk.bel Lu.out X.out.bel)
  have Fu := Lib.hid (Blk.bel Fu.out X.out.bel)
  have Lv := Lib.hid X.out.blk
  have Fv := Lib.hid X.out.flt
  clear X
  have ry := Lib.hid (rngB Ly.out)
  have c0y : wvb.cell? ⟨ay + 1, 0, none⟩ = some (.int .i64 eA) := Fy.out.cell 0 rfl
  have c1y : wvb.cell? ⟨ay + 1, 1, none⟩ = some (.int .i64 pA) := Fy.out.cell 1 rfl
  have rz := Lib.hid (rngB Lz.out)
  have c0z : wvb.cell? ⟨az + 1, 0, none⟩ = some (.int .i64 eA) := Fz.out.cell 0 rfl
  have c1z : wvb.cell? ⟨az + 1, 1, none⟩ = some (.int .i64 pA) := Fz.out.cell 1 rfl
  have ru := Lib.hid (rngB Lu.out)
  have c0u : wvb.cell? ⟨au + 1, 0, none⟩ = some (.int .i64 eP) := Fu.out.cell 0 rfl
  have c1u : wvb.cell? ⟨au + 1, 1, none⟩ = some (.int .i64 pP) := Fu.out.cell 1 rfl
  have rv := Lib.hid (rngB Lv.out)
  have c0v : wvb.cell? ⟨av + 1, 0, none⟩ = some (.int .i64 eP) := Fv.out.cell 0 rfl
  have c1v : wvb.cell? ⟨av + 1, 1, none⟩ = some (.int .i64 pP) := Fv.out.cell 1 rfl
  have efA := EFA.out
  have efP := EFP.out
  have KE := Lib.hid (kept _ _ A n c zs wvb LE.out HZ.out.ints (by have := NN.out; omega))
  go_wp2_with (first
    | (refine load_guarded (by rfl) 29 (.tmp 4) rfl ay 0 rfl CA _ ry.out Try.underlying29 rfl iA.out ?_)
    | (refine load_guarded (by rfl) 29 (.tmp 6) rfl az 0 rfl CA _ rz.out Try.underlying29 rfl iA.out ?_)
    | (refine load_guarded (by rfl) 36 (.tmp 8) rfl au 0 rfl CP _ ru.out Try.underlying36 rfl iP.out ?_)
    | (refine load_guarded (by rfl) 36 (.tmp 10) rfl av 0 rfl CP _ rv.out Try.underlying36 rfl iP.out ?_)
    | (refine wpList_val (by rfl) (.bool true) (exec_eql rfl _ _ rfl rfl (by kernel_rfl) EQA.out) ?_)
    | (refine wpList_val (by rfl) (.bool true) (exec_eql rfl _ _ rfl rfl (by kernel_rfl) EQP.out) ?_))
  refine KE.out.mono ?_
  rintro e w8 ⟨rfl, k8⟩
  have B8 := Lib.hid (B.out.trans k8)
  have AW := Lib.hid (awake w8)
  clear k8
  go_wp2_with fail
  refine AW.out.mono ?_
  rintro e w9 ⟨rfl, k9⟩
  have B9 := Lib.hid (B8.out.trans k9)
  clear k9
  go_wp2
  go_ret
  exact ⟨rfl, B9.out⟩
end Vt
end Go.Proofs.Ytgalhpejihmhkaa
