/-
  The walk of the law VoteBack: it returns true. Conditions: roots have 32 bytes, tags are below 2^64; the table of turns lies in its variable.
-/
import Derived.Test.YtgalhpejihmhkaaDoorGVBk0
namespace Go.Proofs.YtgalhpejihmhkaaDoor
open Go.RowKit Go.Shelf
set_option linter.unusedVariables false
namespace Vt
open Kk

theorem chk_mk {v s t : Int} (b1 : 0 ≤ v ∧ v ≤ 31) (b2 : 0 ≤ s ∧ s ≤ 4294967296) (b3 : 0 ≤ t ∧ t ≤ 4294967296) : chkE v s t = 0 := by
  unfold chkE wthE
  rw [if_pos (by simp [okB]; omega)]
theorem chkB_mk {v s : Int} (b1 : 0 ≤ v ∧ v ≤ 31) (b2 : 1 ≤ s ∧ s ≤ 4294967296) : chkBE v s = 0 := by
  unfold chkBE wthE
  rw [if_pos (by simp [okB]; omega)]

set_option maxRecDepth 100000 in
set_option maxHeartbeats 16000000 in
theorem backLaw (v1 s1 t1 g1 : Int) (h1 : List Int) (v4 s4 g4 : Int) (h4 : List Int) (A : Option Addr) (n c : Nat) (zs : List Int) (tag : Int) (w : World)
    (f1 : attF v1 s1 t1 g1 h1) (f4 : propF v4 s4 g4 h4) (hz : Kk.Sl w A n c zs) (hy : By zs) (hm : c ≤ maxLen) (ft : 0 ≤ tag ∧ tag ≤ 18446744073709551615) (hT : Tn w) :
    Calls Tryd.prog 3 #[.agg (attC v1 s1 t1 h1 g1).toArray, .agg (propC v4 s4 h4 g4).toArray, .slice A n c, .int .u64 tag] w fun e w' => e = .returned (.bool true) ∧ Bel w w' := by
  obtain ⟨eA, hEA⟩ : ∃ x, x = errOf (attI v1 s1 t1 h1 ++ tagI g1) := ⟨_, rfl⟩
  obtain ⟨eP, hEP⟩ : ∃ x, x = errOf (propI v4 s4 h4 ++ tagI g4) := ⟨_, rfl⟩
  have BOA := Lib.hid (fun W => bytes v1 s1 t1 g1 h1 W f1.len f1.tag.1 f1.tag.2)
  have BOP := Lib.hid (fun W => bytesB v4 s4 g4 h4 W f4.len f4.tag.1 f4.tag.2)
  have HA := Lib.hid (fun he => att_half v1 s1 t1 g1 tag h1 f1 he)
  have HP := Lib.hid (fun he => prop_half v4 s4 g4 tag h4 f4 he)
  have GA := Lib.hid f1.tag
  have GP := Lib.hid f4.tag
  have NA := Lib.hid (neq_att v1 s1 t1 g1 h1 f1.len)
  have NP := Lib.hid (neq_prop v4 s4 g4 h4 f4.len)
  obtain ⟨CA, hCA⟩ : ∃ D, D = attC v1 s1 t1 h1 g1 := ⟨_, rfl⟩
  have lA := Lib.hid (show CA.length = 36 by rw [hCA]; exact len_attC f1.len v1 s1 t1 g1)
  have iA := Lib.hid (show (Tryd.prog.info? 26).map (·.size) = some CA.length by rw [lA.out]; exact info_att)
  have sA := Lib.hid (show CA.toArray.size = 36 by rw [List.size_toArray]; exact lA.out)
  have oA := Lib.hid (all_oneCell_toArray (cs := CA) (by rw [hCA]; exact att_cells _ _ _ _ _))
  have jA := Lib.hid (show (Tryd.prog.info? 26).map (·.size) = some CA.toArray.size by rw [sA.out]; exact info_att)
  obtain ⟨CO, hCO⟩ : ∃ D, D = attC v1 s1 t1 h1 tag := ⟨_, rfl⟩
  have lCO := Lib.hid (show CO.length = 36 by rw [hCO]; exact len_attC f1.len v1 s1 t1 tag)
  have iCO := Lib.hid (show (Tryd.prog.info? 26).map (·.size) = some CO.length by rw [lCO.out]; exact info_att)
  obtain ⟨CP, hCP⟩ : ∃ D, D = propC v4 s4 h4 g4 := ⟨_, rfl⟩
  have lP := Lib.hid (show CP.length = 35 by rw [hCP]; exact len_propC f4.len v4 s4 g4)
  have iP := Lib.hid (show (Tryd.prog.info? 28).map (·.size) = some CP.length by rw [lP.out]; exact info_prop)
  have sP := Lib.hid (show CP.toArray.size = 35 by rw [List.size_toArray]; exact lP.out)
  have oP := Lib.hid (all_oneCell_toArray (cs := CP) (by rw [hCP]; exact prop_cells _ _ _ _))
  have jP := Lib.hid (show (Tryd.prog.info? 28).map (·.size) = some CP.toArray.size by rw [sP.out]; exact info_prop)
  obtain ⟨CK, hCK⟩ : ∃ D, D = propC v4 s4 h4 tag := ⟨_, rfl⟩
  have lCK := Lib.hid (show CK.length = 35 by rw [hCK]; exact len_propC f4.len v4 s4 tag)
  have iCK := Lib.hid (show (Tryd.prog.info? 28).map (·.size) = some CK.length by rw [lCK.out]; exact info_prop)
  have TA := Lib.hid (show CA.toArray.setIfInBounds 35 (.int .u64 tag) = CO.toArray by rw [hCA, hCO]; exact att_tag v1 s1 t1 g1 tag h1 f1.len)
  have TP := Lib.hid (show CP.toArray.setIfInBounds 34 (.int .u64 tag) = CK.toArray by rw [hCP, hCK]; exact prop_tag v4 s4 g4 tag h4 f4.len)
  have dA := Lib.hid (show CA[35]? = some (.int .u64 g1) by rw [hCA]; simp [attC, f1.len])
  have dP := Lib.hid (show CP[34]? = some (.int .u64 g4) by rw [hCP]; simp [propC, f4.len])
  -- the votes that come of a fault
  obtain ⟨zAL, hzA⟩ : ∃ D, D = zA' := ⟨_, rfl⟩
  obtain ⟨zPL, hzP⟩ : ∃ D, D = zP' := ⟨_, rfl⟩
  have lzA := Lib.hid (show zAL.length = 36 by rw [hzA]; rfl)
  have lzP := Lib.hid (show zPL.length = 35 by rw [hzP]; rfl)
  have ozA := Lib.hid (all_oneCell_toArray (cs := zAL) (by rw [hzA]; exact att_cells _ _ _ _ _))
  have ozP := Lib.hid (all_oneCell_toArray (cs := zPL) (by rw [hzP]; exact prop_cells _ _ _ _))
  have jzA := Lib.hid (show (Tryd.prog.info? 26).map (·.size) = some zAL.toArray.size by rw [List.size_toArray, lzA.out]; exact info_att)
  have jzP := Lib.hid (show (Tryd.prog.info? 28).map (·.size) = some zPL.toArray.size by rw [List.size_toArray, lzP.out]; exact info_prop)
  rw [← hCA] at BOA NA
  rw [← hCP] at BOP NP
  rw [← hCA, ← hCO, ← hzP] at HA
  rw [← hCP, ← hCK, ← hzA] at HP
  rw [← hEA] at BOA
  rw [← hEP] at BOP
  rw [← hCA, ← hCP]
  have HEA := Lib.hid hEA
  have HEP := Lib.hid hEP
  have IF := Lib.hid (show (Tryd.prog.info? 35).map (·.size) = some ([Value.int .i64 0, .int .i64 0] : List Value).length from info_fault)
  have BF := Lib.hid (show ∀ W, (Instr.build 35 #[]).run Tryd.prog W = .ok (.agg #[.int .i64 0, .int .i64 0]) W from fun W => by kernel_rfl)
  have NF := Lib.hid (show ∀ W, (binOp .neq 35 (.agg #[.int .i64 0, .int .i64 0]) (.agg #[.int .i64 0, .int .i64 0])).run Tryd.prog W = .ok (.bool false) W from fun W => neq_fault 0 0 0 0 W)
  have NG := Lib.hid (show ∀ W, (binOp .eql 35 (.agg #[.int .i64 3, .int .i64 0]) (.agg #[.int .i64 0, .int .i64 0])).run Tryd.prog W = .ok (.bool false) W from fun W => eql_fault 3 0 0 0 W)
  clear hCA hCP hCO hCK hzA hzP hEA hEP f1 f4
  obtain ⟨bA, hbA⟩ : ∃ b, b = w.heap.size + 0 := ⟨_, rfl⟩
  obtain ⟨bP, hbP⟩ : ∃ b, b = w.heap.size + 1 := ⟨_, rfl⟩
  obtain ⟨W1, hWA⟩ : ∃ W, w.alloc (.cells CA.toArray 26) = W := ⟨_, rfl⟩
  have zA0 : W1.heap.size = w.heap.size + 1 := by rw [← hWA]; simp
  have kA : Bel w W1 := by rw [← hWA]; exact (Bel.refl _).alloc _
  have mA : Blk W1 bA CA.toArray 26 := by rw [← hWA, show bA = w.heap.size by omega]; exact Blk.new _ _ _
  obtain ⟨W, hWP⟩ : ∃ W, W1.alloc (.cells CP.toArray 28) = W := ⟨_, rfl⟩
  have kP : Bel W1 W := by rw [← hWP]; exact (Bel.refl _).alloc _
  have mP : Blk W bP CP.toArray 28 := by rw [← hWP, show bP = W1.heap.size by omega]; exact Blk.new _ _ _
  have LA := Lib.hid (Blk.bel mA kP)
  have LP := Lib.hid mP
  have HZ := Lib.hid (hz.bel (kA.trans kP))
  have B00 := Lib.hid (kA.trans kP)
  have HT := Lib.hid (show ∀ X, Bel W X → Tn X from fun X hX => hT.bel (B00.out.trans hX))
  have XA := Lib.hid (show w.heap.size = bA by omega)
  have EA := Lib.hid hWA
  have XP := Lib.hid (show w.heap.size + 1 = bP by omega)
  have EP := Lib.hid hWP
  clear hbA hWA zA0 kA mA hbP hWP kP mP hT hz
  go_enter Tryd.func3, Tryd.ntmps3
  go_upto_region 1 with fail
  rw [XP.out, XA.out, EA.out, EP.out]
  have KN := Lib.hid (knownLaw W (HT.out W (Bel.refl W)))
  go_wp2_with fail
  refine KN.out.mono ?_
  rintro e wk ⟨rfl, k1⟩
  have B := Lib.hid (show Bel W wk from k1)
  have LA := Lib.hid (Blk.bel LA.out k1)
  have LP := Lib.hid (Blk.bel LP.out k1)
  have HZ := Lib.hid (HZ.out.bel k1)
  clear k1 KN XA XP EA EP
  go_upto_region 2 with fail
  have RX := Lib.hid (range_blk LA.out)
  go_wp2_with (refine wpList_load_mid rfl 26 (.tmp 4) rfl bA 0 rfl CA _ RX.out Tryd.underlying26 rfl iA.out ?_)
  refine (BOA.out _).mono ?_
  rintro e wA0 ⟨u, rfl, hr⟩
  have ER := Lib.hid hr
  have k0 := hr.1
  have LA := Lib.hid (Blk.bel LA.out k0)
  have LP := Lib.hid (Blk.bel LP.out k0)
  have HZ := Lib.hid (HZ.out.bel k0)
  have B := Lib.hid (B.out.trans k0)
  clear hr k0 RX
  go_upto_if 49 with fail
  go_cut [] (fun wy => Bel wA0 wy)
  case first =>
    by_cases h0 : eA = 0
    case neg =>
      go_wp2_with fail
      go_meet
      exact Bel.refl _
    case pos =>
      as_aux_lemma =>
        have HF := HA.out (HEA.out.symm.trans h0)
        have hg : 0 ≤ g1 ∧ g1 ≤ 18446744073709551615 := GA.out
        obtain ⟨K, L, pre, xs, Y, hLK, hK0, hL1, hxl, hpl, hxs, hown, hY, hYo, ra, rb, dg, do_, sm, nh⟩ := HF
        subst h0
        obtain ⟨gg, c1, rfl, hc1, hc2, ho⟩ := hown _ _ _ ER.out
        have OW := Lib.hid ho
        have KW := Lib.hid (Bel.refl wA0)
        have RD1 := Lib.hid ra
        have RD2 := Lib.hid rb
        have DG := Lib.hid dg
        have DO := Lib.hid do_
        have SM := Lib.hid sm
        have NH := Lib.hid nh
        have HL := Lib.hid (show L ≤ c1 ∧ c1 ≤ maxLen ∧ K ≤ L ∧ 0 < c1 ∧ L ≤ 1000 from ⟨hc1, hc2, by omega, by omega, hL1⟩)
        have N1 := Lib.hid hY
        have s1' : Y.toArray.size = 32 := by rw [List.size_toArray]; exact hY
        have O1 := Lib.hid (all_oneCell_toArray (cs := Y) hYo)
        have I1 := Lib.hid (show (Tryd.prog.info? 23).map (·.size) = some Y.toArray.size by rw [s1']; exact info_hash)
        have J1 := Lib.hid (show (Tryd.prog.info? 23).map (·.size) = some Y.length by rw [hY]; exact info_hash)
        have SZ := Lib.hid (fun W => Cd.size g1 W hg.1 hg.2)
        obtain ⟨G, hG⟩ : ∃ G, G = (Cd.enc g1).length := ⟨_, rfl⟩
        rw [← hG] at SZ hLK
        have EK := Lib.hid (show IntKind.i64.wrap ((L : Int) - (G : Int)) = (K : Int) by
          rw [show (L : Int) - (G : Int) = (K : Int) by omega]
          exact IntWalk.i64_in _ (by omega))
        clear hLK hK0 hL1 hxl hpl hxs hown hY hYo ra rb dg do_ sm nh hc1 hc2 ho s1' ER hG hg
        go_wp2_with fail
        refine (RD1.out _ _ _ _ OW.out).mono ?_
        rintro e wya ⟨rfl, k3⟩
        have k3 : Bel _ wya := k3
        have LA := Lib.hid (Blk.bel LA.out k3)
        have LP := Lib.hid (Blk.bel LP.out k3)
        have HZ := Lib.hid (HZ.out.bel k3)
        have B := Lib.hid (B.out.trans k3)
        have OW := Lib.hid (owns_bel OW.out k3)
        have KW := Lib.hid (KW.out.trans k3)
        clear k3
        obtain ⟨Wy1, hW1⟩ : ∃ x, wya.alloc Zr36 = x := ⟨_, rfl⟩
        obtain ⟨Wy2, hW2⟩ : ∃ x, Wy1.alloc (.cells #[.int .i64 0, .int .i64 0] 35) = x := ⟨_, rfl⟩
        have q1 : Bel wya Wy1 := by rw [← hW1]; exact (Bel.refl _).alloc _
        have q2 : Bel Wy1 Wy2 := by rw [← hW2]; exact (Bel.refl _).alloc _
        have z1 : Wy1.heap.size = wya.heap.size + 1 := by rw [← hW1]; simp
        obtain ⟨ay, ha⟩ : ∃ a, a = wya.heap.size := ⟨_, rfl⟩
        have X := Lib.hid (show Bx 26 wya Wy2 ay zA' 0 0 from
          ⟨(show Blk Wy1 ay (zA').toArray 26 by rw [← hW1, ha]; exact Blk.new wya _ _).bel q2, by rw [← hW2, ha, ← z1]; exact Blk.new Wy1 _ _, q1.trans q2, ha.symm⟩)
        have HW1 := Lib.hid hW1
        have HW2 := Lib.hid hW2
        have HA1 := Lib.hid ha
        have TH := Lib.hid (show Wy2.there ay 0 CA.toArray.size by rw [show CA.toArray.size = 36 by rw [List.size_toArray]; exact lA.out]; exact X.out.blk.there 0 36 (Nat.le_refl _))
        have y0 : (Wy2.setCells ay 0 CA).cell? ⟨ay + 1, 0, none⟩ = some (.int .i64 0) := (X.out.whole (vs := CA) (by rw [lA.out]; rfl)).flt.cell 0 rfl
        have y1 : (Wy2.setCells ay 0 CA).cell? ⟨ay + 1, 1, none⟩ = some (.int .i64 0) := (X.out.whole (vs := CA) (by rw [lA.out]; rfl)).flt.cell 1 rfl
        have x0 : (Wy2.setCells ay 0 CA).frozen? ⟨ay + 1, 0, none⟩ = false := (X.out.whole (vs := CA) (by rw [lA.out]; rfl)).flt.frozen 0
        have x1 : (Wy2.setCells ay 0 CA).frozen? ⟨ay + 1, 1, none⟩ = false := (X.out.whole (vs := CA) (by rw [lA.out]; rfl)).flt.frozen 1
        clear hW1 hW2 ha q1 q2 z1
        go_upto_region 5 with (rw [HW1.out, HW2.out, ← HA1.out]; refine wpList_store_mid rfl 26 (.tmp 12) (.tmp 53) rfl ay 0 CA.toArray rfl rfl TH.out jA.out oA.out ?_)
        obtain ⟨wyb, hw⟩ : ∃ x, ((Wy2.setCells ay 0 CA).setCell ⟨ay + 1, 0, none⟩ (.int .i64 0)).setCell ⟨ay + 1, 1, none⟩ (.int .i64 0) = x := ⟨_, rfl⟩
        have X := Lib.hid (show Bx 26 wya wyb ay CA 0 0 by rw [← hw]; exact (X.out.whole (vs := CA) (by rw [lA.out]; rfl)).fault 0 0)
        rw [hw]
        clear hw y0 y1 x0 x1 TH HW1 HW2 HA1
        have LA := Lib.hid (Blk.bel LA.out X.out.bel)
        have LP := Lib.hid (Blk.bel LP.out X.out.bel)
        have HZ := Lib.hid (HZ.out.bel X.out.bel)
        have B := Lib.hid (B.out.trans X.out.bel)
        have OW := Lib.hid (owns_bel OW.out X.out.bel)
        have KW := Lib.hid (KW.out.trans X.out.bel)
        have Ly := Lib.hid X.out.blk
        have Fy := Lib.hid X.out.flt
        clear X
        go_wp2_with fail
        refine (RD2.out _ _ _ _ OW.out).mono ?_
        rintro e wza ⟨rfl, k3⟩
        have k3 : Bel _ wza := k3
        have LA := Lib.hid (Blk.bel LA.out k3)
        have LP := Lib.hid (Blk.bel LP.out k3)
        have HZ := Lib.hid (HZ.out.bel k3)
        have B := Lib.hid (B.out.trans k3)
        have OW := Lib.hid (owns_bel OW.out k3)
        have KW := Lib.hid (KW.out.trans k3)
        have Ly := Lib.hid (Blk.bel Ly.out k3)
        have Fy := Lib.hid (Blk.bel Fy.out k3)
        clear k3
        obtain ⟨Wz1, hW1⟩ : ∃ x, wza.alloc Zr35 = x := ⟨_, rfl⟩
        obtain ⟨Wz2, hW2⟩ : ∃ x, Wz1.alloc (.cells #[.int .i64 0, .int .i64 0] 35) = x := ⟨_, rfl⟩
        have q1 : Bel wza Wz1 := by rw [← hW1]; exact (Bel.refl _).alloc _
        have q2 : Bel Wz1 Wz2 := by rw [← hW2]; exact (Bel.refl _).alloc _
        have z1 : Wz1.heap.size = wza.heap.size + 1 := by rw [← hW1]; simp
        obtain ⟨az, ha⟩ : ∃ a, a = wza.heap.size := ⟨_, rfl⟩
        have X := Lib.hid (show Bx 28 wza Wz2 az zP' 0 0 from
          ⟨(show Blk Wz1 az (zP').toArray 28 by rw [← hW1, ha]; exact Blk.new wza _ _).bel q2, by rw [← hW2, ha, ← z1]; exact Blk.new Wz1 _ _, q1.trans q2, ha.symm⟩)
        have HW1 := Lib.hid hW1
        have HW2 := Lib.hid hW2
        have HA1 := Lib.hid ha
        have TH := Lib.hid (show Wz2.there az 0 zPL.toArray.size by rw [show zPL.toArray.size = 35 by rw [List.size_toArray]; exact lzP.out]; exact X.out.blk.there 0 35 (Nat.le_refl _))
        have y0 : (Wz2.setCells az 0 zPL).cell? ⟨az + 1, 0, none⟩ = some (.int .i64 0) := (X.out.whole (vs := zPL) (by rw [lzP.out]; rfl)).flt.cell 0 rfl
        have y1 : (Wz2.setCells az 0 zPL).cell? ⟨az + 1, 1, none⟩ = some (.int .i64 0) := (X.out.whole (vs := zPL) (by rw [lzP.out]; rfl)).flt.cell 1 rfl
        have x0 : (Wz2.setCells az 0 zPL).frozen? ⟨az + 1, 0, none⟩ = false := (X.out.whole (vs := zPL) (by rw [lzP.out]; rfl)).flt.frozen 0
        have x1 : (Wz2.setCells az 0 zPL).frozen? ⟨az + 1, 1, none⟩ = false := (X.out.whole (vs := zPL) (by rw [lzP.out]; rfl)).flt.frozen 1
        clear hW1 hW2 ha q1 q2 z1
        go_upto_region 6 with (rw [HW1.out, HW2.out, ← HA1.out]; refine wpList_store_mid rfl 28 (.tmp 14) (.tmp 58) rfl az 0 zPL.toArray rfl rfl TH.out jzP.out ozP.out ?_)
        obtain ⟨wzb, hw⟩ : ∃ x, ((Wz2.setCells az 0 zPL).setCell ⟨az + 1, 0, none⟩ (.int .i64 3)).setCell ⟨az + 1, 1, none⟩ (.int .i64 0) = x := ⟨_, rfl⟩
        have X := Lib.hid (show Bx 28 wza wzb az zPL 3 0 by rw [← hw]; exact (X.out.whole (vs := zPL) (by rw [lzP.out]; rfl)).fault 3 0)
        rw [hw]
        clear hw y0 y1 x0 x1 TH HW1 HW2 HA1
        have LA := Lib.hid (Blk.bel LA.out X.out.bel)
        have LP := Lib.hid (Blk.bel LP.out X.out.bel)
        have HZ := Lib.hid (HZ.out.bel X.out.bel)
        have B := Lib.hid (B.out.trans X.out.bel)
        have OW := Lib.hid (owns_bel OW.out X.out.bel)
        have KW := Lib.hid (KW.out.trans X.out.bel)
        have Ly := Lib.hid (Blk.bel Ly.out X.out.bel)
        have Fy := Lib.hid (Blk.bel Fy.out X.out.bel)
        have Lz := Lib.hid X.out.blk
        have Fz := Lib.hid X.out.flt
        clear X
        obtain ⟨bT, hbT⟩ : ∃ b, b = wzb.heap.size := ⟨_, rfl⟩
        have NT := Lib.hid (new_there wzb zA' CA 26 (by rw [lA.out]; rfl))
        obtain ⟨n1, n2⟩ := lie_new wzb wzb (Bel.refl _) zA' CA 26 (by rw [lA.out]; rfl)
        rw [← hbT] at n1
        obtain ⟨w4, hw4⟩ : ∃ x, (wzb.alloc Z36).setCells bT 0 CA = x := ⟨_, rfl⟩
        have n1 : Lie wzb w4 bT CA 26 := by rw [← hw4]; exact n1
        have n2 : Bel wzb w4 := by rw [← hw4, hbT]; exact n2
        have RX := Lib.hid (range_blk LA.out)
        have HbT := Lib.hid hbT
        have Hw4 := Lib.hid hw4
        clear hbT hw4
        go_upto_region 7 with (first
          | (refine wpList_load_mid rfl 26 (.tmp 4) rfl bA 0 rfl CA _ RX.out Tryd.underlying26 rfl iA.out ?_)
          | (refine wpList_store_mid rfl 26 (.tmp 16) (.tmp 60) rfl wzb.heap.size 0 CA.toArray rfl rfl NT.out jA.out oA.out ?_))
        rw [← HbT.out, Hw4.out]
        obtain ⟨w5, hw5⟩ : ∃ x, w4.setCell ⟨bT, 35, none⟩ (.int .u64 tag) = x := ⟨_, rfl⟩
        have LT := Lib.hid (show Blk w5 bT CO.toArray 26 by rw [← hw5]; exact (n1.set 35 _ TA.out).blk)
        have k5 : Bel wzb w5 := by rw [← hw5]; exact Kep.bel n2 (kset 35 _) (fun i hi => by have := HbT.out; omega)
        have c0 : w4.cell? ⟨bT, 35, none⟩ = some (.int .u64 g1) := n1.blk.cell 35 (by rw [List.getElem?_toArray]; exact dA.out)
        have f0 : w4.frozen? ⟨bT, 35, none⟩ = false := n1.blk.frozen 35
        have Hw5 := Lib.hid hw5
        have LA := Lib.hid (Blk.bel LA.out k5)
        have LP := Lib.hid (Blk.bel LP.out k5)
        have HZ := Lib.hid (HZ.out.bel k5)
        have B := Lib.hid (B.out.trans k5)
        have OW := Lib.hid (owns_bel OW.out k5)
        have KW := Lib.hid (KW.out.trans k5)
        have Ly := Lib.hid (Blk.bel Ly.out k5)
        have Fy := Lib.hid (Blk.bel Fy.out k5)
        have Lz := Lib.hid (Blk.bel Lz.out k5)
        have Fz := Lib.hid (Blk.bel Fz.out k5)
        clear n1 n2 k5 hw5 NT RX HbT Hw4
        go_upto_region 8 with fail
        rw [Hw5.out]
        clear c0 f0 Hw5
        have RX := Lib.hid (range_blk LA.out)
        go_wp2_with (refine wpList_load_mid rfl 26 (.tmp 4) rfl bA 0 rfl CA _ RX.out Tryd.underlying26 rfl iA.out ?_)
        refine (DG.out _ (HT.out _ B.out)).mono ?_
        rintro e vD ⟨rfl, m2⟩
        have m2 : Bel w5 vD := m2
        obtain ⟨m3, m4⟩ := lie_new vD vD (Bel.refl _) zH' Y 23 (by rw [N1.out]; rfl)
        have TH := Lib.hid (new_there vD zH' Y 23 (by rw [N1.out]; rfl))
        have MM := Lib.hid (m2.trans m4)
        have MQ := Lib.hid m3.blk
        clear m2 m3 m4 RX
        go_upto_region 9 with (refine wpList_store_mid rfl 23 (.tmp 17) (.tmp 66) rfl vD.heap.size 0 Y.toArray rfl rfl TH.out I1.out O1.out ?_)
        obtain ⟨wD, hw⟩ : ∃ x, (vD.alloc Z32h).setCells vD.heap.size 0 Y = x := ⟨_, rfl⟩
        obtain ⟨qd, hq⟩ : ∃ q, q = vD.heap.size := ⟨_, rfl⟩
        have MM := Lib.hid (show Bel w5 wD by rw [← hw]; exact MM.out)
        have QD := Lib.hid (show Blk wD qd Y.toArray 23 by rw [← hw, hq]; exact MQ.out)
        rw [hw, ← hq]
        clear hw hq TH MQ
        have LA := Lib.hid (Blk.bel LA.out MM.out)
        have LP := Lib.hid (Blk.bel LP.out MM.out)
        have HZ := Lib.hid (HZ.out.bel MM.out)
        have B := Lib.hid (B.out.trans MM.out)
        have OW := Lib.hid (owns_bel OW.out MM.out)
        have KW := Lib.hid (KW.out.trans MM.out)
        have Ly := Lib.hid (Blk.bel Ly.out MM.out)
        have Fy := Lib.hid (Blk.bel Fy.out MM.out)
        have Lz := Lib.hid (Blk.bel Lz.out MM.out)
        have Fz := Lib.hid (Blk.bel Fz.out MM.out)
        have LT := Lib.hid (Blk.bel LT.out MM.out)
        clear MM
        have RX := Lib.hid (range_blk LT.out)
        go_wp2_with (refine wpList_load_mid rfl 26 (.tmp 16) rfl bT 0 rfl CO _ RX.out Tryd.underlying26 rfl iCO.out ?_)
        refine (DO.out _ (HT.out _ B.out)).mono ?_
        rintro e vO ⟨rfl, m2⟩
        have m2 : Bel wD vO := m2
        obtain ⟨m3, m4⟩ := lie_new vO vO (Bel.refl _) zH' Y 23 (by rw [N1.out]; rfl)
        have TH := Lib.hid (new_there vO zH' Y 23 (by rw [N1.out]; rfl))
        have MM := Lib.hid (m2.trans m4)
        have MQ := Lib.hid m3.blk
        clear m2 m3 m4 RX
        go_upto_region 10 with (refine wpList_store_mid rfl 23 (.tmp 19) (.tmp 71) rfl vO.heap.size 0 Y.toArray rfl rfl TH.out I1.out O1.out ?_)
        obtain ⟨wO, hw⟩ : ∃ x, (vO.alloc Z32h).setCells vO.heap.size 0 Y = x := ⟨_, rfl⟩
        obtain ⟨qo, hq⟩ : ∃ q, q = vO.heap.size := ⟨_, rfl⟩
        have MM := Lib.hid (show Bel wD wO by rw [← hw]; exact MM.out)
        have QO := Lib.hid (show Blk wO qo Y.toArray 23 by rw [← hw, hq]; exact MQ.out)
        rw [hw, ← hq]
        clear hw hq TH MQ
        have LA := Lib.hid (Blk.bel LA.out MM.out)
        have LP := Lib.hid (Blk.bel LP.out MM.out)
        have HZ := Lib.hid (HZ.out.bel MM.out)
        have B := Lib.hid (B.out.trans MM.out)
        have OW := Lib.hid (owns_bel OW.out MM.out)
        have KW := Lib.hid (KW.out.trans MM.out)
        have Ly := Lib.hid (Blk.bel Ly.out MM.out)
        have Fy := Lib.hid (Blk.bel Fy.out MM.out)
        have Lz := Lib.hid (Blk.bel Lz.out MM.out)
        have Fz := Lib.hid (Blk.bel Fz.out MM.out)
        have LT := Lib.hid (Blk.bel LT.out MM.out)
        have QD := Lib.hid (Blk.bel QD.out MM.out)
        clear MM
        have c0 : wO.cell? ⟨bA, 35, none⟩ = some (.int .u64 g1) := LA.out.cell 35 (by rw [List.getElem?_toArray]; exact dA.out)
        go_wp2_with fail
        refine (SZ.out _).mono ?_
        rintro e w9 ⟨rfl, k9⟩
        have k9 : Bel wO w9 := k9
        clear c0
        have LA := Lib.hid (Blk.bel LA.out k9)
        have LP := Lib.hid (Blk.bel LP.out k9)
        have HZ := Lib.hid (HZ.out.bel k9)
        have B := Lib.hid (B.out.trans k9)
        have OW := Lib.hid (owns_bel OW.out k9)
        have KW := Lib.hid (KW.out.trans k9)
        have Ly := Lib.hid (Blk.bel Ly.out k9)
        have Fy := Lib.hid (Blk.bel Fy.out k9)
        have Lz := Lib.hid (Blk.bel Lz.out k9)
        have Fz := Lib.hid (Blk.bel Fz.out k9)
        have LT := Lib.hid (Blk.bel LT.out k9)
        have QD := Lib.hid (Blk.bel QD.out k9)
        have QO := Lib.hid (Blk.bel QO.out k9)
        clear k9
        have ek := EK.out
        go_upto_region 11 with fail
        clear ek
        have kn : ¬ (K : Int) < 0 := by omega
        have SL := Lib.hid (sliceN gg L K c1 HL.out.2.2.1 HL.out.1 HL.out.2.2.2.1)
        have SS := Lib.hid (show ∀ V, Bel w9 V → Calls Tryd.prog 10 #[.slice (some ⟨gg, 0, none⟩) K c1] V fun e w' => e = .returned (.agg Y.toArray) ∧ Bel V w' from fun V hV => SM.out V _ gg c1 (owns_bel OW.out hV) HL.out.1 HL.out.2.1 (HT.out _ (B.out.trans hV)))
        have S0d : (fun V => Bel w9 V) w9.drew := (Bel.refl w9).drew
        have uF := Tryd.underlying35
        have uH := Tryd.underlying23
        have uX := Tryd.underlying26
        have iF := IF.out
        have iH := J1.out
        have iX := iA.out
        refine wp_region_held_drew (S := fun V => Bel w9 V) (by kernel_rfl) S0d (fun hS0 => ?_)
        obtain ⟨w10, hw10⟩ : ∃ x, w9.drew = x := ⟨_, rfl⟩
        rw [hw10] at hS0 ⊢
        clear hw10 S0d
        refine wpAnyH_take (i := 0) (oi := { dst := some 79, op := .load 35 (.tmp 13), type := 35, pos := "outright.go:73", after := #[], guard := none }) (v := .agg #[.int .i64 0, .int .i64 0]) rfl (by kernel_rfl) (by kernel_rfl) (by kernel_rfl) (fun _ _ _ h => h) (yieldsIf_load_mid (by rfl) _ _ rfl _ _ rfl _ _ (fun w h => range_blk (Blk.bel Fy.out h)) uF rfl iF) hS0 ?_
        try simp only [Act.put, List.setIfInBounds_toArray, List.set_cons_zero, List.set_cons_succ]
        refine wpAnyH_take (i := 1) (oi := { dst := some 80, op := .build 35 #[], type := 35, pos := "outright.go:73", after := #[], guard := none }) (v := .agg #[.int .i64 0, .int .i64 0]) rfl (by kernel_rfl) (by kernel_rfl) (by kernel_rfl) (fun _ _ _ h => h) (Or.inl ⟨by rfl, by intro w h; have hcell := (BF.out w); clear h; go_simp⟩) hS0 ?_
        try simp only [Act.put, List.setIfInBounds_toArray, List.set_cons_zero, List.set_cons_succ]
        refine wpAnyH_take (i := 2) (oi := { dst := some 81, op := .binOp .neq 35 (.tmp 79) (.tmp 80) 35, type := 4, pos := "outright.go:73", after := #[{ on := 0, ground := .data }, { on := 1, ground := .data }], guard := none }) (v := .bool false) rfl (by kernel_rfl) (by kernel_rfl) (by kernel_rfl) (fun _ _ _ h => h) (Or.inl ⟨by rfl, by intro w h; have hcell := (NF.out w); clear h; go_simp⟩) hS0 ?_
        try simp only [Act.put, List.setIfInBounds_toArray, List.set_cons_zero, List.set_cons_succ]
        refine wpAnyH_take (i := 3) (oi := { dst := some 82, op := .move (.tmp 81), type := 4, pos := "outright.go:73", after := #[{ on := 2, ground := .data }], guard := none }) (v := .bool false) rfl (by kernel_rfl) (by kernel_rfl) (by kernel_rfl) (fun _ _ _ h => h) (Or.inl ⟨by rfl, by intro w hSw; clear hSw; go_simp⟩) hS0 ?_
        try simp only [Act.put, List.setIfInBounds_toArray, List.set_cons_zero, List.set_cons_succ]
        refine wpAnyH_take (i := 4) (oi := { dst := some 83, op := .load 26 (.tmp 12), type := 26, pos := "outright.go:73", after := #[{ on := 3, ground := .guard }], guard := some (3, false) }) (v := .agg CA.toArray) rfl (by kernel_rfl) (by kernel_rfl) (by kernel_rfl) (fun _ _ _ h => h) (yieldsIf_load_mid (by rfl) _ _ rfl _ _ rfl _ _ (fun w h => range_blk (Blk.bel Ly.out h)) uX rfl iX) hS0 ?_
        try simp only [Act.put, List.setIfInBounds_toArray, List.set_cons_zero, List.set_cons_succ]
        refine wpAnyH_take (i := 5) (oi := { dst := some 84, op := .load 26 (.tmp 4), type := 26, pos := "outright.go:73", after := #[{ on := 3, ground := .guard }], guard := some (3, false) }) (v := .agg CA.toArray) rfl (by kernel_rfl) (by kernel_rfl) (by kernel_rfl) (fun _ _ _ h => h) (yieldsIf_load_mid (by rfl) _ _ rfl _ _ rfl _ _ (fun w h => range_blk (Blk.bel LA.out h)) uX rfl iX) hS0 ?_
        try simp only [Act.put, List.setIfInBounds_toArray, List.set_cons_zero, List.set_cons_succ]
        refine wpAnyH_take (i := 6) (oi := { dst := some 85, op := .binOp .neq 26 (.tmp 83) (.tmp 84) 26, type := 4, pos := "outright.go:73", after := #[{ on := 4, ground := .data }, { on := 5, ground := .data }, { on := 3, ground := .guard }], guard := some (3, false) }) (v := .bool false) rfl (by kernel_rfl) (by kernel_rfl) (by kernel_rfl) (fun _ _ _ h => h) (Or.inl ⟨by rfl, fun w _ => exec_neq rfl _ _ rfl rfl (by kernel_rfl) NA.out w⟩) hS0 ?_
        try simp only [Act.put, List.setIfInBounds_toArray, List.set_cons_zero, List.set_cons_succ]
        refine wpAnyH_take (i := 7) (oi := { dst := some 86, op := .pick (.tmp 82) (.const (Value.bool true)) (.tmp 85), type := 4, pos := "outright.go:73", after := #[{ on := 3, ground := .data }, { on := 6, ground := .data }], guard := none }) (v := .bool false) rfl (by kernel_rfl) (by kernel_rfl) (by kernel_rfl) (fun _ _ _ h => h) (Or.inl ⟨by rfl, by intro w hSw; clear hSw; go_simp⟩) hS0 ?_
        try simp only [Act.put, List.setIfInBounds_toArray, List.set_cons_zero, List.set_cons_succ]
        refine wpAnyH_take (i := 8) (oi := { dst := some 87, op := .move (.tmp 86), type := 4, pos := "outright.go:73", after := #[{ on := 7, ground := .data }, { on := 3, ground := .chain }], guard := none }) (v := .bool false) rfl (by kernel_rfl) (by kernel_rfl) (by kernel_rfl) (fun _ _ _ h => h) (Or.inl ⟨by rfl, by intro w hSw; clear hSw; go_simp⟩) hS0 ?_
        try simp only [Act.put, List.setIfInBounds_toArray, List.set_cons_zero, List.set_cons_succ]
        refine wpAnyH_take (i := 9) (oi := { dst := some 88, op := .load 35 (.tmp 15), type := 35, pos := "outright.go:73", after := #[{ on := 8, ground := .guard }], guard := some (8, false) }) (v := .agg #[.int .i64 3, .int .i64 0]) rfl (by kernel_rfl) (by kernel_rfl) (by kernel_rfl) (fun _ _ _ h => h) (yieldsIf_load_mid (by rfl) _ _ rfl _ _ rfl _ _ (fun w h => range_blk (Blk.bel Fz.out h)) uF rfl iF) hS0 ?_
        try simp only [Act.put, List.setIfInBounds_toArray, List.set_cons_zero, List.set_cons_succ]
        refine wpAnyH_take (i := 10) (oi := { dst := some 89, op := .build 35 #[], type := 35, pos := "outright.go:73", after := #[{ on := 8, ground := .guard }], guard := some (8, false) }) (v := .agg #[.int .i64 0, .int .i64 0]) rfl (by kernel_rfl) (by kernel_rfl) (by kernel_rfl) (fun _ _ _ h => h) (Or.inl ⟨by rfl, by intro w h; have hcell := (BF.out w); clear h; go_simp⟩) hS0 ?_
        try simp only [Act.put, List.setIfInBounds_toArray, List.set_cons_zero, List.set_cons_succ]
        refine wpAnyH_take (i := 11) (oi := { dst := some 90, op := .binOp .eql 35 (.tmp 88) (.tmp 89) 35, type := 4, pos := "outright.go:73", after := #[{ on := 9, ground := .data }, { on := 10, ground := .data }, { on := 8, ground := .guard }], guard := some (8, false) }) (v := .bool false) rfl (by kernel_rfl) (by kernel_rfl) (by kernel_rfl) (fun _ _ _ h => h) (Or.inl ⟨by rfl, by intro w h; have hcell := (NG.out w); clear h; go_simp⟩) hS0 ?_
        try simp only [Act.put, List.setIfInBounds_toArray, List.set_cons_zero, List.set_cons_succ]
        refine wpAnyH_take (i := 12) (oi := { dst := some 91, op := .pick (.tmp 87) (.const (Value.bool true)) (.tmp 90), type := 4, pos := "outright.go:73", after := #[{ on := 8, ground := .data }, { on := 11, ground := .data }], guard := none }) (v := .bool false) rfl (by kernel_rfl) (by kernel_rfl) (by kernel_rfl) (fun _ _ _ h => h) (Or.inl ⟨by rfl, by intro w hSw; clear hSw; go_simp⟩) hS0 ?_
        try simp only [Act.put, List.setIfInBounds_toArray, List.set_cons_zero, List.set_cons_succ]
        refine wpAnyH_take (i := 13) (oi := { dst := some 92, op := .move (.tmp 91), type := 4, pos := "outright.go:73", after := #[{ on := 12, ground := .data }, { on := 8, ground := .chain }], guard := none }) (v := .bool false) rfl (by kernel_rfl) (by kernel_rfl) (by kernel_rfl) (fun _ _ _ h => h) (Or.inl ⟨by rfl, by intro w hSw; clear hSw; go_simp⟩) hS0 ?_
        try simp only [Act.put, List.setIfInBounds_toArray, List.set_cons_zero, List.set_cons_succ]
        refine wpAnyH_take (i := 14) (oi := { dst := some 93, op := .move (.tmp 21), type := 3, pos := "outright.go:73", after := #[{ on := 13, ground := .guard }], guard := some (13, false) }) (v := .int .i64 K) rfl (by kernel_rfl) (by kernel_rfl) (by kernel_rfl) (fun _ _ _ h => h) (Or.inl ⟨by rfl, by intro w hSw; clear hSw; go_simp⟩) hS0 ?_
        try simp only [Act.put, List.setIfInBounds_toArray, List.set_cons_zero, List.set_cons_succ]
        refine wpAnyH_take (i := 15) (oi := { dst := some 94, op := .binOp .lss 3 (.tmp 93) (.const (Value.int IntKind.i64 0)) 3, type := 4, pos := "outright.go:73", after := #[{ on := 14, ground := .data }, { on := 13, ground := .guard }], guard := some (13, false) }) (v := .bool false) rfl (by kernel_rfl) (by kernel_rfl) (by kernel_rfl) (fun _ _ _ h => h) (Or.inl ⟨by rfl, by intro w hSw; clear hSw; go_simp⟩) hS0 ?_
        try simp only [Act.put, List.setIfInBounds_toArray, List.set_cons_zero, List.set_cons_succ]
        refine wpAnyH_take (i := 16) (oi := { dst := some 95, op := .pick (.tmp 92) (.const (Value.bool true)) (.tmp 94), type := 4, pos := "outright.go:73", after := #[{ on := 13, ground := .data }, { on := 15, ground := .data }], guard := none }) (v := .bool false) rfl (by kernel_rfl) (by kernel_rfl) (by kernel_rfl) (fun _ _ _ h => h) (Or.inl ⟨by rfl, by intro w hSw; clear hSw; go_simp⟩) hS0 ?_
        try simp only [Act.put, List.setIfInBounds_toArray, List.set_cons_zero, List.set_cons_succ]
        refine wpAnyH_take (i := 17) (oi := { dst := some 96, op := .move (.tmp 95), type := 4, pos := "outright.go:73", after := #[{ on := 16, ground := .data }, { on := 13, ground := .chain }], guard := none }) (v := .bool false) rfl (by kernel_rfl) (by kernel_rfl) (by kernel_rfl) (fun _ _ _ h => h) (Or.inl ⟨by rfl, by intro w hSw; clear hSw; go_simp⟩) hS0 ?_
        try simp only [Act.put, List.setIfInBounds_toArray, List.set_cons_zero, List.set_cons_succ]
        refine wpAnyH_take (i := 18) (oi := { dst := some 97, op := .load 23 (.tmp 17), type := 23, pos := "outright.go:73", after := #[{ on := 17, ground := .guard }], guard := some (17, false) }) (v := .agg Y.toArray) rfl (by kernel_rfl) (by kernel_rfl) (by kernel_rfl) (fun _ _ _ h => h) (yieldsIf_load_mid (by rfl) _ _ rfl _ _ rfl _ _ (fun w h => range_blk (Blk.bel QD.out h)) uH rfl iH) hS0 ?_
        try simp only [Act.put, List.setIfInBounds_toArray, List.set_cons_zero, List.set_cons_succ]
        refine wpAnyH_take (i := 19) (oi := { dst := some 98, op := .move (.tmp 10), type := 29, pos := "outright.go:73", after := #[{ on := 17, ground := .guard }], guard := some (17, false) }) (v := .slice (some ⟨gg, 0, none⟩) L c1) rfl (by kernel_rfl) (by kernel_rfl) (by kernel_rfl) (fun _ _ _ h => h) (Or.inl ⟨by rfl, by intro w hSw; clear hSw; go_simp⟩) hS0 ?_
        try simp only [Act.put, List.setIfInBounds_toArray, List.set_cons_zero, List.set_cons_succ]
        refine wpAnyH_take (i := 20) (oi := { dst := some 99, op := .move (.tmp 21), type := 3, pos := "outright.go:73", after := #[{ on := 17, ground := .guard }], guard := some (17, false) }) (v := .int .i64 K) rfl (by kernel_rfl) (by kernel_rfl) (by kernel_rfl) (fun _ _ _ h => h) (Or.inl ⟨by rfl, by intro w hSw; clear hSw; go_simp⟩) hS0 ?_
        try simp only [Act.put, List.setIfInBounds_toArray, List.set_cons_zero, List.set_cons_succ]
        refine wpAnyH_take (i := 21) (oi := { dst := some 100, op := .slice 29 (.tmp 98) none (some (.tmp 99)) none, type := 29, pos := "outright.go:73", after := #[{ on := 19, ground := .data }, { on := 20, ground := .data }, { on := 17, ground := .guard }], guard := some (17, false) }) (v := .slice (some ⟨gg, 0, none⟩) K c1) rfl (by kernel_rfl) (by kernel_rfl) (by kernel_rfl) (fun _ _ _ h => h) (Or.inl ⟨by rfl, by intro w h; have hcell := (SL.out w); clear h; go_simp⟩) hS0 ?_
        try simp only [Act.put, List.setIfInBounds_toArray, List.set_cons_zero, List.set_cons_succ]
        refine wpAnyH_ready (rs := [22]) (by kernel_rfl) (by simp) ?_
        refine AllReadyH.cons (o := { dst := some 101, op := .call { callee := .value (.func 10), args := #[.tmp 100], argTypes := #[29] }, type := 23, pos := "outright.go:73", after := #[{ on := 21, ground := .data }, { on := 17, ground := .chain }, { on := 17, ground := .guard }], guard := some (17, false) }) rfl (fun K hK => ?_) AllReadyH.nil
        go_simp
        refine (SS.out _ hS0).mono ?_
        rintro e v1 ⟨rfl, kA⟩
        go_wp2_with fail
        refine hK.out _ _ (Bel.trans hS0 kA) (fun hS1 => ?_)
        clear hK K
        try simp only [Act.put, List.setIfInBounds_toArray, List.set_cons_zero, List.set_cons_succ]
        refine wpAnyH_take (i := 23) (oi := { dst := some 102, op := .binOp .neq 23 (.tmp 97) (.tmp 101) 23, type := 4, pos := "outright.go:73", after := #[{ on := 18, ground := .data }, { on := 22, ground := .data }, { on := 17, ground := .guard }], guard := some (17, false) }) (v := .bool false) rfl (by kernel_rfl) (by kernel_rfl) (by kernel_rfl) (fun _ _ _ h => h) (Or.inl ⟨by rfl, by intro w h; have hcell := (NH.out w); clear h; go_simp⟩) hS1 ?_
        try simp only [Act.put, List.setIfInBounds_toArray, List.set_cons_zero, List.set_cons_succ]
        refine wpAnyH_take (i := 24) (oi := { dst := some 103, op := .pick (.tmp 96) (.const (Value.bool true)) (.tmp 102), type := 4, pos := "outright.go:73", after := #[{ on := 17, ground := .data }, { on := 23, ground := .data }], guard := none }) (v := .bool false) rfl (by kernel_rfl) (by kernel_rfl) (by kernel_rfl) (fun _ _ _ h => h) (Or.inl ⟨by rfl, by intro w hSw; clear hSw; go_simp⟩) hS1 ?_
        try simp only [Act.put, List.setIfInBounds_toArray, List.set_cons_zero, List.set_cons_succ]
        refine wpAnyH_take (i := 25) (oi := { dst := some 104, op := .move (.tmp 103), type := 4, pos := "outright.go:73", after := #[{ on := 24, ground := .data }, { on := 22, ground := .chain }], guard := none }) (v := .bool false) rfl (by kernel_rfl) (by kernel_rfl) (by kernel_rfl) (fun _ _ _ h => h) (Or.inl ⟨by rfl, by intro w hSw; clear hSw; go_simp⟩) hS1 ?_
        try simp only [Act.put, List.setIfInBounds_toArray, List.set_cons_zero, List.set_cons_succ]
        refine wpAnyH_take (i := 26) (oi := { dst := some 105, op := .load 23 (.tmp 19), type := 23, pos := "outright.go:73", after := #[{ on := 25, ground := .guard }], guard := some (25, false) }) (v := .agg Y.toArray) rfl (by kernel_rfl) (by kernel_rfl) (by kernel_rfl) (fun _ _ _ h => h) (yieldsIf_load_mid (by rfl) _ _ rfl _ _ rfl _ _ (fun w h => range_blk (Blk.bel QO.out h)) uH rfl iH) hS1 ?_
        try simp only [Act.put, List.setIfInBounds_toArray, List.set_cons_zero, List.set_cons_succ]
        refine wpAnyH_take (i := 27) (oi := { dst := some 106, op := .load 23 (.tmp 17), type := 23, pos := "outright.go:73", after := #[{ on := 25, ground := .guard }], guard := some (25, false) }) (v := .agg Y.toArray) rfl (by kernel_rfl) (by kernel_rfl) (by kernel_rfl) (fun _ _ _ h => h) (yieldsIf_load_mid (by rfl) _ _ rfl _ _ rfl _ _ (fun w h => range_blk (Blk.bel QD.out h)) uH rfl iH) hS1 ?_
        try simp only [Act.put, List.setIfInBounds_toArray, List.set_cons_zero, List.set_cons_succ]
        refine wpAnyH_take (i := 28) (oi := { dst := some 107, op := .binOp .neq 23 (.tmp 105) (.tmp 106) 23, type := 4, pos := "outright.go:73", after := #[{ on := 26, ground := .data }, { on := 27, ground := .data }, { on := 25, ground := .guard }], guard := some (25, false) }) (v := .bool false) rfl (by kernel_rfl) (by kernel_rfl) (by kernel_rfl) (fun _ _ _ h => h) (Or.inl ⟨by rfl, by intro w h; have hcell := (NH.out w); clear h; go_simp⟩) hS1 ?_
        try simp only [Act.put, List.setIfInBounds_toArray, List.set_cons_zero, List.set_cons_succ]
        refine wpAnyH_take (i := 29) (oi := { dst := some 108, op := .pick (.tmp 104) (.const (Value.bool true)) (.tmp 107), type := 4, pos := "outright.go:73", after := #[{ on := 25, ground := .data }, { on := 28, ground := .data }], guard := none }) (v := .bool false) rfl (by kernel_rfl) (by kernel_rfl) (by kernel_rfl) (fun _ _ _ h => h) (Or.inl ⟨by rfl, by intro w hSw; clear hSw; go_simp⟩) hS1 ?_
        try simp only [Act.put, List.setIfInBounds_toArray, List.set_cons_zero, List.set_cons_succ]
        refine wpAnyH_done (by kernel_rfl) ?_ _
        go_wp2_with fail
        go_meet
        exact KW.out.trans hS1
  case rest =>
  obtain ⟨wdA, hwd⟩ : ∃ x, x = wc := ⟨_, rfl⟩
  rw [← hwd] at hcut ⊢
  clear hwd wc
  have hcut : Bel _ wdA := hcut
  have LA := Lib.hid (Blk.bel LA.out hcut)
  have LP := Lib.hid (Blk.bel LP.out hcut)
  have HZ := Lib.hid (HZ.out.bel hcut)
  have B := Lib.hid (B.out.trans hcut)
  clear hcut
  go_upto_region 13 with fail
  have RX := Lib.hid (range_blk LP.out)
  go_wp2_with (refine wpList_load_mid rfl 28 (.tmp 5) rfl bP 0 rfl CP _ RX.out Tryd.underlying28 rfl iP.out ?_)
  refine (BOP.out _).mono ?_
  rintro e wP0 ⟨u, rfl, hr⟩
  have ER := Lib.hid hr
  have k0 := hr.1
  have LA := Lib.hid (Blk.bel LA.out k0)
  have LP := Lib.hid (Blk.bel LP.out k0)
  have HZ := Lib.hid (HZ.out.bel k0)
  have B := Lib.hid (B.out.trans k0)
  clear hr k0 RX
  go_upto_if 115 with fail
  go_cut [] (fun wy => Bel wP0 wy)
  case first =>
    by_cases h0 : eP = 0
    case neg =>
      go_wp2_with fail
      go_meet
      exact Bel.refl _
    case pos =>
      as_aux_lemma =>
        have HF := HP.out (HEP.out.symm.trans h0)
        have hg : 0 ≤ g4 ∧ g4 ≤ 18446744073709551615 := GP.out
        obtain ⟨K, L, pre, xs, Y, hLK, hK0, hL1, hxl, hpl, hxs, hown, hY, hYo, ra, rb, dg, do_, sm, nh⟩ := HF
        subst h0
        obtain ⟨gg, c1, rfl, hc1, hc2, ho⟩ := hown _ _ _ ER.out
        have OW := Lib.hid ho
        have KW := Lib.hid (Bel.refl wP0)
        have RD1 := Lib.hid ra
        have RD2 := Lib.hid rb
        have DG := Lib.hid dg
        have DO := Lib.hid do_
        have SM := Lib.hid sm
        have NH := Lib.hid nh
        have HL := Lib.hid (show L ≤ c1 ∧ c1 ≤ maxLen ∧ K ≤ L ∧ 0 < c1 ∧ L ≤ 1000 from ⟨hc1, hc2, by omega, by omega, hL1⟩)
        have N1 := Lib.hid hY
        have s1' : Y.toArray.size = 32 := by rw [List.size_toArray]; exact hY
        have O1 := Lib.hid (all_oneCell_toArray (cs := Y) hYo)
        have I1 := Lib.hid (show (Tryd.prog.info? 23).map (·.size) = some Y.toArray.size by rw [s1']; exact info_hash)
        have J1 := Lib.hid (show (Tryd.prog.info? 23).map (·.size) = some Y.length by rw [hY]; exact info_hash)
        have SZ := Lib.hid (fun W => Cd.size g4 W hg.1 hg.2)
        obtain ⟨G, hG⟩ : ∃ G, G = (Cd.enc g4).length := ⟨_, rfl⟩
        rw [← hG] at SZ hLK
        have EK := Lib.hid (show IntKind.i64.wrap ((L : Int) - (G : Int)) = (K : Int) by
          rw [show (L : Int) - (G : Int) = (K : Int) by omega]
          exact IntWalk.i64_in _ (by omega))
        clear hLK hK0 hL1 hxl hpl hxs hown hY hYo ra rb dg do_ sm nh hc1 hc2 ho s1' ER hG hg
        go_wp2_with fail
        refine (RD1.out _ _ _ _ OW.out).mono ?_
        rintro e wya ⟨rfl, k3⟩
        have k3 : Bel _ wya := k3
        have LA := Lib.hid (Blk.bel LA.out k3)
        have LP := Lib.hid (Blk.bel LP.out k3)
        have HZ := Lib.hid (HZ.out.bel k3)
        have B := Lib.hid (B.out.trans k3)
        have OW := Lib.hid (owns_bel OW.out k3)
        have KW := Lib.hid (KW.out.trans k3)
        clear k3
        obtain ⟨Wy1, hW1⟩ : ∃ x, wya.alloc Zr35 = x := ⟨_, rfl⟩
        obtain ⟨Wy2, hW2⟩ : ∃ x, Wy1.alloc (.cells #[.int .i64 0, .int .i64 0] 35) = x := ⟨_, rfl⟩
        have q1 : Bel wya Wy1 := by rw [← hW1]; exact (Bel.refl _).alloc _
        have q2 : Bel Wy1 Wy2 := by rw [← hW2]; exact (Bel.refl _).alloc _
        have z1 : Wy1.heap.size = wya.heap.size + 1 := by rw [← hW1]; simp
        obtain ⟨ay, ha⟩ : ∃ a, a = wya.heap.size := ⟨_, rfl⟩
        have X := Lib.hid (show Bx 28 wya Wy2 ay zP' 0 0 from
          ⟨(show Blk Wy1 ay (zP').toArray 28 by rw [← hW1, ha]; exact Blk.new wya _ _).bel q2, by rw [← hW2, ha, ← z1]; exact Blk.new Wy1 _ _, q1.trans q2, ha.symm⟩)
        have HW1 := Lib.hid hW1
        have HW2 := Lib.hid hW2
        have HA1 := Lib.hid ha
        have TH := Lib.hid (show Wy2.there ay 0 CP.toArray.size by rw [show CP.toArray.size = 35 by rw [List.size_toArray]; exact lP.out]; exact X.out.blk.there 0 35 (Nat.le_refl _))
        have y0 : (Wy2.setCells ay 0 CP).cell? ⟨ay + 1, 0, none⟩ = some (.int .i64 0) := (X.out.whole (vs := CP) (by rw [lP.out]; rfl)).flt.cell 0 rfl
        have y1 : (Wy2.setCells ay 0 CP).cell? ⟨ay + 1, 1, none⟩ = some (.int .i64 0) := (X.out.whole (vs := CP) (by rw [lP.out]; rfl)).flt.cell 1 rfl
        have x0 : (Wy2.setCells ay 0 CP).frozen? ⟨ay + 1, 0, none⟩ = false := (X.out.whole (vs := CP) (by rw [lP.out]; rfl)).flt.frozen 0
        have x1 : (Wy2.setCells ay 0 CP).frozen? ⟨ay + 1, 1, none⟩ = false := (X.out.whole (vs := CP) (by rw [lP.out]; rfl)).flt.frozen 1
        clear hW1 hW2 ha q1 q2 z1
        go_upto_region 16 with (rw [HW1.out, HW2.out, ← HA1.out]; refine wpList_store_mid rfl 28 (.tmp 24) (.tmp 119) rfl ay 0 CP.toArray rfl rfl TH.out jP.out oP.out ?_)
        obtain ⟨wyb, hw⟩ : ∃ x, ((Wy2.setCells ay 0 CP).setCell ⟨ay + 1, 0, none⟩ (.int .i64 0)).setCell ⟨ay + 1, 1, none⟩ (.int .i64 0) = x := ⟨_, rfl⟩
        have X := Lib.hid (show Bx 28 wya wyb ay CP 0 0 by rw [← hw]; exact (X.out.whole (vs := CP) (by rw [lP.out]; rfl)).fault 0 0)
        rw [hw]
        clear hw y0 y1 x0 x1 TH HW1 HW2 HA1
        have LA := Lib.hid (Blk.bel LA.out X.out.bel)
        have LP := Lib.hid (Blk.bel LP.out X.out.bel)
        have HZ := Lib.hid (HZ.out.bel X.out.bel)
        have B := Lib.hid (B.out.trans X.out.bel)
        have OW := Lib.hid (owns_bel OW.out X.out.bel)
        have KW := Lib.hid (KW.out.trans X.out.bel)
        have Ly := Lib.hid X.out.blk
        have Fy := Lib.hid X.out.flt
        clear X
        go_wp2_with fail
        refine (RD2.out _ _ _ _ OW.out).mono ?_
        rintro e wza ⟨rfl, k3⟩
        have k3 : Bel _ wza := k3
        have LA := Lib.hid (Blk.bel LA.out k3)
        have LP := Lib.hid (Blk.bel LP.out k3)
        have HZ := Lib.hid (HZ.out.bel k3)
        have B := Lib.hid (B.out.trans k3)
        have OW := Lib.hid (owns_bel OW.out k3)
        have KW := Lib.hid (KW.out.trans k3)
        have Ly := Lib.hid (Blk.bel Ly.out k3)
        have Fy := Lib.hid (Blk.bel Fy.out k3)
        clear k3
        obtain ⟨Wz1, hW1⟩ : ∃ x, wza.alloc Zr36 = x := ⟨_, rfl⟩
        obtain ⟨Wz2, hW2⟩ : ∃ x, Wz1.alloc (.cells #[.int .i64 0, .int .i64 0] 35) = x := ⟨_, rfl⟩
        have q1 : Bel wza Wz1 := by rw [← hW1]; exact (Bel.refl _).alloc _
        have q2 : Bel Wz1 Wz2 := by rw [← hW2]; exact (Bel.refl _).alloc _
        have z1 : Wz1.heap.size = wza.heap.size + 1 := by rw [← hW1]; simp
        obtain ⟨az, ha⟩ : ∃ a, a = wza.heap.size := ⟨_, rfl⟩
        have X := Lib.hid (show Bx 26 wza Wz2 az zA' 0 0 from
          ⟨(show Blk Wz1 az (zA').toArray 26 by rw [← hW1, ha]; exact Blk.new wza _ _).bel q2, by rw [← hW2, ha, ← z1]; exact Blk.new Wz1 _ _, q1.trans q2, ha.symm⟩)
        have HW1 := Lib.hid hW1
        have HW2 := Lib.hid hW2
        have HA1 := Lib.hid ha
        have TH := Lib.hid (show Wz2.there az 0 zAL.toArray.size by rw [show zAL.toArray.size = 36 by rw [List.size_toArray]; exact lzA.out]; exact X.out.blk.there 0 36 (Nat.le_refl _))
        have y0 : (Wz2.setCells az 0 zAL).cell? ⟨az + 1, 0, none⟩ = some (.int .i64 0) := (X.out.whole (vs := zAL) (by rw [lzA.out]; rfl)).flt.cell 0 rfl
        have y1 : (Wz2.setCells az 0 zAL).cell? ⟨az + 1, 1, none⟩ = some (.int .i64 0) := (X.out.whole (vs := zAL) (by rw [lzA.out]; rfl)).flt.cell 1 rfl
        have x0 : (Wz2.setCells az 0 zAL).frozen? ⟨az + 1, 0, none⟩ = false := (X.out.whole (vs := zAL) (by rw [lzA.out]; rfl)).flt.frozen 0
        have x1 : (Wz2.setCells az 0 zAL).frozen? ⟨az + 1, 1, none⟩ = false := (X.out.whole (vs := zAL) (by rw [lzA.out]; rfl)).flt.frozen 1
        clear hW1 hW2 ha q1 q2 z1
        go_upto_region 17 with (rw [HW1.out, HW2.out, ← HA1.out]; refine wpList_store_mid rfl 26 (.tmp 26) (.tmp 124) rfl az 0 zAL.toArray rfl rfl TH.out jzA.out ozA.out ?_)
        obtain ⟨wzb, hw⟩ : ∃ x, ((Wz2.setCells az 0 zAL).setCell ⟨az + 1, 0, none⟩ (.int .i64 3)).setCell ⟨az + 1, 1, none⟩ (.int .i64 0) = x := ⟨_, rfl⟩
        have X := Lib.hid (show Bx 26 wza wzb az zAL 3 0 by rw [← hw]; exact (X.out.whole (vs := zAL) (by rw [lzA.out]; rfl)).fault 3 0)
        rw [hw]
        clear hw y0 y1 x0 x1 TH HW1 HW2 HA1
        have LA := Lib.hid (Blk.bel LA.out X.out.bel)
        have LP := Lib.hid (Blk.bel LP.out X.out.bel)
        have HZ := Lib.hid (HZ.out.bel X.out.bel)
        have B := Lib.hid (B.out.trans X.out.bel)
        have OW := Lib.hid (owns_bel OW.out X.out.bel)
        have KW := Lib.hid (KW.out.trans X.out.bel)
        have Ly := Lib.hid (Blk.bel Ly.out X.out.bel)
        have Fy := Lib.hid (Blk.bel Fy.out X.out.bel)
        have Lz := Lib.hid X.out.blk
        have Fz := Lib.hid X.out.flt
        clear X
        obtain ⟨bT, hbT⟩ : ∃ b, b = wzb.heap.size := ⟨_, rfl⟩
        have NT := Lib.hid (new_there wzb zP' CP 28 (by rw [lP.out]; rfl))
        obtain ⟨n1, n2⟩ := lie_new wzb wzb (Bel.refl _) zP' CP 28 (by rw [lP.out]; rfl)
        rw [← hbT] at n1
        obtain ⟨w4, hw4⟩ : ∃ x, (wzb.alloc Z35).setCells bT 0 CP = x := ⟨_, rfl⟩
        have n1 : Lie wzb w4 bT CP 28 := by rw [← hw4]; exact n1
        have n2 : Bel wzb w4 := by rw [← hw4, hbT]; exact n2
        have RX := Lib.hid (range_blk LP.out)
        have HbT := Lib.hid hbT
        have Hw4 := Lib.hid hw4
        clear hbT hw4
        go_upto_region 18 with (first
          | (refine wpList_load_mid rfl 28 (.tmp 5) rfl bP 0 rfl CP _ RX.out Tryd.underlying28 rfl iP.out ?_)
          | (refine wpList_store_mid rfl 28 (.tmp 28) (.tmp 126) rfl wzb.heap.size 0 CP.toArray rfl rfl NT.out jP.out oP.out ?_))
        rw [← HbT.out, Hw4.out]
        obtain ⟨w5, hw5⟩ : ∃ x, w4.setCell ⟨bT, 34, none⟩ (.int .u64 tag) = x := ⟨_, rfl⟩
        have LT := Lib.hid (show Blk w5 bT CK.toArray 28 by rw [← hw5]; exact (n1.set 34 _ TP.out).blk)
        have k5 : Bel wzb w5 := by rw [← hw5]; exact Kep.bel n2 (kset 34 _) (fun i hi => by have := HbT.out; omega)
        have c0 : w4.cell? ⟨bT, 34, none⟩ = some (.int .u64 g4) := n1.blk.cell 34 (by rw [List.getElem?_toArray]; exact dP.out)
        have f0 : w4.frozen? ⟨bT, 34, none⟩ = false := n1.blk.frozen 34
        have Hw5 := Lib.hid hw5
        have LA := Lib.hid (Blk.bel LA.out k5)
        have LP := Lib.hid (Blk.bel LP.out k5)
        have HZ := Lib.hid (HZ.out.bel k5)
        have B := Lib.hid (B.out.trans k5)
        have OW := Lib.hid (owns_bel OW.out k5)
        have KW := Lib.hid (KW.out.trans k5)
        have Ly := Lib.hid (Blk.bel Ly.out k5)
        have Fy := Lib.hid (Blk.bel Fy.out k5)
        have Lz := Lib.hid (Blk.bel Lz.out k5)
        have Fz := Lib.hid (Blk.bel Fz.out k5)
        clear n1 n2 k5 hw5 NT RX HbT Hw4
        go_upto_region 19 with fail
        rw [Hw5.out]
        clear c0 f0 Hw5
        have RX := Lib.hid (range_blk LP.out)
        go_wp2_with (refine wpList_load_mid rfl 28 (.tmp 5) rfl bP 0 rfl CP _ RX.out Tryd.underlying28 rfl iP.out ?_)
        refine (DG.out _ (HT.out _ B.out)).mono ?_
        rintro e vD ⟨rfl, m2⟩
        have m2 : Bel w5 vD := m2
        obtain ⟨m3, m4⟩ := lie_new vD vD (Bel.refl _) zH' Y 23 (by rw [N1.out]; rfl)
        have TH := Lib.hid (new_there vD zH' Y 23 (by rw [N1.out]; rfl))
        have MM := Lib.hid (m2.trans m4)
        have MQ := Lib.hid m3.blk
        clear m2 m3 m4 RX
        go_upto_region 20 with (refine wpList_store_mid rfl 23 (.tmp 29) (.tmp 132) rfl vD.heap.size 0 Y.toArray rfl rfl TH.out I1.out O1.out ?_)
        obtain ⟨wD, hw⟩ : ∃ x, (vD.alloc Z32h).setCells vD.heap.size 0 Y = x := ⟨_, rfl⟩
        obtain ⟨qd, hq⟩ : ∃ q, q = vD.heap.size := ⟨_, rfl⟩
        have MM := Lib.hid (show Bel w5 wD by rw [← hw]; exact MM.out)
        have QD := Lib.hid (show Blk wD qd Y.toArray 23 by rw [← hw, hq]; exact MQ.out)
        rw [hw, ← hq]
        clear hw hq TH MQ
        have LA := Lib.hid (Blk.bel LA.out MM.out)
        have LP := Lib.hid (Blk.bel LP.out MM.out)
        have HZ := Lib.hid (HZ.out.bel MM.out)
        have B := Lib.hid (B.out.trans MM.out)
        have OW := Lib.hid (owns_bel OW.out MM.out)
        have KW := Lib.hid (KW.out.trans MM.out)
        have Ly := Lib.hid (Blk.bel Ly.out MM.out)
        have Fy := Lib.hid (Blk.bel Fy.out MM.out)
        have Lz := Lib.hid (Blk.bel Lz.out MM.out)
        have Fz := Lib.hid (Blk.bel Fz.out MM.out)
        have LT := Lib.hid (Blk.bel LT.out MM.out)
        clear MM
        have RX := Lib.hid (range_blk LT.out)
        go_wp2_with (refine wpList_load_mid rfl 28 (.tmp 28) rfl bT 0 rfl CK _ RX.out Tryd.underlying28 rfl iCK.out ?_)
        refine (DO.out _ (HT.out _ B.out)).mono ?_
        rintro e vO ⟨rfl, m2⟩
        have m2 : Bel wD vO := m2
        obtain ⟨m3, m4⟩ := lie_new vO vO (Bel.refl _) zH' Y 23 (by rw [N1.out]; rfl)
        have TH := Lib.hid (new_there vO zH' Y 23 (by rw [N1.out]; rfl))
        have MM := Lib.hid (m2.trans m4)
        have MQ := Lib.hid m3.blk
        clear m2 m3 m4 RX
        go_upto_region 21 with (refine wpList_store_mid rfl 23 (.tmp 31) (.tmp 137) rfl vO.heap.size 0 Y.toArray rfl rfl TH.out I1.out O1.out ?_)
        obtain ⟨wO, hw⟩ : ∃ x, (vO.alloc Z32h).setCells vO.heap.size 0 Y = x := ⟨_, rfl⟩
        obtain ⟨qo, hq⟩ : ∃ q, q = vO.heap.size := ⟨_, rfl⟩
        have MM := Lib.hid (show Bel wD wO by rw [← hw]; exact MM.out)
        have QO := Lib.hid (show Blk wO qo Y.toArray 23 by rw [← hw, hq]; exact MQ.out)
        rw [hw, ← hq]
        clear hw hq TH MQ
        have LA := Lib.hid (Blk.bel LA.out MM.out)
        have LP := Lib.hid (Blk.bel LP.out MM.out)
        have HZ := Lib.hid (HZ.out.bel MM.out)
        have B := Lib.hid (B.out.trans MM.out)
        have OW := Lib.hid (owns_bel OW.out MM.out)
        have KW := Lib.hid (KW.out.trans MM.out)
        have Ly := Lib.hid (Blk.bel Ly.out MM.out)
        have Fy := Lib.hid (Blk.bel Fy.out MM.out)
        have Lz := Lib.hid (Blk.bel Lz.out MM.out)
        have Fz := Lib.hid (Blk.bel Fz.out MM.out)
        have LT := Lib.hid (Blk.bel LT.out MM.out)
        have QD := Lib.hid (Blk.bel QD.out MM.out)
        clear MM
        have c0 : wO.cell? ⟨bP, 34, none⟩ = some (.int .u64 g4) := LP.out.cell 34 (by rw [List.getElem?_toArray]; exact dP.out)
        go_wp2_with fail
        refine (SZ.out _).mono ?_
        rintro e w9 ⟨rfl, k9⟩
        have k9 : Bel wO w9 := k9
        clear c0
        have LA := Lib.hid (Blk.bel LA.out k9)
        have LP := Lib.hid (Blk.bel LP.out k9)
        have HZ := Lib.hid (HZ.out.bel k9)
        have B := Lib.hid (B.out.trans k9)
        have OW := Lib.hid (owns_bel OW.out k9)
        have KW := Lib.hid (KW.out.trans k9)
        have Ly := Lib.hid (Blk.bel Ly.out k9)
        have Fy := Lib.hid (Blk.bel Fy.out k9)
        have Lz := Lib.hid (Blk.bel Lz.out k9)
        have Fz := Lib.hid (Blk.bel Fz.out k9)
        have LT := Lib.hid (Blk.bel LT.out k9)
        have QD := Lib.hid (Blk.bel QD.out k9)
        have QO := Lib.hid (Blk.bel QO.out k9)
        clear k9
        have ek := EK.out
        go_upto_region 22 with fail
        clear ek
        have kn : ¬ (K : Int) < 0 := by omega
        have SL := Lib.hid (sliceN gg L K c1 HL.out.2.2.1 HL.out.1 HL.out.2.2.2.1)
        have SS := Lib.hid (show ∀ V, Bel w9 V → Calls Tryd.prog 10 #[.slice (some ⟨gg, 0, none⟩) K c1] V fun e w' => e = .returned (.agg Y.toArray) ∧ Bel V w' from fun V hV => SM.out V _ gg c1 (owns_bel OW.out hV) HL.out.1 HL.out.2.1 (HT.out _ (B.out.trans hV)))
        have S0d : (fun V => Bel w9 V) w9.drew := (Bel.refl w9).drew
        have uF := Tryd.underlying35
        have uH := Tryd.underlying23
        have uX := Tryd.underlying28
        have iF := IF.out
        have iH := J1.out
        have iX := iP.out
        refine wp_region_held_drew (S := fun V => Bel w9 V) (by kernel_rfl) S0d (fun hS0 => ?_)
        obtain ⟨w10, hw10⟩ : ∃ x, w9.drew = x := ⟨_, rfl⟩
        rw [hw10] at hS0 ⊢
        clear hw10 S0d
        refine wpAnyH_take (i := 0) (oi := { dst := some 145, op := .load 35 (.tmp 25), type := 35, pos := "outright.go:85", after := #[], guard := none }) (v := .agg #[.int .i64 0, .int .i64 0]) rfl (by kernel_rfl) (by kernel_rfl) (by kernel_rfl) (fun _ _ _ h => h) (yieldsIf_load_mid (by rfl) _ _ rfl _ _ rfl _ _ (fun w h => range_blk (Blk.bel Fy.out h)) uF rfl iF) hS0 ?_
        try simp only [Act.put, List.setIfInBounds_toArray, List.set_cons_zero, List.set_cons_succ]
        refine wpAnyH_take (i := 1) (oi := { dst := some 146, op := .build 35 #[], type := 35, pos := "outright.go:85", after := #[], guard := none }) (v := .agg #[.int .i64 0, .int .i64 0]) rfl (by kernel_rfl) (by kernel_rfl) (by kernel_rfl) (fun _ _ _ h => h) (Or.inl ⟨by rfl, by intro w h; have hcell := (BF.out w); clear h; go_simp⟩) hS0 ?_
        try simp only [Act.put, List.setIfInBounds_toArray, List.set_cons_zero, List.set_cons_succ]
        refine wpAnyH_take (i := 2) (oi := { dst := some 147, op := .binOp .neq 35 (.tmp 145) (.tmp 146) 35, type := 4, pos := "outright.go:85", after := #[{ on := 0, ground := .data }, { on := 1, ground := .data }], guard := none }) (v := .bool false) rfl (by kernel_rfl) (by kernel_rfl) (by kernel_rfl) (fun _ _ _ h => h) (Or.inl ⟨by rfl, by intro w h; have hcell := (NF.out w); clear h; go_simp⟩) hS0 ?_
        try simp only [Act.put, List.setIfInBounds_toArray, List.set_cons_zero, List.set_cons_succ]
        refine wpAnyH_take (i := 3) (oi := { dst := some 148, op := .move (.tmp 147), type := 4, pos := "outright.go:85", after := #[{ on := 2, ground := .data }], guard := none }) (v := .bool false) rfl (by kernel_rfl) (by kernel_rfl) (by kernel_rfl) (fun _ _ _ h => h) (Or.inl ⟨by rfl, by intro w hSw; clear hSw; go_simp⟩) hS0 ?_
        try simp only [Act.put, List.setIfInBounds_toArray, List.set_cons_zero, List.set_cons_succ]
        refine wpAnyH_take (i := 4) (oi := { dst := some 149, op := .load 28 (.tmp 24), type := 28, pos := "outright.go:85", after := #[{ on := 3, ground := .guard }], guard := some (3, false) }) (v := .agg CP.toArray) rfl (by kernel_rfl) (by kernel_rfl) (by kernel_rfl) (fun _ _ _ h => h) (yieldsIf_load_mid (by rfl) _ _ rfl _ _ rfl _ _ (fun w h => range_blk (Blk.bel Ly.out h)) uX rfl iX) hS0 ?_
        try simp only [Act.put, List.setIfInBounds_toArray, List.set_cons_zero, List.set_cons_succ]
        refine wpAnyH_take (i := 5) (oi := { dst := some 150, op := .load 28 (.tmp 5), type := 28, pos := "outright.go:85", after := #[{ on := 3, ground := .guard }], guard := some (3, false) }) (v := .agg CP.toArray) rfl (by kernel_rfl) (by kernel_rfl) (by kernel_rfl) (fun _ _ _ h => h) (yieldsIf_load_mid (by rfl) _ _ rfl _ _ rfl _ _ (fun w h => range_blk (Blk.bel LP.out h)) uX rfl iX) hS0 ?_
        try simp only [Act.put, List.setIfInBounds_toArray, List.set_cons_zero, List.set_cons_succ]
        refine wpAnyH_take (i := 6) (oi := { dst := some 151, op := .binOp .neq 28 (.tmp 149) (.tmp 150) 28, type := 4, pos := "outright.go:85", after := #[{ on := 4, ground := .data }, { on := 5, ground := .data }, { on := 3, ground := .guard }], guard := some (3, false) }) (v := .bool false) rfl (by kernel_rfl) (by kernel_rfl) (by kernel_rfl) (fun _ _ _ h => h) (Or.inl ⟨by rfl, fun w _ => exec_neq rfl _ _ rfl rfl (by kernel_rfl) NP.out w⟩) hS0 ?_
        try simp only [Act.put, List.setIfInBounds_toArray, List.set_cons_zero, List.set_cons_succ]
        refine wpAnyH_take (i := 7) (oi := { dst := some 152, op := .pick (.tmp 148) (.const (Value.bool true)) (.tmp 151), type := 4, pos := "outright.go:85", after := #[{ on := 3, ground := .data }, { on := 6, ground := .data }], guard := none }) (v := .bool false) rfl (by kernel_rfl) (by kernel_rfl) (by kernel_rfl) (fun _ _ _ h => h) (Or.inl ⟨by rfl, by intro w hSw; clear hSw; go_simp⟩) hS0 ?_
        try simp only [Act.put, List.setIfInBounds_toArray, List.set_cons_zero, List.set_cons_succ]
        refine wpAnyH_take (i := 8) (oi := { dst := some 153, op := .move (.tmp 152), type := 4, pos := "outright.go:85", after := #[{ on := 7, ground := .data }, { on := 3, ground := .chain }], guard := none }) (v := .bool false) rfl (by kernel_rfl) (by kernel_rfl) (by kernel_rfl) (fun _ _ _ h => h) (Or.inl ⟨by rfl, by intro w hSw; clear hSw; go_simp⟩) hS0 ?_
        try simp only [Act.put, List.setIfInBounds_toArray, List.set_cons_zero, List.set_cons_succ]
        refine wpAnyH_take (i := 9) (oi := { dst := some 154, op := .load 35 (.tmp 27), type := 35, pos := "outright.go:85", after := #[{ on := 8, ground := .guard }], guard := some (8, false) }) (v := .agg #[.int .i64 3, .int .i64 0]) rfl (by kernel_rfl) (by kernel_rfl) (by kernel_rfl) (fun _ _ _ h => h) (yieldsIf_load_mid (by rfl) _ _ rfl _ _ rfl _ _ (fun w h => range_blk (Blk.bel Fz.out h)) uF rfl iF) hS0 ?_
        try simp only [Act.put, List.setIfInBounds_toArray, List.set_cons_zero, List.set_cons_succ]
        refine wpAnyH_take (i := 10) (oi := { dst := some 155, op := .build 35 #[], type := 35, pos := "outright.go:85", after := #[{ on := 8, ground := .guard }], guard := some (8, false) }) (v := .agg #[.int .i64 0, .int .i64 0]) rfl (by kernel_rfl) (by kernel_rfl) (by kernel_rfl) (fun _ _ _ h => h) (Or.inl ⟨by rfl, by intro w h; have hcell := (BF.out w); clear h; go_simp⟩) hS0 ?_
        try simp only [Act.put, List.setIfInBounds_toArray, List.set_cons_zero, List.set_cons_succ]
        refine wpAnyH_take (i := 11) (oi := { dst := some 156, op := .binOp .eql 35 (.tmp 154) (.tmp 155) 35, type := 4, pos := "outright.go:85", after := #[{ on := 9, ground := .data }, { on := 10, ground := .data }, { on := 8, ground := .guard }], guard := some (8, false) }) (v := .bool false) rfl (by kernel_rfl) (by kernel_rfl) (by kernel_rfl) (fun _ _ _ h => h) (Or.inl ⟨by rfl, by intro w h; have hcell := (NG.out w); clear h; go_simp⟩) hS0 ?_
        try simp only [Act.put, List.setIfInBounds_toArray, List.set_cons_zero, List.set_cons_succ]
        refine wpAnyH_take (i := 12) (oi := { dst := some 157, op := .pick (.tmp 153) (.const (Value.bool true)) (.tmp 156), type := 4, pos := "outright.go:85", after := #[{ on := 8, ground := .data }, { on := 11, ground := .data }], guard := none }) (v := .bool false) rfl (by kernel_rfl) (by kernel_rfl) (by kernel_rfl) (fun _ _ _ h => h) (Or.inl ⟨by rfl, by intro w hSw; clear hSw; go_simp⟩) hS0 ?_
        try simp only [Act.put, List.setIfInBounds_toArray, List.set_cons_zero, List.set_cons_succ]
        refine wpAnyH_take (i := 13) (oi := { dst := some 158, op := .move (.tmp 157), type := 4, pos := "outright.go:85", after := #[{ on := 12, ground := .data }, { on := 8, ground := .chain }], guard := none }) (v := .bool false) rfl (by kernel_rfl) (by kernel_rfl) (by kernel_rfl) (fun _ _ _ h => h) (Or.inl ⟨by rfl, by intro w hSw; clear hSw; go_simp⟩) hS0 ?_
        try simp only [Act.put, List.setIfInBounds_toArray, List.set_cons_zero, List.set_cons_succ]
        refine wpAnyH_take (i := 14) (oi := { dst := some 159, op := .move (.tmp 33), type := 3, pos := "outright.go:85", after := #[{ on := 13, ground := .guard }], guard := some (13, false) }) (v := .int .i64 K) rfl (by kernel_rfl) (by kernel_rfl) (by kernel_rfl) (fun _ _ _ h => h) (Or.inl ⟨by rfl, by intro w hSw; clear hSw; go_simp⟩) hS0 ?_
        try simp only [Act.put, List.setIfInBounds_toArray, List.set_cons_zero, List.set_cons_succ]
        refine wpAnyH_take (i := 15) (oi := { dst := some 160, op := .binOp .lss 3 (.tmp 159) (.const (Value.int IntKind.i64 0)) 3, type := 4, pos := "outright.go:85", after := #[{ on := 14, ground := .data }, { on := 13, ground := .guard }], guard := some (13, false) }) (v := .bool false) rfl (by kernel_rfl) (by kernel_rfl) (by kernel_rfl) (fun _ _ _ h => h) (Or.inl ⟨by rfl, by intro w hSw; clear hSw; go_simp⟩) hS0 ?_
        try simp only [Act.put, List.setIfInBounds_toArray, List.set_cons_zero, List.set_cons_succ]
        refine wpAnyH_take (i := 16) (oi := { dst := some 161, op := .pick (.tmp 158) (.const (Value.bool true)) (.tmp 160), type := 4, pos := "outright.go:85", after := #[{ on := 13, ground := .data }, { on := 15, ground := .data }], guard := none }) (v := .bool false) rfl (by kernel_rfl) (by kernel_rfl) (by kernel_rfl) (fun _ _ _ h => h) (Or.inl ⟨by rfl, by intro w hSw; clear hSw; go_simp⟩) hS0 ?_
        try simp only [Act.put, List.setIfInBounds_toArray, List.set_cons_zero, List.set_cons_succ]
        refine wpAnyH_take (i := 17) (oi := { dst := some 162, op := .move (.tmp 161), type := 4, pos := "outright.go:85", after := #[{ on := 16, ground := .data }, { on := 13, ground := .chain }], guard := none }) (v := .bool false) rfl (by kernel_rfl) (by kernel_rfl) (by kernel_rfl) (fun _ _ _ h => h) (Or.inl ⟨by rfl, by intro w hSw; clear hSw; go_simp⟩) hS0 ?_
        try simp only [Act.put, List.setIfInBounds_toArray, List.set_cons_zero, List.set_cons_succ]
        refine wpAnyH_take (i := 18) (oi := { dst := some 163, op := .load 23 (.tmp 29), type := 23, pos := "outright.go:85", after := #[{ on := 17, ground := .guard }], guard := some (17, false) }) (v := .agg Y.toArray) rfl (by kernel_rfl) (by kernel_rfl) (by kernel_rfl) (fun _ _ _ h => h) (yieldsIf_load_mid (by rfl) _ _ rfl _ _ rfl _ _ (fun w h => range_blk (Blk.bel QD.out h)) uH rfl iH) hS0 ?_
        try simp only [Act.put, List.setIfInBounds_toArray, List.set_cons_zero, List.set_cons_succ]
        refine wpAnyH_take (i := 19) (oi := { dst := some 164, op := .move (.tmp 22), type := 29, pos := "outright.go:85", after := #[{ on := 17, ground := .guard }], guard := some (17, false) }) (v := .slice (some ⟨gg, 0, none⟩) L c1) rfl (by kernel_rfl) (by kernel_rfl) (by kernel_rfl) (fun _ _ _ h => h) (Or.inl ⟨by rfl, by intro w hSw; clear hSw; go_simp⟩) hS0 ?_
        try simp only [Act.put, List.setIfInBounds_toArray, List.set_cons_zero, List.set_cons_succ]
        refine wpAnyH_take (i := 20) (oi := { dst := some 165, op := .move (.tmp 33), type := 3, pos := "outright.go:85", after := #[{ on := 17, ground := .guard }], guard := some (17, false) }) (v := .int .i64 K) rfl (by kernel_rfl) (by kernel_rfl) (by kernel_rfl) (fun _ _ _ h => h) (Or.inl ⟨by rfl, by intro w hSw; clear hSw; go_simp⟩) hS0 ?_
        try simp only [Act.put, List.setIfInBounds_toArray, List.set_cons_zero, List.set_cons_succ]
        refine wpAnyH_take (i := 21) (oi := { dst := some 166, op := .slice 29 (.tmp 164) none (some (.tmp 165)) none, type := 29, pos := "outright.go:85", after := #[{ on := 19, ground := .data }, { on := 20, ground := .data }, { on := 17, ground := .guard }], guard := some (17, false) }) (v := .slice (some ⟨gg, 0, none⟩) K c1) rfl (by kernel_rfl) (by kernel_rfl) (by kernel_rfl) (fun _ _ _ h => h) (Or.inl ⟨by rfl, by intro w h; have hcell := (SL.out w); clear h; go_simp⟩) hS0 ?_
        try simp only [Act.put, List.setIfInBounds_toArray, List.set_cons_zero, List.set_cons_succ]
        refine wpAnyH_ready (rs := [22]) (by kernel_rfl) (by simp) ?_
        refine AllReadyH.cons (o := { dst := some 167, op := .call { callee := .value (.func 10), args := #[.tmp 166], argTypes := #[29] }, type := 23, pos := "outright.go:85", after := #[{ on := 21, ground := .data }, { on := 17, ground := .chain }, { on := 17, ground := .guard }], guard := some (17, false) }) rfl (fun K hK => ?_) AllReadyH.nil
        go_simp
        refine (SS.out _ hS0).mono ?_
        rintro e v1 ⟨rfl, kA⟩
        go_wp2_with fail
        refine hK.out _ _ (Bel.trans hS0 kA) (fun hS1 => ?_)
        clear hK K
        try simp only [Act.put, List.setIfInBounds_toArray, List.set_cons_zero, List.set_cons_succ]
        refine wpAnyH_take (i := 23) (oi := { dst := some 168, op := .binOp .neq 23 (.tmp 163) (.tmp 167) 23, type := 4, pos := "outright.go:85", after := #[{ on := 18, ground := .data }, { on := 22, ground := .data }, { on := 17, ground := .guard }], guard := some (17, false) }) (v := .bool false) rfl (by kernel_rfl) (by kernel_rfl) (by kernel_rfl) (fun _ _ _ h => h) (Or.inl ⟨by rfl, by intro w h; have hcell := (NH.out w); clear h; go_simp⟩) hS1 ?_
        try simp only [Act.put, List.setIfInBounds_toArray, List.set_cons_zero, List.set_cons_succ]
        refine wpAnyH_take (i := 24) (oi := { dst := some 169, op := .pick (.tmp 162) (.const (Value.bool true)) (.tmp 168), type := 4, pos := "outright.go:85", after := #[{ on := 17, ground := .data }, { on := 23, ground := .data }], guard := none }) (v := .bool false) rfl (by kernel_rfl) (by kernel_rfl) (by kernel_rfl) (fun _ _ _ h => h) (Or.inl ⟨by rfl, by intro w hSw; clear hSw; go_simp⟩) hS1 ?_
        try simp only [Act.put, List.setIfInBounds_toArray, List.set_cons_zero, List.set_cons_succ]
        refine wpAnyH_take (i := 25) (oi := { dst := some 170, op := .move (.tmp 169), type := 4, pos := "outright.go:85", after := #[{ on := 24, ground := .data }, { on := 22, ground := .chain }], guard := none }) (v := .bool false) rfl (by kernel_rfl) (by kernel_rfl) (by kernel_rfl) (fun _ _ _ h => h) (Or.inl ⟨by rfl, by intro w hSw; clear hSw; go_simp⟩) hS1 ?_
        try simp only [Act.put, List.setIfInBounds_toArray, List.set_cons_zero, List.set_cons_succ]
        refine wpAnyH_take (i := 26) (oi := { dst := some 171, op := .load 23 (.tmp 31), type := 23, pos := "outright.go:85", after := #[{ on := 25, ground := .guard }], guard := some (25, false) }) (v := .agg Y.toArray) rfl (by kernel_rfl) (by kernel_rfl) (by kernel_rfl) (fun _ _ _ h => h) (yieldsIf_load_mid (by rfl) _ _ rfl _ _ rfl _ _ (fun w h => range_blk (Blk.bel QO.out h)) uH rfl iH) hS1 ?_
        try simp only [Act.put, List.setIfInBounds_toArray, List.set_cons_zero, List.set_cons_succ]
        refine wpAnyH_take (i := 27) (oi := { dst := some 172, op := .load 23 (.tmp 29), type := 23, pos := "outright.go:85", after := #[{ on := 25, ground := .guard }], guard := some (25, false) }) (v := .agg Y.toArray) rfl (by kernel_rfl) (by kernel_rfl) (by kernel_rfl) (fun _ _ _ h => h) (yieldsIf_load_mid (by rfl) _ _ rfl _ _ rfl _ _ (fun w h => range_blk (Blk.bel QD.out h)) uH rfl iH) hS1 ?_
        try simp only [Act.put, List.setIfInBounds_toArray, List.set_cons_zero, List.set_cons_succ]
        refine wpAnyH_take (i := 28) (oi := { dst := some 173, op := .binOp .neq 23 (.tmp 171) (.tmp 172) 23, type := 4, pos := "outright.go:85", after := #[{ on := 26, ground := .data }, { on := 27, ground := .data }, { on := 25, ground := .guard }], guard := some (25, false) }) (v := .bool false) rfl (by kernel_rfl) (by kernel_rfl) (by kernel_rfl) (fun _ _ _ h => h) (Or.inl ⟨by rfl, by intro w h; have hcell := (NH.out w); clear h; go_simp⟩) hS1 ?_
        try simp only [Act.put, List.setIfInBounds_toArray, List.set_cons_zero, List.set_cons_succ]
        refine wpAnyH_take (i := 29) (oi := { dst := some 174, op := .pick (.tmp 170) (.const (Value.bool true)) (.tmp 173), type := 4, pos := "outright.go:85", after := #[{ on := 25, ground := .data }, { on := 28, ground := .data }], guard := none }) (v := .bool false) rfl (by kernel_rfl) (by kernel_rfl) (by kernel_rfl) (fun _ _ _ h => h) (Or.inl ⟨by rfl, by intro w hSw; clear hSw; go_simp⟩) hS1 ?_
        try simp only [Act.put, List.setIfInBounds_toArray, List.set_cons_zero, List.set_cons_succ]
        refine wpAnyH_done (by kernel_rfl) ?_ _
        go_wp2_with fail
        go_meet
        exact KW.out.trans hS1
  case rest =>
  obtain ⟨wdP, hwd⟩ : ∃ x, x = wc := ⟨_, rfl⟩
  rw [← hwd] at hcut ⊢
  clear hwd wc
  have hcut : Bel _ wdP := hcut
  have LA := Lib.hid (Blk.bel LA.out hcut)
  have LP := Lib.hid (Blk.bel LP.out hcut)
  have HZ := Lib.hid (HZ.out.bel hcut)
  have B := Lib.hid (B.out.trans hcut)
  clear hcut
  by_cases hn : 300 < n
  case pos =>
    have hni : (300 : Int) < (n : Int) := by omega
    go_wp2
    go_ret
    exact ⟨rfl, B00.out.trans B.out⟩
  case neg =>
  have hni : ¬ (300 : Int) < (n : Int) := by omega
  go_upto_region 26 with fail
  clear hni
  obtain ⟨v, s, t, tg, hs, fe, hrd, hor⟩ := att_ex zs (Cd.bytes_of hy)
  obtain ⟨r1, p1⟩ := fe
  have lX := Lib.hid (show (attTl v s t tg hs (r1, p1)).length = 36 from len_attTl (fun h => by
    rcases hor with h1 | h1
    · exact absurd h h1
    · exact h1.2.2.2.2.2.1))
  obtain ⟨CAX, hX⟩ : ∃ D, D = attTl v s t tg hs (r1, p1) := ⟨_, rfl⟩
  have RDX := Lib.hid (show ∀ W, Kk.Sl W A n c zs → Calls Tryd.prog 6 #[.slice A n c] W fun e w' => e = .returned (.tuple #[.agg CAX.toArray, .agg #[.int .i64 r1, .int .i64 p1]]) ∧ Bel W w' from fun W hW => by
    have := readA A n c zs v s t tg hs (r1, p1) W ⟨hW.ints, hW.cap, hW.nil⟩ (by omega) (Cd.bytes_of hy) hrd
    rwa [← hX] at this)
  rw [← hX] at lX
  have oX := Lib.hid (all_oneCell_toArray (cs := CAX) (by rw [hX]; exact attTl_cells _ _ _ _ _ _))
  have jX := Lib.hid (show (Tryd.prog.info? 26).map (·.size) = some CAX.toArray.size by rw [List.size_toArray, lX.out]; exact info_att)
  have iX := Lib.hid (show (Tryd.prog.info? 26).map (·.size) = some CAX.length by rw [lX.out]; exact info_att)
  obtain ⟨qA, hq⟩ : ∃ q, q = (r1 == 0 && p1 == 0) := ⟨_, rfl⟩
  have EFL := Lib.hid (show ∀ W, (binOp .eql 35 (.agg #[.int .i64 r1, .int .i64 p1]) (.agg #[.int .i64 0, .int .i64 0])).run Tryd.prog W = .ok (.bool qA) W from fun W => by rw [hq]; exact eql_fault r1 p1 0 0 W)
  have OR := Lib.hid (show qA = false ∨ (qA = true ∧ ∀ W, Calls Tryd.prog 5 #[.agg CAX.toArray] W fun e w' => ∃ g c, e = .returned (.tuple #[.slice (some ⟨g, 0, none⟩) zs.length c, .int .i64 0]) ∧ w'.ownsRow W.heap.size 5 1 (.slice (some ⟨g, 0, none⟩) zs.length c) zs.length (zs.map (Value.int .u8)) ∧ Bel W w') by
    rcases hor with h1 | h1
    · exact .inl (by rw [hq]; simp; exact fun h => absurd h h1)
    · refine .inr ⟨by rw [hq]; have := h1.1; injection this with h2 h3; simp [h2, h3], fun W => ?_⟩
      have hX' : CAX = attC v s t hs tg := by rw [hX]; exact if_pos (by have := h1.1; injection this)
      rw [hX']
      obtain ⟨_, c1, c2, c3, c4, c5, c6⟩ := h1
      refine (bytes v s t tg hs W c5 c4.1 c4.2).mono fun e w' ⟨u, h, hr⟩ => ?_
      have he : errOf (attI v s t hs ++ tagI tg) = 0 := by rw [att_err, chk_mk c1 c2 c3]
      have hb : bytesOf (attI v s t hs ++ tagI tg) = zs := by rw [att_bytes]; exact c6.symm
      have hl0 : 0 < zs.length := by
        have := (Cd.enc_len tg).1
        rw [c6]
        simp only [List.length_append]
        omega
      obtain ⟨g, c, rfl, h3, h4, h5⟩ := enc_own hr he (by rw [hb]; exact hl0)
      rw [hb] at h h5
      rw [he] at h
      exact ⟨g, c, h, h5, hr.1⟩)
  clear hq hX hor hrd
  go_wp2_with fail
  refine (RDX.out _ HZ.out).mono ?_
  rintro e wya ⟨rfl, k3⟩
  have k3 : Bel _ wya := k3
  have HZ := Lib.hid (HZ.out.bel k3)
  have B := Lib.hid (B.out.trans k3)
  clear k3
  obtain ⟨Wy1, hW1⟩ : ∃ x, wya.alloc Zr36 = x := ⟨_, rfl⟩
  obtain ⟨Wy2, hW2⟩ : ∃ x, Wy1.alloc (.cells #[.int .i64 0, .int .i64 0] 35) = x := ⟨_, rfl⟩
  have q1 : Bel wya Wy1 := by rw [← hW1]; exact (Bel.refl _).alloc _
  have q2 : Bel Wy1 Wy2 := by rw [← hW2]; exact (Bel.refl _).alloc _
  have z1 : Wy1.heap.size = wya.heap.size + 1 := by rw [← hW1]; simp
  obtain ⟨ay, ha⟩ : ∃ a, a = wya.heap.size := ⟨_, rfl⟩
  have X := Lib.hid (show Bx 26 wya Wy2 ay zA' 0 0 from
    ⟨(show Blk Wy1 ay (zA').toArray 26 by rw [← hW1, ha]; exact Blk.new wya _ _).bel q2, by rw [← hW2, ha, ← z1]; exact Blk.new Wy1 _ _, q1.trans q2, ha.symm⟩)
  have HW1 := Lib.hid hW1
  have HW2 := Lib.hid hW2
  have HA1 := Lib.hid ha
  have TH := Lib.hid (show Wy2.there ay 0 CAX.toArray.size by rw [show CAX.toArray.size = 36 by rw [List.size_toArray]; exact lX.out]; exact X.out.blk.there 0 36 (Nat.le_refl _))
  have y0 : (Wy2.setCells ay 0 CAX).cell? ⟨ay + 1, 0, none⟩ = some (.int .i64 0) := (X.out.whole (vs := CAX) (by rw [lX.out]; rfl)).flt.cell 0 rfl
  have y1 : (Wy2.setCells ay 0 CAX).cell? ⟨ay + 1, 1, none⟩ = some (.int .i64 0) := (X.out.whole (vs := CAX) (by rw [lX.out]; rfl)).flt.cell 1 rfl
  have x0 : (Wy2.setCells ay 0 CAX).frozen? ⟨ay + 1, 0, none⟩ = false := (X.out.whole (vs := CAX) (by rw [lX.out]; rfl)).flt.frozen 0
  have x1 : (Wy2.setCells ay 0 CAX).frozen? ⟨ay + 1, 1, none⟩ = false := (X.out.whole (vs := CAX) (by rw [lX.out]; rfl)).flt.frozen 1
  clear hW1 hW2 ha q1 q2 z1
  go_upto_region 27 with (rw [HW1.out, HW2.out, ← HA1.out]; refine wpList_store_mid rfl 26 (.tmp 34) (.tmp 182) rfl ay 0 CAX.toArray rfl rfl TH.out jX.out oX.out ?_)
  obtain ⟨wyb, hw⟩ : ∃ x, ((Wy2.setCells ay 0 CAX).setCell ⟨ay + 1, 0, none⟩ (.int .i64 r1)).setCell ⟨ay + 1, 1, none⟩ (.int .i64 p1) = x := ⟨_, rfl⟩
  have X := Lib.hid (show Bx 26 wya wyb ay CAX r1 p1 by rw [← hw]; exact (X.out.whole (vs := CAX) (by rw [lX.out]; rfl)).fault r1 p1)
  rw [hw]
  clear hw y0 y1 x0 x1 TH HW1 HW2 HA1
  have HZ := Lib.hid (HZ.out.bel X.out.bel)
  have B := Lib.hid (B.out.trans X.out.bel)
  have Ly := Lib.hid X.out.blk
  have Fy := Lib.hid X.out.flt
  clear X
  have c0 : wyb.cell? ⟨ay + 1, 0, none⟩ = some (.int .i64 r1) := Fy.out.cell 0 rfl
  have c1 : wyb.cell? ⟨ay + 1, 1, none⟩ = some (.int .i64 p1) := Fy.out.cell 1 rfl
  have ef := EFL.out
  go_upto_if 186 with fail
  clear c0 c1 ef EFL
  go_cut [] (fun wy => Bel wyb wy)
  case first =>
    as_aux_lemma =>
    rcases OR.out with h0 | ⟨h0, hby⟩
    · subst h0
      clear OR
      go_wp2_with fail
      go_meet
      exact Bel.refl _
    · subst h0
      have BX := Lib.hid hby
      clear OR hby
      have RX := Lib.hid (range_blk Ly.out)
      go_wp2_with (refine wpList_load_mid rfl 26 (.tmp 34) rfl ay 0 rfl CAX _ RX.out Tryd.underlying26 rfl iX.out ?_)
      refine (BX.out _).mono ?_
      rintro e wz ⟨g, cc, rfl, ho, kz⟩
      have OZ := Lib.hid ho
      have KZ := Lib.hid (show Bel wyb wz from kz)
      clear ho kz
      go_wp2_with fail
      refine (same (some ⟨g, 0, none⟩) A _ cc n c zs wz (ints_own OZ.out) (HZ.out.bel KZ.out).ints).mono ?_
      rintro e w7 ⟨rfl, rfl⟩
      go_wp2_with fail
      go_meet
      exact KZ.out
  case rest =>
  obtain ⟨wdA2, hwd⟩ : ∃ x, x = wc := ⟨_, rfl⟩
  rw [← hwd] at hcut ⊢
  clear hwd wc
  have hcut : Bel _ wdA2 := hcut
  have HZ := Lib.hid (HZ.out.bel hcut)
  have B := Lib.hid (B.out.trans hcut)
  clear hcut RDX lX oX jX iX OR Ly Fy
  obtain ⟨v, s, tg, hs, fe, hrd, hor⟩ := prop_ex zs (Cd.bytes_of hy)
  obtain ⟨r1, p1⟩ := fe
  have lX := Lib.hid (show (propTl v s tg hs (r1, p1)).length = 35 from len_propTl (fun h => by
    rcases hor with h1 | h1
    · exact absurd h h1
    · exact h1.2.2.2.2.1))
  obtain ⟨CPX, hX⟩ : ∃ D, D = propTl v s tg hs (r1, p1) := ⟨_, rfl⟩
  have RDX := Lib.hid (show ∀ W, Kk.Sl W A n c zs → Calls Tryd.prog 7 #[.slice A n c] W fun e w' => e = .returned (.tuple #[.agg CPX.toArray, .agg #[.int .i64 r1, .int .i64 p1]]) ∧ Bel W w' from fun W hW => by
    have := readB A n c zs v s tg hs (r1, p1) W ⟨hW.ints, hW.cap, hW.nil⟩ (by omega) (Cd.bytes_of hy) hrd
    rwa [← hX] at this)
  rw [← hX] at lX
  have oX := Lib.hid (all_oneCell_toArray (cs := CPX) (by rw [hX]; exact propTl_cells _ _ _ _ _))
  have jX := Lib.hid (show (Tryd.prog.info? 28).map (·.size) = some CPX.toArray.size by rw [List.size_toArray, lX.out]; exact info_prop)
  have iX := Lib.hid (show (Tryd.prog.info? 28).map (·.size) = some CPX.length by rw [lX.out]; exact info_prop)
  obtain ⟨qP, hq⟩ : ∃ q, q = (r1 == 0 && p1 == 0) := ⟨_, rfl⟩
  have EFL := Lib.hid (show ∀ W, (binOp .eql 35 (.agg #[.int .i64 r1, .int .i64 p1]) (.agg #[.int .i64 0, .int .i64 0])).run Tryd.prog W = .ok (.bool qP) W from fun W => by rw [hq]; exact eql_fault r1 p1 0 0 W)
  have OR := Lib.hid (show qP = false ∨ (qP = true ∧ ∀ W, Calls Tryd.prog 11 #[.agg CPX.toArray] W fun e w' => ∃ g c, e = .returned (.tuple #[.slice (some ⟨g, 0, none⟩) zs.length c, .int .i64 0]) ∧ w'.ownsRow W.heap.size 5 1 (.slice (some ⟨g, 0, none⟩) zs.length c) zs.length (zs.map (Value.int .u8)) ∧ Bel W w') by
    rcases hor with h1 | h1
    · exact .inl (by rw [hq]; simp; exact fun h => absurd h h1)
    · refine .inr ⟨by rw [hq]; have := h1.1; injection this with h2 h3; simp [h2, h3], fun W => ?_⟩
      have hX' : CPX = propC v s hs tg := by rw [hX]; exact if_pos (by have := h1.1; injection this)
      rw [hX']
      obtain ⟨_, c1, c2, c4, c5, c6⟩ := h1
      refine (bytesB v s tg hs W c5 c4.1 c4.2).mono fun e w' ⟨u, h, hr⟩ => ?_
      have he : errOf (propI v s hs ++ tagI tg) = 0 := by rw [prop_err, chkB_mk c1 c2]
      have hb : bytesOf (propI v s hs ++ tagI tg) = zs := by rw [prop_bytes]; exact c6.symm
      have hl0 : 0 < zs.length := by
        have := (Cd.enc_len tg).1
        rw [c6]
        simp only [List.length_append]
        omega
      obtain ⟨g, c, rfl, h3, h4, h5⟩ := enc_own hr he (by rw [hb]; exact hl0)
      rw [hb] at h h5
      rw [he] at h
      exact ⟨g, c, h, h5, hr.1⟩)
  clear hq hX hor hrd
  go_wp2_with fail
  refine (RDX.out _ HZ.out).mono ?_
  rintro e wya ⟨rfl, k3⟩
  have k3 : Bel _ wya := k3
  have HZ := Lib.hid (HZ.out.bel k3)
  have B := Lib.hid (B.out.trans k3)
  clear k3
  obtain ⟨Wy1, hW1⟩ : ∃ x, wya.alloc Zr35 = x := ⟨_, rfl⟩
  obtain ⟨Wy2, hW2⟩ : ∃ x, Wy1.alloc (.cells #[.int .i64 0, .int .i64 0] 35) = x := ⟨_, rfl⟩
  have q1 : Bel wya Wy1 := by rw [← hW1]; exact (Bel.refl _).alloc _
  have q2 : Bel Wy1 Wy2 := by rw [← hW2]; exact (Bel.refl _).alloc _
  have z1 : Wy1.heap.size = wya.heap.size + 1 := by rw [← hW1]; simp
  obtain ⟨ay, ha⟩ : ∃ a, a = wya.heap.size := ⟨_, rfl⟩
  have X := Lib.hid (show Bx 28 wya Wy2 ay zP' 0 0 from
    ⟨(show Blk Wy1 ay (zP').toArray 28 by rw [← hW1, ha]; exact Blk.new wya _ _).bel q2, by rw [← hW2, ha, ← z1]; exact Blk.new Wy1 _ _, q1.trans q2, ha.symm⟩)
  have HW1 := Lib.hid hW1
  have HW2 := Lib.hid hW2
  have HA1 := Lib.hid ha
  have TH := Lib.hid (show Wy2.there ay 0 CPX.toArray.size by rw [show CPX.toArray.size = 35 by rw [List.size_toArray]; exact lX.out]; exact X.out.blk.there 0 35 (Nat.le_refl _))
  have y0 : (Wy2.setCells ay 0 CPX).cell? ⟨ay + 1, 0, none⟩ = some (.int .i64 0) := (X.out.whole (vs := CPX) (by rw [lX.out]; rfl)).flt.cell 0 rfl
  have y1 : (Wy2.setCells ay 0 CPX).cell? ⟨ay + 1, 1, none⟩ = some (.int .i64 0) := (X.out.whole (vs := CPX) (by rw [lX.out]; rfl)).flt.cell 1 rfl
  have x0 : (Wy2.setCells ay 0 CPX).frozen? ⟨ay + 1, 0, none⟩ = false := (X.out.whole (vs := CPX) (by rw [lX.out]; rfl)).flt.frozen 0
  have x1 : (Wy2.setCells ay 0 CPX).frozen? ⟨ay + 1, 1, none⟩ = false := (X.out.whole (vs := CPX) (by rw [lX.out]; rfl)).flt.frozen 1
  clear hW1 hW2 ha q1 q2 z1
  go_upto_region 32 with (rw [HW1.out, HW2.out, ← HA1.out]; refine wpList_store_mid rfl 28 (.tmp 38) (.tmp 203) rfl ay 0 CPX.toArray rfl rfl TH.out jX.out oX.out ?_)
  obtain ⟨wyb, hw⟩ : ∃ x, ((Wy2.setCells ay 0 CPX).setCell ⟨ay + 1, 0, none⟩ (.int .i64 r1)).setCell ⟨ay + 1, 1, none⟩ (.int .i64 p1) = x := ⟨_, rfl⟩
  have X := Lib.hid (show Bx 28 wya wyb ay CPX r1 p1 by rw [← hw]; exact (X.out.whole (vs := CPX) (by rw [lX.out]; rfl)).fault r1 p1)
  rw [hw]
  clear hw y0 y1 x0 x1 TH HW1 HW2 HA1
  have HZ := Lib.hid (HZ.out.bel X.out.bel)
  have B := Lib.hid (B.out.trans X.out.bel)
  have Ly := Lib.hid X.out.blk
  have Fy := Lib.hid X.out.flt
  clear X
  have c0 : wyb.cell? ⟨ay + 1, 0, none⟩ = some (.int .i64 r1) := Fy.out.cell 0 rfl
  have c1 : wyb.cell? ⟨ay + 1, 1, none⟩ = some (.int .i64 p1) := Fy.out.cell 1 rfl
  have ef := EFL.out
  go_upto_if 207 with fail
  clear c0 c1 ef EFL
  go_cut [] (fun wy => Bel wyb wy)
  case first =>
    as_aux_lemma =>
    rcases OR.out with h0 | ⟨h0, hby⟩
    · subst h0
      clear OR
      go_wp2_with fail
      go_meet
      exact Bel.refl _
    · subst h0
      have BX := Lib.hid hby
      clear OR hby
      have RX := Lib.hid (range_blk Ly.out)
      go_wp2_with (refine wpList_load_mid rfl 28 (.tmp 38) rfl ay 0 rfl CPX _ RX.out Tryd.underlying28 rfl iX.out ?_)
      refine (BX.out _).mono ?_
      rintro e wz ⟨g, cc, rfl, ho, kz⟩
      have OZ := Lib.hid ho
      have KZ := Lib.hid (show Bel wyb wz from kz)
      clear ho kz
      go_wp2_with fail
      refine (same (some ⟨g, 0, none⟩) A _ cc n c zs wz (ints_own OZ.out) (HZ.out.bel KZ.out).ints).mono ?_
      rintro e w7 ⟨rfl, rfl⟩
      go_wp2_with fail
      go_meet
      exact KZ.out
  case rest =>
  obtain ⟨wdP2, hwd⟩ : ∃ x, x = wc := ⟨_, rfl⟩
  rw [← hwd] at hcut ⊢
  clear hwd wc
  have hcut : Bel _ wdP2 := hcut
  have HZ := Lib.hid (HZ.out.bel hcut)
  have B := Lib.hid (B.out.trans hcut)
  clear hcut RDX lX oX jX iX OR Ly Fy
  go_wp2
  go_ret
  exact ⟨rfl, B00.out.trans B.out⟩
end Vt
end Go.Proofs.YtgalhpejihmhkaaDoor
