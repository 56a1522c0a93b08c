/-
  The walk of the law VoteClash: it returns true. Conditions: roots have 32 bytes; the table of turns lies in its variable.
-/
import Derived.Test.YtjbbecplkkkiiaaDoorGVKn
import Derived.Test.YtjbbecplkkkiiaaDoorGVLift
namespace Go.Proofs.YtjbbecplkkkiiaaDoor
open Go.RowKit Go.Shelf
set_option linter.unusedVariables false
namespace Vt
open Kk

theorem dif_comm (A B : List (Int × List Int)) : dif A B = dif B A := by
  unfold dif
  rw [show (dgV A == dgV B) = (dgV B == dgV A) from Bool.beq_comm]
  cases (errOf A == 0) <;> cases (errOf B == 0) <;> simp
theorem dif_self (A : List (Int × List Int)) : dif A A = false := by
  unfold dif
  rw [beq_self_eq_true]
  simp
theorem sur_iff {v1 s1 t1 v2 s2 t2 : Int} : sur v1 s1 t1 v2 s2 t2 = true ↔ chkE v1 s1 t1 = 0 ∧ chkE v2 s2 t2 = 0 ∧ v1 = v2 ∧ s1 < s2 ∧ t2 < t1 := by
  unfold sur
  simp only [Bool.and_eq_true, beq_iff_eq, decide_eq_true_eq]
theorem sur_not {v1 s1 t1 v2 s2 t2 : Int} (h : ¬ s1 < s2) : sur v1 s1 t1 v2 s2 t2 = false := by
  rw [Bool.eq_false_iff]
  intro e
  exact h (sur_iff.1 e).2.2.2.1

set_option maxRecDepth 100000 in
set_option maxHeartbeats 16000000 in
theorem clashLaw (v1 s1 t1 g1 : Int) (h1 : List Int) (v2 s2 t2 g2 : Int) (h2 : List Int) (v3 s3 t3 g3 : Int) (h3 : List Int) (v4 s4 g4 : Int) (h4 : List Int) (v5 s5 g5 : Int) (h5 : List Int) (tag : Int) (w : World)
    (f1 : attF v1 s1 t1 g1 h1) (f2 : attF v2 s2 t2 g2 h2) (f3 : attF v3 s3 t3 g3 h3) (f4 : propF v4 s4 g4 h4) (f5 : propF v5 s5 g5 h5) (ft : 0 ≤ tag ∧ tag ≤ 18446744073709551615) (hT : Tn w) :
    Calls Tryd.prog 7 #[.agg (attC v1 s1 t1 h1 g1).toArray, .agg (attC v2 s2 t2 h2 g2).toArray, .agg (attC v3 s3 t3 h3 g3).toArray, .agg (propC v4 s4 h4 g4).toArray, .agg (propC v5 s5 h5 g5).toArray, .int .u64 tag] w fun e w' => e = .returned (.bool true) ∧ Bel w w' := by
  obtain ⟨d1, hd1⟩ : ∃ d, d = ((v1 == v2) && ((t1 == t2) && dif (attI v1 s1 t1 h1) (attI v2 s2 t2 h2))) := ⟨_, rfl⟩
  obtain ⟨e1, he1⟩ : ∃ d, d = ((v4 == v5) && ((s4 == s5) && dif (propI v4 s4 h4) (propI v5 s5 h5))) := ⟨_, rfl⟩
  have c1 : ((v2 == v1) && ((t2 == t1) && dif (attI v2 s2 t2 h2) (attI v1 s1 t1 h1))) = d1 := by
    rw [hd1, dif_comm, show (v2 == v1) = (v1 == v2) from Bool.beq_comm, show (t2 == t1) = (t1 == t2) from Bool.beq_comm]
  have c2 : ((v5 == v4) && ((s5 == s4) && dif (propI v5 s5 h5) (propI v4 s4 h4))) = e1 := by
    rw [he1, dif_comm, show (v5 == v4) = (v4 == v5) from Bool.beq_comm, show (s5 == s4) = (s4 == s5) from Bool.beq_comm]
  have DAB := Lib.hid (fun W h => show Calls Tryd.prog 23 #[.agg (attC v1 s1 t1 h1 g1).toArray, .agg (attC v2 s2 t2 h2 g2).toArray] W (fun e w' => e = .returned (.bool d1) ∧ Bel W w') from by rw [hd1]; exact doubles v1 s1 t1 g1 h1 v2 s2 t2 g2 h2 W f1.len f1.by_ f2.len f2.by_ h)
  have DBA := Lib.hid (fun W h => show Calls Tryd.prog 23 #[.agg (attC v2 s2 t2 h2 g2).toArray, .agg (attC v1 s1 t1 h1 g1).toArray] W (fun e w' => e = .returned (.bool d1) ∧ Bel W w') from by rw [← c1]; exact doubles v2 s2 t2 g2 h2 v1 s1 t1 g1 h1 W f2.len f2.by_ f1.len f1.by_ h)
  have DOB := Lib.hid (fun W h => show Calls Tryd.prog 23 #[.agg (attC v1 s1 t1 h1 tag).toArray, .agg (attC v2 s2 t2 h2 g2).toArray] W (fun e w' => e = .returned (.bool d1) ∧ Bel W w') from by rw [hd1]; exact doubles v1 s1 t1 tag h1 v2 s2 t2 g2 h2 W f1.len f1.by_ f2.len f2.by_ h)
  have DAO := Lib.hid (fun W h => show Calls Tryd.prog 23 #[.agg (attC v1 s1 t1 h1 g1).toArray, .agg (attC v1 s1 t1 h1 tag).toArray] W (fun e w' => e = .returned (.bool false) ∧ Bel W w') from by
    have := doubles v1 s1 t1 g1 h1 v1 s1 t1 tag h1 W f1.len f1.by_ f1.len f1.by_ h
    rwa [dif_self, Bool.and_false, Bool.and_false] at this)
  have EPQ := Lib.hid (fun W h => show Calls Tryd.prog 27 #[.agg (propC v4 s4 h4 g4).toArray, .agg (propC v5 s5 h5 g5).toArray] W (fun e w' => e = .returned (.bool e1) ∧ Bel W w') from by rw [he1]; exact doublesB v4 s4 g4 h4 v5 s5 g5 h5 W f4.len f4.by_ f5.len f5.by_ h)
  have EQP := Lib.hid (fun W h => show Calls Tryd.prog 27 #[.agg (propC v5 s5 h5 g5).toArray, .agg (propC v4 s4 h4 g4).toArray] W (fun e w' => e = .returned (.bool e1) ∧ Bel W w') from by rw [← c2]; exact doublesB v5 s5 g5 h5 v4 s4 g4 h4 W f5.len f5.by_ f4.len f4.by_ h)
  have EKQ := Lib.hid (fun W h => show Calls Tryd.prog 27 #[.agg (propC v4 s4 h4 tag).toArray, .agg (propC v5 s5 h5 g5).toArray] W (fun e w' => e = .returned (.bool e1) ∧ Bel W w') from by rw [he1]; exact doublesB v4 s4 tag h4 v5 s5 g5 h5 W f4.len f4.by_ f5.len f5.by_ h)
  have EPK := Lib.hid (fun W h => show Calls Tryd.prog 27 #[.agg (propC v4 s4 h4 g4).toArray, .agg (propC v4 s4 h4 tag).toArray] W (fun e w' => e = .returned (.bool false) ∧ Bel W w') from by
    have := doublesB v4 s4 g4 h4 v4 s4 tag h4 W f4.len f4.by_ f4.len f4.by_ h
    rwa [dif_self, Bool.and_false, Bool.and_false] at this)
  obtain ⟨x1, hx1⟩ : ∃ d, d = sur v1 s1 t1 v2 s2 t2 := ⟨_, rfl⟩
  obtain ⟨x2, hx2⟩ : ∃ d, d = sur v2 s2 t2 v1 s1 t1 := ⟨_, rfl⟩
  obtain ⟨x3, hx3⟩ : ∃ d, d = sur v2 s2 t2 v3 s3 t3 := ⟨_, rfl⟩
  obtain ⟨x4, hx4⟩ : ∃ d, d = sur v1 s1 t1 v3 s3 t3 := ⟨_, rfl⟩
  have SAB := Lib.hid (fun W => show Calls Tryd.prog 25 #[.agg (attC v1 s1 t1 h1 g1).toArray, .agg (attC v2 s2 t2 h2 g2).toArray] W (fun e w' => e = .returned (.bool x1) ∧ Bel W w') from by rw [hx1]; exact surrounds v1 s1 t1 g1 h1 v2 s2 t2 g2 h2 W f1.len f2.len)
  have SBA := Lib.hid (fun W => show Calls Tryd.prog 25 #[.agg (attC v2 s2 t2 h2 g2).toArray, .agg (attC v1 s1 t1 h1 g1).toArray] W (fun e w' => e = .returned (.bool x2) ∧ Bel W w') from by rw [hx2]; exact surrounds v2 s2 t2 g2 h2 v1 s1 t1 g1 h1 W f2.len f1.len)
  have SBC := Lib.hid (fun W => show Calls Tryd.prog 25 #[.agg (attC v2 s2 t2 h2 g2).toArray, .agg (attC v3 s3 t3 h3 g3).toArray] W (fun e w' => e = .returned (.bool x3) ∧ Bel W w') from by rw [hx3]; exact surrounds v2 s2 t2 g2 h2 v3 s3 t3 g3 h3 W f2.len f3.len)
  have SAC := Lib.hid (fun W => show Calls Tryd.prog 25 #[.agg (attC v1 s1 t1 h1 g1).toArray, .agg (attC v3 s3 t3 h3 g3).toArray] W (fun e w' => e = .returned (.bool x4) ∧ Bel W w') from by rw [hx4]; exact surrounds v1 s1 t1 g1 h1 v3 s3 t3 g3 h3 W f1.len f3.len)
  have SAO := Lib.hid (fun W => show Calls Tryd.prog 25 #[.agg (attC v1 s1 t1 h1 g1).toArray, .agg (attC v1 s1 t1 h1 tag).toArray] W (fun e w' => e = .returned (.bool false) ∧ Bel W w') from by
    have := surrounds v1 s1 t1 g1 h1 v1 s1 t1 tag h1 W f1.len f1.len
    rwa [sur_not (Int.lt_irrefl _)] at this)
  have P2 := Lib.hid (show x1 = true → x2 = false from fun h => by rw [hx2]; exact sur_not (by have := sur_iff.1 (hx1.symm.trans h); omega))
  have PD := Lib.hid (show x1 = true → d1 = false from fun h => by
    have := sur_iff.1 (hx1.symm.trans h)
    rw [hd1, show (t1 == t2) = false by rw [beq_eq_false_iff_ne]; omega]
    simp)
  have P4 := Lib.hid (show x1 = true → x3 = true → x4 = true from fun h h' => by
    have a := sur_iff.1 (hx1.symm.trans h)
    have b := sur_iff.1 (hx3.symm.trans h')
    rw [hx4]
    exact sur_iff.2 ⟨a.1, b.2.1, by omega, by omega, by omega⟩)
  obtain ⟨CA, hCA⟩ : ∃ D, D = attC v1 s1 t1 h1 g1 := ⟨_, rfl⟩
  have lA := Lib.hid (show CA.length = 36 by rw [hCA]; exact len_attC f1.len v1 s1 t1 g1)
  have IA := Lib.hid (show (Tryd.prog.info? 26).map (·.size) = some CA.length by rw [lA.out]; exact info_att)
  have sA := Lib.hid (show CA.toArray.size = 36 by rw [List.size_toArray]; exact lA.out)
  have oA := Lib.hid (all_oneCell_toArray (cs := CA) (by rw [hCA]; exact att_cells _ _ _ _ _))
  have jA := Lib.hid (show (Tryd.prog.info? 26).map (·.size) = some CA.toArray.size by rw [sA.out]; exact info_att)
  obtain ⟨CB, hCB⟩ : ∃ D, D = attC v2 s2 t2 h2 g2 := ⟨_, rfl⟩
  have lB := Lib.hid (show CB.length = 36 by rw [hCB]; exact len_attC f2.len v2 s2 t2 g2)
  have IB := Lib.hid (show (Tryd.prog.info? 26).map (·.size) = some CB.length by rw [lB.out]; exact info_att)
  obtain ⟨CC, hCC⟩ : ∃ D, D = attC v3 s3 t3 h3 g3 := ⟨_, rfl⟩
  have lC := Lib.hid (show CC.length = 36 by rw [hCC]; exact len_attC f3.len v3 s3 t3 g3)
  have IC := Lib.hid (show (Tryd.prog.info? 26).map (·.size) = some CC.length by rw [lC.out]; exact info_att)
  obtain ⟨CO, hCO⟩ : ∃ D, D = attC v1 s1 t1 h1 tag := ⟨_, rfl⟩
  have lO := Lib.hid (show CO.length = 36 by rw [hCO]; exact len_attC f1.len v1 s1 t1 tag)
  have IO := Lib.hid (show (Tryd.prog.info? 26).map (·.size) = some CO.length by rw [lO.out]; exact info_att)
  obtain ⟨CP, hCP⟩ : ∃ D, D = propC v4 s4 h4 g4 := ⟨_, rfl⟩
  have lP := Lib.hid (show CP.length = 35 by rw [hCP]; exact len_propC f4.len v4 s4 g4)
  have IP := Lib.hid (show (Tryd.prog.info? 28).map (·.size) = some CP.length by rw [lP.out]; exact info_prop)
  have sP := Lib.hid (show CP.toArray.size = 35 by rw [List.size_toArray]; exact lP.out)
  have oP := Lib.hid (all_oneCell_toArray (cs := CP) (by rw [hCP]; exact prop_cells _ _ _ _))
  have jP := Lib.hid (show (Tryd.prog.info? 28).map (·.size) = some CP.toArray.size by rw [sP.out]; exact info_prop)
  obtain ⟨CQ, hCQ⟩ : ∃ D, D = propC v5 s5 h5 g5 := ⟨_, rfl⟩
  have lQ := Lib.hid (show CQ.length = 35 by rw [hCQ]; exact len_propC f5.len v5 s5 g5)
  have IQ := Lib.hid (show (Tryd.prog.info? 28).map (·.size) = some CQ.length by rw [lQ.out]; exact info_prop)
  obtain ⟨CK, hCK⟩ : ∃ D, D = propC v4 s4 h4 tag := ⟨_, rfl⟩
  have lK := Lib.hid (show CK.length = 35 by rw [hCK]; exact len_propC f4.len v4 s4 tag)
  have IK := Lib.hid (show (Tryd.prog.info? 28).map (·.size) = some CK.length by rw [lK.out]; exact info_prop)
  have TO := Lib.hid (show CA.toArray.setIfInBounds 35 (.int .u64 tag) = CO.toArray by rw [hCA, hCO]; exact att_tag v1 s1 t1 g1 tag h1 f1.len)
  have TK := Lib.hid (show CP.toArray.setIfInBounds 34 (.int .u64 tag) = CK.toArray by rw [hCP, hCK]; exact prop_tag v4 s4 g4 tag h4 f4.len)
  have dA := Lib.hid (show CA[35]? = some (.int .u64 g1) by rw [hCA]; simp [attC, f1.len])
  have dP := Lib.hid (show CP[34]? = some (.int .u64 g4) by rw [hCP]; simp [propC, f4.len])
  rw [← hCA, ← hCB] at DAB SAB
  rw [← hCB, ← hCA] at DBA SBA
  rw [← hCO, ← hCB] at DOB
  rw [← hCA, ← hCO] at DAO SAO
  rw [← hCP, ← hCQ] at EPQ
  rw [← hCQ, ← hCP] at EQP
  rw [← hCK, ← hCQ] at EKQ
  rw [← hCP, ← hCK] at EPK
  rw [← hCB, ← hCC] at SBC
  rw [← hCA, ← hCC] at SAC
  rw [← hCA, ← hCB, ← hCC, ← hCP, ← hCQ]
  clear hCA hCB hCC hCP hCQ hCO hCK hd1 he1 c1 c2 hx1 hx2 hx3 hx4 f1 f2 f3 f4 f5 ft
  obtain ⟨bA, hbA⟩ : ∃ b, b = w.heap.size + 0 := ⟨_, rfl⟩
  obtain ⟨bB, hbB⟩ : ∃ b, b = w.heap.size + 1 := ⟨_, rfl⟩
  obtain ⟨bC, hbC⟩ : ∃ b, b = w.heap.size + 2 := ⟨_, rfl⟩
  obtain ⟨bP, hbP⟩ : ∃ b, b = w.heap.size + 3 := ⟨_, rfl⟩
  obtain ⟨bQ, hbQ⟩ : ∃ b, b = w.heap.size + 4 := ⟨_, rfl⟩
  obtain ⟨W1, hWA⟩ : ∃ W, w.alloc (.cells CA.toArray 26) = W := ⟨_, rfl⟩
  have zA : W1.heap.size = w.heap.size + 1 := by rw [← hWA]; simp
  have kA : Bel w W1 := by rw [← hWA]; exact (Bel.refl _).alloc _
  have mA : Blk W1 bA CA.toArray 26 := by rw [← hWA, show bA = w.heap.size by omega]; exact Blk.new _ _ _
  obtain ⟨W2, hWB⟩ : ∃ W, W1.alloc (.cells CB.toArray 26) = W := ⟨_, rfl⟩
  have zB : W2.heap.size = w.heap.size + 2 := by rw [← hWB]; simp; omega
  have kB : Bel W1 W2 := by rw [← hWB]; exact (Bel.refl _).alloc _
  have mB : Blk W2 bB CB.toArray 26 := by rw [← hWB, show bB = W1.heap.size by omega]; exact Blk.new _ _ _
  obtain ⟨W3, hWC⟩ : ∃ W, W2.alloc (.cells CC.toArray 26) = W := ⟨_, rfl⟩
  have zC : W3.heap.size = w.heap.size + 3 := by rw [← hWC]; simp; omega
  have kC : Bel W2 W3 := by rw [← hWC]; exact (Bel.refl _).alloc _
  have mC : Blk W3 bC CC.toArray 26 := by rw [← hWC, show bC = W2.heap.size by omega]; exact Blk.new _ _ _
  obtain ⟨W4, hWP⟩ : ∃ W, W3.alloc (.cells CP.toArray 28) = W := ⟨_, rfl⟩
  have zP : W4.heap.size = w.heap.size + 4 := by rw [← hWP]; simp; omega
  have kP : Bel W3 W4 := by rw [← hWP]; exact (Bel.refl _).alloc _
  have mP : Blk W4 bP CP.toArray 28 := by rw [← hWP, show bP = W3.heap.size by omega]; exact Blk.new _ _ _
  obtain ⟨W, hWQ⟩ : ∃ W, W4.alloc (.cells CQ.toArray 28) = W := ⟨_, rfl⟩
  have zQ : W.heap.size = w.heap.size + 5 := by rw [← hWQ]; simp; omega
  have kQ : Bel W4 W := by rw [← hWQ]; exact (Bel.refl _).alloc _
  have mQ : Blk W bQ CQ.toArray 28 := by rw [← hWQ, show bQ = W4.heap.size by omega]; exact Blk.new _ _ _
  have LA := Lib.hid (show Blk W bA CA.toArray 26 from ((((mA.bel kB).bel kC).bel kP).bel kQ))
  have LB := Lib.hid (show Blk W bB CB.toArray 26 from (((mB.bel kC).bel kP).bel kQ))
  have LC := Lib.hid (show Blk W bC CC.toArray 26 from ((mC.bel kP).bel kQ))
  have LP := Lib.hid (show Blk W bP CP.toArray 28 from (mP.bel kQ))
  have LQ := Lib.hid (show Blk W bQ CQ.toArray 28 from mQ)
  have B0 := Lib.hid ((((kA.trans kB).trans kC).trans kP).trans kQ)
  have HT := Lib.hid (show ∀ X, Bel W X → Tn X from fun X hX => hT.bel (B0.out.trans hX))
  have XA := Lib.hid (show w.heap.size = bA by omega)
  have EA := Lib.hid hWA
  have XB := Lib.hid (show w.heap.size + 1 = bB by omega)
  have EB := Lib.hid hWB
  have XC := Lib.hid (show w.heap.size + 2 = bC by omega)
  have EC := Lib.hid hWC
  have XP := Lib.hid (show w.heap.size + 3 = bP by omega)
  have EP := Lib.hid hWP
  have XQ := Lib.hid (show w.heap.size + 4 = bQ by omega)
  have EQ := Lib.hid hWQ
  clear hbA hWA zA kA mA hbB hWB zB kB mB hbC hWC zC kC mC hbP hWP zP kP mP hbQ hWQ zQ kQ mQ hT
  go_enter Tryd.func7, Tryd.ntmps7
  go_upto_region 1 with fail
  rw [XQ.out, XP.out, XC.out, XB.out, XA.out, EA.out, EB.out, EC.out, EP.out, EQ.out]
  have KN := Lib.hid (knownLaw W (HT.out W (Bel.refl W)))
  go_wp2_with fail
  refine KN.out.mono ?_
  rintro e wk ⟨rfl, k1⟩
  have BK := Lib.hid (show Bel W wk from k1)
  have LA := Lib.hid (Blk.bel LA.out k1)
  have LB := Lib.hid (Blk.bel LB.out k1)
  have LC := Lib.hid (Blk.bel LC.out k1)
  have LP := Lib.hid (Blk.bel LP.out k1)
  have LQ := Lib.hid (Blk.bel LQ.out k1)
  clear k1 KN
  go_upto_region 2 with fail
  obtain ⟨V, hV⟩ : ∃ x, wk.drew = x := ⟨_, rfl⟩
  have BVV := Lib.hid (show Bel wk V by rw [← hV]; exact (Bel.refl wk).drew)
  have KS := Lib.hid (show ∀ X, Bel wk X → X.rangeAt bA 0 CA ∧ X.rangeAt bP 0 CP from fun X hX => ⟨range_blk (Blk.bel LA.out hX), range_blk (Blk.bel LP.out hX)⟩)
  have S0d := KS.out V BVV.out
  have uA := Tryd.underlying26
  have uP := Tryd.underlying28
  have iA := IA.out
  have iP := IP.out
  obtain ⟨n0, hn0⟩ : ∃ x, x = V.heap.size := ⟨_, rfl⟩
  obtain ⟨n1, hn1⟩ : ∃ x, x = V.heap.size + 1 := ⟨_, rfl⟩
  obtain ⟨VA, hVA⟩ : ∃ x, (V.alloc Z36).alloc Z35 = x := ⟨_, rfl⟩
  obtain ⟨VB, hVB⟩ : ∃ x, (V.alloc Z35).alloc Z36 = x := ⟨_, rfl⟩
  have zv := Below.size BVV.out
  have MA1 := Lib.hid (show Lie wk VA n0 zA' 26 from ⟨by rw [← hVA, hn0]; exact (Blk.new V _ _).bel ((Bel.refl _).alloc _), by omega⟩)
  have MP1 := Lib.hid (show Lie wk VA n1 zP' 28 from ⟨by rw [← hVA, show n1 = (V.alloc Z36).heap.size by rw [hn1]; simp]; exact Blk.new (V.alloc Z36) _ _, by omega⟩)
  have MP2 := Lib.hid (show Lie wk VB n0 zP' 28 from ⟨by rw [← hVB, hn0]; exact (Blk.new V _ _).bel ((Bel.refl _).alloc _), by omega⟩)
  have MA2 := Lib.hid (show Lie wk VB n1 zA' 26 from ⟨by rw [← hVB, show n1 = (V.alloc Z35).heap.size by rw [hn1]; simp]; exact Blk.new (V.alloc Z35) _ _, by omega⟩)
  have BV1 := Lib.hid (show Bel wk VA by rw [← hVA]; exact (BVV.out.alloc _).alloc _)
  have BV2 := Lib.hid (show Bel wk VB by rw [← hVB]; exact (BVV.out.alloc _).alloc _)
  have n01 : n0 ≠ n1 := by omega
  have Y0 := Lib.hid hn0
  have Y1 := Lib.hid hn1
  have E1 := Lib.hid hVA
  have E2 := Lib.hid hVB
  rw [← hV] at S0d
  clear hn0 hn1 hVA hVB zv
  go_cut [14, 15] (fun s14 s15 wx => ∃ x y, s14 = .pointer (some ⟨x, 0, none⟩) ∧ s15 = .pointer (some ⟨y, 0, none⟩) ∧ x ≠ y ∧ Lie wk wx x CA 26 ∧ Lie wk wx y CP 28 ∧ Bel wk wx)
  case first =>
    refine wp_region_held_drew (S := fun X => X.rangeAt bA 0 CA ∧ X.rangeAt bP 0 CP) (by kernel_rfl) S0d (fun hS0 => ?_)
    rw [hV] at hS0 ⊢
    clear hV S0d
    refine wpAnyH_take (i := 0) (oi := { dst := some 17, op := .load 26 (.tmp 6), type := 26, pos := "outright.go:110", after := #[], guard := none }) (v := .agg CA.toArray) rfl (by kernel_rfl) (by kernel_rfl) (by kernel_rfl) (fun _ _ _ h => h) (yieldsIf_load_mid (by rfl) _ _ rfl _ _ rfl _ _ (fun w h => h.1) uA rfl iA) hS0 ?_
    try simp only [Act.put, List.setIfInBounds_toArray, List.set_cons_zero, List.set_cons_succ]
    refine wpAnyH_take (i := 1) (oi := { dst := some 18, op := .load 28 (.tmp 9), type := 28, pos := "outright.go:110", after := #[{ on := 4, ground := .gcOnly .lateStores }], guard := none }) (v := .agg CP.toArray) rfl (by kernel_rfl) (by kernel_rfl) (by kernel_rfl) (fun _ _ _ h => h) (yieldsIf_load_mid (by rfl) _ _ rfl _ _ rfl _ _ (fun w h => h.2) uP rfl iP) hS0 ?_
    try simp only [Act.put, List.setIfInBounds_toArray, List.set_cons_zero, List.set_cons_succ]
    refine wpAnyH_ready (rs := [2, 3]) (by kernel_rfl) (by simp) ?_
    refine AllReadyH.cons (o := { dst := some 14, op := .alloc 26, type := 0, pos := "outright.go:110", after := #[], guard := none }) rfl (fun K hK => ?_) (AllReadyH.cons (o := { dst := some 15, op := .alloc 28, type := 0, pos := "outright.go:110", after := #[], guard := none }) rfl (fun K hK => ?_) AllReadyH.nil)
    · go_simp
      refine hK.out _ _ (KS.out _ (BVV.out.alloc _)) (fun hS1 => ?_)
      clear hK K
      try simp only [Act.put, List.setIfInBounds_toArray, List.set_cons_zero, List.set_cons_succ]
      refine wpAnyH_ready (rs := [3]) (by kernel_rfl) (by simp) ?_
      refine AllReadyH.cons (o := { dst := some 15, op := .alloc 28, type := 0, pos := "outright.go:110", after := #[], guard := none }) rfl (fun K hK => ?_) AllReadyH.nil
      go_simp
      refine hK.out _ _ (KS.out _ ((BVV.out.alloc _).alloc _)) (fun hS2 => ?_)
      clear hK K
      try simp only [Act.put, List.setIfInBounds_toArray, List.set_cons_zero, List.set_cons_succ]
      rw [E1.out]
      try rw [← Y1.out]
      rw [← Y0.out]
      clear hS0 hS1 hS2
      refine wpAnyH_ready (rs := [4]) (by kernel_rfl) (by simp) ?_
      refine AllReadyH.cons (o := { dst := none, op := .store 26 (.tmp 14) (.tmp 17), type := 0, pos := "outright.go:110", after := #[{ on := 2, ground := .data }, { on := 0, ground := .data }, { on := 0, ground := .phase }, { on := 1, ground := .textOnly .lateStores }, { on := 2, ground := .phase }, { on := 3, ground := .phase }], guard := none }) rfl (fun K hK => ?_) AllReadyH.nil
      rw [if_pos (by rfl)]
      refine wp_store_mid 26 (.tmp 14) (.tmp 17) rfl n0 0 CA.toArray rfl rfl (by rw [sA.out]; exact MA1.out.blk.there 0 _ (Nat.le_refl _)) jA.out oA.out ?_
      obtain ⟨V4, hv⟩ : ∃ x, VA.setCells n0 0 CA = x := ⟨_, rfl⟩
      rw [show CA.toArray.toList = CA from rfl, hv]
      have m1 : Lie wk V4 n0 CA 26 := by rw [← hv]; exact MA1.out.put (by rw [lA.out]; rfl)
      have m2 : Lie wk V4 n1 zP' 28 := by rw [← hv]; exact MP1.out.kep (kput CA) (by omega)
      have bb : Bel wk V4 := by rw [← hv]; exact Kep.bel BV1.out (kput CA) (fun i hi => by have := m1.low; omega)
      refine hK.out _ _ (KS.out _ bb) (fun hS4 => ?_)
      clear hK K hv
      try simp only [Act.put]
      refine wpAnyH_ready (rs := [5]) (by kernel_rfl) (by simp) ?_
      refine AllReadyH.cons (o := { dst := none, op := .store 28 (.tmp 15) (.tmp 18), type := 0, pos := "outright.go:110", after := #[{ on := 3, ground := .data }, { on := 1, ground := .data }, { on := 4, ground := .chain }, { on := 0, ground := .phase }, { on := 1, ground := .phase }, { on := 2, ground := .phase }, { on := 3, ground := .phase }, { on := 4, ground := .phase }], guard := none }) rfl (fun K hK => ?_) AllReadyH.nil
      rw [if_pos (by rfl)]
      refine wp_store_mid 28 (.tmp 15) (.tmp 18) rfl n1 0 CP.toArray rfl rfl (by rw [sP.out]; exact m2.blk.there 0 _ (Nat.le_refl _)) jP.out oP.out ?_
      obtain ⟨V5, hv⟩ : ∃ x, V4.setCells n1 0 CP = x := ⟨_, rfl⟩
      rw [show CP.toArray.toList = CP from rfl, hv]
      have m1 : Lie wk V5 n0 CA 26 := by rw [← hv]; exact m1.kep (kput CP) (by omega)
      have m2 : Lie wk V5 n1 CP 28 := by rw [← hv]; exact m2.put (by rw [lP.out]; rfl)
      have bb : Bel wk V5 := by rw [← hv]; exact Kep.bel bb (kput CP) (fun i hi => by have := m2.low; omega)
      refine hK.out _ _ (KS.out _ bb) (fun hS5 => ?_)
      clear hK K hv
      try simp only [Act.put]
      refine wpAnyH_done (by kernel_rfl) ?_ _
      go_wp2_with fail
      go_meet
      exact ⟨n0, n1, rfl, rfl, by omega, m1, m2, bb⟩
    · go_simp
      refine hK.out _ _ (KS.out _ (BVV.out.alloc _)) (fun hS1 => ?_)
      clear hK K
      try simp only [Act.put, List.setIfInBounds_toArray, List.set_cons_zero, List.set_cons_succ]
      refine wpAnyH_ready (rs := [2]) (by kernel_rfl) (by simp) ?_
      refine AllReadyH.cons (o := { dst := some 14, op := .alloc 26, type := 0, pos := "outright.go:110", after := #[], guard := none }) rfl (fun K hK => ?_) AllReadyH.nil
      go_simp
      refine hK.out _ _ (KS.out _ ((BVV.out.alloc _).alloc _)) (fun hS2 => ?_)
      clear hK K
      try simp only [Act.put, List.setIfInBounds_toArray, List.set_cons_zero, List.set_cons_succ]
      rw [E2.out]
      try rw [← Y1.out]
      rw [← Y0.out]
      clear hS0 hS1 hS2
      refine wpAnyH_ready (rs := [4]) (by kernel_rfl) (by simp) ?_
      refine AllReadyH.cons (o := { dst := none, op := .store 26 (.tmp 14) (.tmp 17), type := 0, pos := "outright.go:110", after := #[{ on := 2, ground := .data }, { on := 0, ground := .data }, { on := 0, ground := .phase }, { on := 1, ground := .textOnly .lateStores }, { on := 2, ground := .phase }, { on := 3, ground := .phase }], guard := none }) rfl (fun K hK => ?_) AllReadyH.nil
      rw [if_pos (by rfl)]
      refine wp_store_mid 26 (.tmp 14) (.tmp 17) rfl n1 0 CA.toArray rfl rfl (by rw [sA.out]; exact MA2.out.blk.there 0 _ (Nat.le_refl _)) jA.out oA.out ?_
      obtain ⟨V4, hv⟩ : ∃ x, VB.setCells n1 0 CA = x := ⟨_, rfl⟩
      rw [show CA.toArray.toList = CA from rfl, hv]
      have m1 : Lie wk V4 n1 CA 26 := by rw [← hv]; exact MA2.out.put (by rw [lA.out]; rfl)
      have m2 : Lie wk V4 n0 zP' 28 := by rw [← hv]; exact MP2.out.kep (kput CA) (by omega)
      have bb : Bel wk V4 := by rw [← hv]; exact Kep.bel BV2.out (kput CA) (fun i hi => by have := m1.low; omega)
      refine hK.out _ _ (KS.out _ bb) (fun hS4 => ?_)
      clear hK K hv
      try simp only [Act.put]
      refine wpAnyH_ready (rs := [5]) (by kernel_rfl) (by simp) ?_
      refine AllReadyH.cons (o := { dst := none, op := .store 28 (.tmp 15) (.tmp 18), type := 0, pos := "outright.go:110", after := #[{ on := 3, ground := .data }, { on := 1, ground := .data }, { on := 4, ground := .chain }, { on := 0, ground := .phase }, { on := 1, ground := .phase }, { on := 2, ground := .phase }, { on := 3, ground := .phase }, { on := 4, ground := .phase }], guard := none }) rfl (fun K hK => ?_) AllReadyH.nil
      rw [if_pos (by rfl)]
      refine wp_store_mid 28 (.tmp 15) (.tmp 18) rfl n0 0 CP.toArray rfl rfl (by rw [sP.out]; exact m2.blk.there 0 _ (Nat.le_refl _)) jP.out oP.out ?_
      obtain ⟨V5, hv⟩ : ∃ x, V4.setCells n0 0 CP = x := ⟨_, rfl⟩
      rw [show CP.toArray.toList = CP from rfl, hv]
      have m1 : Lie wk V5 n1 CA 26 := by rw [← hv]; exact m1.kep (kput CP) (by omega)
      have m2 : Lie wk V5 n0 CP 28 := by rw [← hv]; exact m2.put (by rw [lP.out]; rfl)
      have bb : Bel wk V5 := by rw [← hv]; exact Kep.bel bb (kput CP) (fun i hi => by have := m2.low; omega)
      refine hK.out _ _ (KS.out _ bb) (fun hS5 => ?_)
      clear hK K hv
      try simp only [Act.put]
      refine wpAnyH_done (by kernel_rfl) ?_ _
      go_wp2_with fail
      go_meet
      exact ⟨n1, n0, rfl, rfl, by omega, m1, m2, bb⟩
  case rest =>
  obtain ⟨x, y, rfl, rfl, nxy, lx, ly, hB⟩ := hcut
  clear KS MA1 MA2 MP1 MP2 BV1 BV2 n01 Y0 Y1 E1 E2 uA uP iA iP BVV
  have c0 : wc.cell? ⟨x, 35, none⟩ = some (.int .u64 g1) := lx.blk.cell 35 (by rw [List.getElem?_toArray]; exact dA.out)
  have f0 : wc.frozen? ⟨x, 35, none⟩ = false := lx.blk.frozen 35
  go_upto_region 4 with fail
  obtain ⟨wa, hw⟩ : ∃ ww, wc.setCell ⟨x, 35, none⟩ (.int .u64 tag) = ww := ⟨_, rfl⟩
  have lx : Lie wk wa x CO 26 := by rw [← hw]; exact lx.set 35 _ TO.out
  have ly : Lie wk wa y CP 28 := by rw [← hw]; exact ly.kep (kset 35 _) (by omega)
  have hB : Bel wk wa := by rw [← hw]; exact Kep.bel hB (kset 35 _) (fun i hi => by have := lx.low; omega)
  rw [hw]
  clear c0 f0 hw
  have c0 : wa.cell? ⟨y, 34, none⟩ = some (.int .u64 g4) := ly.blk.cell 34 (by rw [List.getElem?_toArray]; exact dP.out)
  have f0 : wa.frozen? ⟨y, 34, none⟩ = false := ly.blk.frozen 34
  go_upto_region 5 with fail
  obtain ⟨w7, hw⟩ : ∃ ww, wa.setCell ⟨y, 34, none⟩ (.int .u64 tag) = ww := ⟨_, rfl⟩
  have lx : Lie wk w7 x CO 26 := by rw [← hw]; exact lx.kep (kset 34 _) (by omega)
  have ly : Lie wk w7 y CK 28 := by rw [← hw]; exact ly.set 34 _ TK.out
  have hB : Bel wk w7 := by rw [← hw]; exact Kep.bel hB (kset 34 _) (fun i hi => by have := ly.low; omega)
  rw [hw]
  clear c0 f0 hw
  have RO := Lib.hid (show ∀ (X : World), Bel w7 X → X.rangeAt x 0 CO from fun X h => range_blk (Blk.bel lx.blk h))
  have RK := Lib.hid (show ∀ (X : World), Bel w7 X → X.rangeAt y 0 CK from fun X h => range_blk (Blk.bel ly.blk h))
  have RA := Lib.hid (show ∀ (X : World), Bel w7 X → X.rangeAt bA 0 CA from fun X h => range_blk (Blk.bel LA.out (hB.trans h)))
  have RB := Lib.hid (show ∀ (X : World), Bel w7 X → X.rangeAt bB 0 CB from fun X h => range_blk (Blk.bel LB.out (hB.trans h)))
  have RC := Lib.hid (show ∀ (X : World), Bel w7 X → X.rangeAt bC 0 CC from fun X h => range_blk (Blk.bel LC.out (hB.trans h)))
  have RP := Lib.hid (show ∀ (X : World), Bel w7 X → X.rangeAt bP 0 CP from fun X h => range_blk (Blk.bel LP.out (hB.trans h)))
  have RQ := Lib.hid (show ∀ (X : World), Bel w7 X → X.rangeAt bQ 0 CQ from fun X h => range_blk (Blk.bel LQ.out (hB.trans h)))
  have B7 := Lib.hid (BK.out.trans hB)
  have TT := Lib.hid (show ∀ X : World, Bel w7 X → Tn X from fun X h => HT.out X (B7.out.trans h))
  have KEEP := Lib.hid (show ∀ X Y : World, Bel w7 X → Bel X Y → Bel w7 Y from fun X Y h h' => h.trans h')
  have S0d : Bel w7 w7.drew := (Bel.refl w7).drew
  have uA := Tryd.underlying26
  have uP := Tryd.underlying28
  have iCA := IA.out
  have iCB := IB.out
  have iCO := IO.out
  have iCP := IP.out
  have iCQ := IQ.out
  have iCK := IK.out
  clear hB lx ly nxy LA LB LC LP LQ
  go_cut [66] (fun s66 wx => s66 = .bool false ∧ Bel w7 wx)
  case first =>
    refine wp_region_held_drew (S := fun X => Bel w7 X) (by kernel_rfl) S0d (fun hS0 => ?_)
    obtain ⟨w8, hw8⟩ : ∃ x, w7.drew = x := ⟨_, rfl⟩
    rw [hw8] at hS0 ⊢
    clear hw8 S0d
    refine wpAnyH_take (i := 0) (oi := { dst := some 23, op := .load 26 (.tmp 6), type := 26, pos := "outright.go:113", after := #[], guard := none }) (v := .agg CA.toArray) rfl (by kernel_rfl) (by kernel_rfl) (by kernel_rfl) (fun _ _ _ h => h) (yieldsIf_load_mid (by rfl) _ _ rfl _ _ rfl _ _ (fun w h => RA.out w h) uA rfl iCA) hS0 ?_
    try simp only [Act.put, List.setIfInBounds_toArray, List.set_cons_zero, List.set_cons_succ]
    refine wpAnyH_take (i := 1) (oi := { dst := some 24, op := .load 26 (.tmp 7), type := 26, pos := "outright.go:113", after := #[], guard := none }) (v := .agg CB.toArray) rfl (by kernel_rfl) (by kernel_rfl) (by kernel_rfl) (fun _ _ _ h => h) (yieldsIf_load_mid (by rfl) _ _ rfl _ _ rfl _ _ (fun w h => RB.out w h) uA rfl iCB) hS0 ?_
    try simp only [Act.put, List.setIfInBounds_toArray, List.set_cons_zero, List.set_cons_succ]
    refine wpAnyH_take (i := 3) (oi := { dst := some 26, op := .load 26 (.tmp 7), type := 26, pos := "outright.go:113", after := #[], guard := none }) (v := .agg CB.toArray) rfl (by kernel_rfl) (by kernel_rfl) (by kernel_rfl) (fun _ _ _ h => h) (yieldsIf_load_mid (by rfl) _ _ rfl _ _ rfl _ _ (fun w h => RB.out w h) uA rfl iCB) hS0 ?_
    try simp only [Act.put, List.setIfInBounds_toArray, List.set_cons_zero, List.set_cons_succ]
    refine wpAnyH_take (i := 4) (oi := { dst := some 27, op := .load 26 (.tmp 6), type := 26, pos := "outright.go:113", after := #[], guard := none }) (v := .agg CA.toArray) rfl (by kernel_rfl) (by kernel_rfl) (by kernel_rfl) (fun _ _ _ h => h) (yieldsIf_load_mid (by rfl) _ _ rfl _ _ rfl _ _ (fun w h => RA.out w h) uA rfl iCA) hS0 ?_
    try simp only [Act.put, List.setIfInBounds_toArray, List.set_cons_zero, List.set_cons_succ]
    refine wpAnyH_ready (rs := [2]) (by kernel_rfl) (by simp) ?_
    refine AllReadyH.cons (o := { dst := some 25, op := .call { callee := .value (.func 23), args := #[.tmp 23, .tmp 24], argTypes := #[26, 26] }, type := 4, pos := "outright.go:113", after := #[{ on := 0, ground := .data }, { on := 1, ground := .data }], guard := none }) rfl (fun K hK => ?_) AllReadyH.nil
    go_simp
    refine (DAB.out _ (TT.out _ hS0)).mono ?_
    rintro e v1 ⟨rfl, k2⟩
    go_wp2_with fail
    refine hK.out _ _ (KEEP.out _ _ hS0 k2) (fun hS1 => ?_)
    clear hK K
    try simp only [Act.put, List.setIfInBounds_toArray, List.set_cons_zero, List.set_cons_succ]
    refine wpAnyH_ready (rs := [5]) (by kernel_rfl) (by simp) ?_
    refine AllReadyH.cons (o := { dst := some 28, op := .call { callee := .value (.func 23), args := #[.tmp 26, .tmp 27], argTypes := #[26, 26] }, type := 4, pos := "outright.go:113", after := #[{ on := 3, ground := .data }, { on := 4, ground := .data }, { on := 2, ground := .chain }], guard := none }) rfl (fun K hK => ?_) AllReadyH.nil
    go_simp
    refine (DBA.out _ (TT.out _ hS1)).mono ?_
    rintro e v2 ⟨rfl, k5⟩
    go_wp2_with fail
    refine hK.out _ _ (KEEP.out _ _ hS1 k5) (fun hS2 => ?_)
    clear hK K
    try simp only [Act.put, List.setIfInBounds_toArray, List.set_cons_zero, List.set_cons_succ]
    refine wpAnyH_take (i := 6) (oi := { dst := some 29, op := .binOp .neq 4 (.tmp 25) (.tmp 28) 4, type := 4, pos := "outright.go:113", after := #[{ on := 2, ground := .data }, { on := 5, ground := .data }], guard := none }) (v := .bool false) rfl (by kernel_rfl) (by kernel_rfl) (by kernel_rfl) (fun _ _ _ h => h) (Or.inl ⟨by rfl, by intro w hSw; clear hSw; go_simp⟩) hS2 ?_
    try simp only [Act.put, List.setIfInBounds_toArray, List.set_cons_zero, List.set_cons_succ]
    refine wpAnyH_take (i := 7) (oi := { dst := some 30, op := .move (.tmp 29), type := 4, pos := "outright.go:113", after := #[{ on := 6, ground := .data }, { on := 5, ground := .chain }], guard := none }) (v := .bool false) rfl (by kernel_rfl) (by kernel_rfl) (by kernel_rfl) (fun _ _ _ h => h) (Or.inl ⟨by rfl, by intro w hSw; clear hSw; go_simp⟩) hS2 ?_
    try simp only [Act.put, List.setIfInBounds_toArray, List.set_cons_zero, List.set_cons_succ]
    refine wpAnyH_take (i := 8) (oi := { dst := some 31, op := .load 26 (.tmp 6), type := 26, pos := "outright.go:113", after := #[{ on := 7, ground := .guard }], guard := some (7, false) }) (v := .agg CA.toArray) rfl (by kernel_rfl) (by kernel_rfl) (by kernel_rfl) (fun _ _ _ h => h) (yieldsIf_load_mid (by rfl) _ _ rfl _ _ rfl _ _ (fun w h => RA.out w h) uA rfl iCA) hS2 ?_
    try simp only [Act.put, List.setIfInBounds_toArray, List.set_cons_zero, List.set_cons_succ]
    refine wpAnyH_take (i := 9) (oi := { dst := some 32, op := .load 26 (.tmp 7), type := 26, pos := "outright.go:113", after := #[{ on := 7, ground := .guard }], guard := some (7, false) }) (v := .agg CB.toArray) rfl (by kernel_rfl) (by kernel_rfl) (by kernel_rfl) (fun _ _ _ h => h) (yieldsIf_load_mid (by rfl) _ _ rfl _ _ rfl _ _ (fun w h => RB.out w h) uA rfl iCB) hS2 ?_
    try simp only [Act.put, List.setIfInBounds_toArray, List.set_cons_zero, List.set_cons_succ]
    refine wpAnyH_take (i := 11) (oi := { dst := some 34, op := .load 26 (.tmp 14), type := 26, pos := "outright.go:113", after := #[{ on := 7, ground := .guard }], guard := some (7, false) }) (v := .agg CO.toArray) rfl (by kernel_rfl) (by kernel_rfl) (by kernel_rfl) (fun _ _ _ h => h) (yieldsIf_load_mid (by rfl) _ _ rfl _ _ rfl _ _ (fun w h => RO.out w h) uA rfl iCO) hS2 ?_
    try simp only [Act.put, List.setIfInBounds_toArray, List.set_cons_zero, List.set_cons_succ]
    refine wpAnyH_take (i := 12) (oi := { dst := some 35, op := .load 26 (.tmp 7), type := 26, pos := "outright.go:113", after := #[{ on := 7, ground := .guard }], guard := some (7, false) }) (v := .agg CB.toArray) rfl (by kernel_rfl) (by kernel_rfl) (by kernel_rfl) (fun _ _ _ h => h) (yieldsIf_load_mid (by rfl) _ _ rfl _ _ rfl _ _ (fun w h => RB.out w h) uA rfl iCB) hS2 ?_
    try simp only [Act.put, List.setIfInBounds_toArray, List.set_cons_zero, List.set_cons_succ]
    refine wpAnyH_ready (rs := [10]) (by kernel_rfl) (by simp) ?_
    refine AllReadyH.cons (o := { dst := some 33, op := .call { callee := .value (.func 23), args := #[.tmp 31, .tmp 32], argTypes := #[26, 26] }, type := 4, pos := "outright.go:113", after := #[{ on := 8, ground := .data }, { on := 9, ground := .data }, { on := 7, ground := .chain }, { on := 7, ground := .guard }], guard := some (7, false) }) rfl (fun K hK => ?_) AllReadyH.nil
    go_simp
    refine (DAB.out _ (TT.out _ hS2)).mono ?_
    rintro e v3 ⟨rfl, k10⟩
    go_wp2_with fail
    refine hK.out _ _ (KEEP.out _ _ hS2 k10) (fun hS3 => ?_)
    clear hK K
    try simp only [Act.put, List.setIfInBounds_toArray, List.set_cons_zero, List.set_cons_succ]
    refine wpAnyH_ready (rs := [13]) (by kernel_rfl) (by simp) ?_
    refine AllReadyH.cons (o := { dst := some 36, op := .call { callee := .value (.func 23), args := #[.tmp 34, .tmp 35], argTypes := #[26, 26] }, type := 4, pos := "outright.go:113", after := #[{ on := 11, ground := .data }, { on := 12, ground := .data }, { on := 10, ground := .chain }, { on := 7, ground := .guard }], guard := some (7, false) }) rfl (fun K hK => ?_) AllReadyH.nil
    go_simp
    refine (DOB.out _ (TT.out _ hS3)).mono ?_
    rintro e v4 ⟨rfl, k13⟩
    go_wp2_with fail
    refine hK.out _ _ (KEEP.out _ _ hS3 k13) (fun hS4 => ?_)
    clear hK K
    try simp only [Act.put, List.setIfInBounds_toArray, List.set_cons_zero, List.set_cons_succ]
    refine wpAnyH_take (i := 14) (oi := { dst := some 37, op := .binOp .neq 4 (.tmp 33) (.tmp 36) 4, type := 4, pos := "outright.go:113", after := #[{ on := 10, ground := .data }, { on := 13, ground := .data }, { on := 7, ground := .guard }], guard := some (7, false) }) (v := .bool false) rfl (by kernel_rfl) (by kernel_rfl) (by kernel_rfl) (fun _ _ _ h => h) (Or.inl ⟨by rfl, by intro w hSw; clear hSw; go_simp⟩) hS4 ?_
    try simp only [Act.put, List.setIfInBounds_toArray, List.set_cons_zero, List.set_cons_succ]
    refine wpAnyH_take (i := 15) (oi := { dst := some 38, op := .pick (.tmp 30) (.const (Value.bool true)) (.tmp 37), type := 4, pos := "outright.go:113", after := #[{ on := 7, ground := .data }, { on := 14, ground := .data }], guard := none }) (v := .bool false) rfl (by kernel_rfl) (by kernel_rfl) (by kernel_rfl) (fun _ _ _ h => h) (Or.inl ⟨by rfl, by intro w hSw; clear hSw; go_simp⟩) hS4 ?_
    try simp only [Act.put, List.setIfInBounds_toArray, List.set_cons_zero, List.set_cons_succ]
    refine wpAnyH_take (i := 16) (oi := { dst := some 39, op := .move (.tmp 38), type := 4, pos := "outright.go:113", after := #[{ on := 15, ground := .data }, { on := 13, ground := .chain }], guard := none }) (v := .bool false) rfl (by kernel_rfl) (by kernel_rfl) (by kernel_rfl) (fun _ _ _ h => h) (Or.inl ⟨by rfl, by intro w hSw; clear hSw; go_simp⟩) hS4 ?_
    try simp only [Act.put, List.setIfInBounds_toArray, List.set_cons_zero, List.set_cons_succ]
    refine wpAnyH_take (i := 17) (oi := { dst := some 40, op := .load 26 (.tmp 6), type := 26, pos := "outright.go:113", after := #[{ on := 16, ground := .guard }], guard := some (16, false) }) (v := .agg CA.toArray) rfl (by kernel_rfl) (by kernel_rfl) (by kernel_rfl) (fun _ _ _ h => h) (yieldsIf_load_mid (by rfl) _ _ rfl _ _ rfl _ _ (fun w h => RA.out w h) uA rfl iCA) hS4 ?_
    try simp only [Act.put, List.setIfInBounds_toArray, List.set_cons_zero, List.set_cons_succ]
    refine wpAnyH_take (i := 18) (oi := { dst := some 41, op := .load 26 (.tmp 14), type := 26, pos := "outright.go:113", after := #[{ on := 16, ground := .guard }], guard := some (16, false) }) (v := .agg CO.toArray) rfl (by kernel_rfl) (by kernel_rfl) (by kernel_rfl) (fun _ _ _ h => h) (yieldsIf_load_mid (by rfl) _ _ rfl _ _ rfl _ _ (fun w h => RO.out w h) uA rfl iCO) hS4 ?_
    try simp only [Act.put, List.setIfInBounds_toArray, List.set_cons_zero, List.set_cons_succ]
    refine wpAnyH_ready (rs := [19]) (by kernel_rfl) (by simp) ?_
    refine AllReadyH.cons (o := { dst := some 42, op := .call { callee := .value (.func 23), args := #[.tmp 40, .tmp 41], argTypes := #[26, 26] }, type := 4, pos := "outright.go:113", after := #[{ on := 17, ground := .data }, { on := 18, ground := .data }, { on := 16, ground := .chain }, { on := 16, ground := .guard }], guard := some (16, false) }) rfl (fun K hK => ?_) AllReadyH.nil
    go_simp
    refine (DAO.out _ (TT.out _ hS4)).mono ?_
    rintro e v5 ⟨rfl, k19⟩
    go_wp2_with fail
    refine hK.out _ _ (KEEP.out _ _ hS4 k19) (fun hS5 => ?_)
    clear hK K
    try simp only [Act.put, List.setIfInBounds_toArray, List.set_cons_zero, List.set_cons_succ]
    refine wpAnyH_take (i := 20) (oi := { dst := some 43, op := .pick (.tmp 39) (.const (Value.bool true)) (.tmp 42), type := 4, pos := "outright.go:113", after := #[{ on := 16, ground := .data }, { on := 19, ground := .data }], guard := none }) (v := .bool false) rfl (by kernel_rfl) (by kernel_rfl) (by kernel_rfl) (fun _ _ _ h => h) (Or.inl ⟨by rfl, by intro w hSw; clear hSw; go_simp⟩) hS5 ?_
    try simp only [Act.put, List.setIfInBounds_toArray, List.set_cons_zero, List.set_cons_succ]
    refine wpAnyH_take (i := 21) (oi := { dst := some 44, op := .move (.tmp 43), type := 4, pos := "outright.go:113", after := #[{ on := 20, ground := .data }, { on := 19, ground := .chain }], guard := none }) (v := .bool false) rfl (by kernel_rfl) (by kernel_rfl) (by kernel_rfl) (fun _ _ _ h => h) (Or.inl ⟨by rfl, by intro w hSw; clear hSw; go_simp⟩) hS5 ?_
    try simp only [Act.put, List.setIfInBounds_toArray, List.set_cons_zero, List.set_cons_succ]
    refine wpAnyH_take (i := 22) (oi := { dst := some 45, op := .load 28 (.tmp 9), type := 28, pos := "outright.go:113", after := #[{ on := 21, ground := .guard }], guard := some (21, false) }) (v := .agg CP.toArray) rfl (by kernel_rfl) (by kernel_rfl) (by kernel_rfl) (fun _ _ _ h => h) (yieldsIf_load_mid (by rfl) _ _ rfl _ _ rfl _ _ (fun w h => RP.out w h) uP rfl iCP) hS5 ?_
    try simp only [Act.put, List.setIfInBounds_toArray, List.set_cons_zero, List.set_cons_succ]
    refine wpAnyH_take (i := 23) (oi := { dst := some 46, op := .load 28 (.tmp 10), type := 28, pos := "outright.go:113", after := #[{ on := 21, ground := .guard }], guard := some (21, false) }) (v := .agg CQ.toArray) rfl (by kernel_rfl) (by kernel_rfl) (by kernel_rfl) (fun _ _ _ h => h) (yieldsIf_load_mid (by rfl) _ _ rfl _ _ rfl _ _ (fun w h => RQ.out w h) uP rfl iCQ) hS5 ?_
    try simp only [Act.put, List.setIfInBounds_toArray, List.set_cons_zero, List.set_cons_succ]
    refine wpAnyH_take (i := 25) (oi := { dst := some 48, op := .load 28 (.tmp 10), type := 28, pos := "outright.go:113", after := #[{ on := 21, ground := .guard }], guard := some (21, false) }) (v := .agg CQ.toArray) rfl (by kernel_rfl) (by kernel_rfl) (by kernel_rfl) (fun _ _ _ h => h) (yieldsIf_load_mid (by rfl) _ _ rfl _ _ rfl _ _ (fun w h => RQ.out w h) uP rfl iCQ) hS5 ?_
    try simp only [Act.put, List.setIfInBounds_toArray, List.set_cons_zero, List.set_cons_succ]
    refine wpAnyH_take (i := 26) (oi := { dst := some 49, op := .load 28 (.tmp 9), type := 28, pos := "outright.go:113", after := #[{ on := 21, ground := .guard }], guard := some (21, false) }) (v := .agg CP.toArray) rfl (by kernel_rfl) (by kernel_rfl) (by kernel_rfl) (fun _ _ _ h => h) (yieldsIf_load_mid (by rfl) _ _ rfl _ _ rfl _ _ (fun w h => RP.out w h) uP rfl iCP) hS5 ?_
    try simp only [Act.put, List.setIfInBounds_toArray, List.set_cons_zero, List.set_cons_succ]
    refine wpAnyH_ready (rs := [24]) (by kernel_rfl) (by simp) ?_
    refine AllReadyH.cons (o := { dst := some 47, op := .call { callee := .value (.func 27), args := #[.tmp 45, .tmp 46], argTypes := #[28, 28] }, type := 4, pos := "outright.go:113", after := #[{ on := 22, ground := .data }, { on := 23, ground := .data }, { on := 21, ground := .chain }, { on := 21, ground := .guard }], guard := some (21, false) }) rfl (fun K hK => ?_) AllReadyH.nil
    go_simp
    refine (EPQ.out _ (TT.out _ hS5)).mono ?_
    rintro e v6 ⟨rfl, k24⟩
    go_wp2_with fail
    refine hK.out _ _ (KEEP.out _ _ hS5 k24) (fun hS6 => ?_)
    clear hK K
    try simp only [Act.put, List.setIfInBounds_toArray, List.set_cons_zero, List.set_cons_succ]
    refine wpAnyH_ready (rs := [27]) (by kernel_rfl) (by simp) ?_
    refine AllReadyH.cons (o := { dst := some 50, op := .call { callee := .value (.func 27), args := #[.tmp 48, .tmp 49], argTypes := #[28, 28] }, type := 4, pos := "outright.go:113", after := #[{ on := 25, ground := .data }, { on := 26, ground := .data }, { on := 24, ground := .chain }, { on := 21, ground := .guard }], guard := some (21, false) }) rfl (fun K hK => ?_) AllReadyH.nil
    go_simp
    refine (EQP.out _ (TT.out _ hS6)).mono ?_
    rintro e v7 ⟨rfl, k27⟩
    go_wp2_with fail
    refine hK.out _ _ (KEEP.out _ _ hS6 k27) (fun hS7 => ?_)
    clear hK K
    try simp only [Act.put, List.setIfInBounds_toArray, List.set_cons_zero, List.set_cons_succ]
    refine wpAnyH_take (i := 28) (oi := { dst := some 51, op := .binOp .neq 4 (.tmp 47) (.tmp 50) 4, type := 4, pos := "outright.go:113", after := #[{ on := 24, ground := .data }, { on := 27, ground := .data }, { on := 21, ground := .guard }], guard := some (21, false) }) (v := .bool false) rfl (by kernel_rfl) (by kernel_rfl) (by kernel_rfl) (fun _ _ _ h => h) (Or.inl ⟨by rfl, by intro w hSw; clear hSw; go_simp⟩) hS7 ?_
    try simp only [Act.put, List.setIfInBounds_toArray, List.set_cons_zero, List.set_cons_succ]
    refine wpAnyH_take (i := 29) (oi := { dst := some 52, op := .pick (.tmp 44) (.const (Value.bool true)) (.tmp 51), type := 4, pos := "outright.go:113", after := #[{ on := 21, ground := .data }, { on := 28, ground := .data }], guard := none }) (v := .bool false) rfl (by kernel_rfl) (by kernel_rfl) (by kernel_rfl) (fun _ _ _ h => h) (Or.inl ⟨by rfl, by intro w hSw; clear hSw; go_simp⟩) hS7 ?_
    try simp only [Act.put, List.setIfInBounds_toArray, List.set_cons_zero, List.set_cons_succ]
    refine wpAnyH_take (i := 30) (oi := { dst := some 53, op := .move (.tmp 52), type := 4, pos := "outright.go:113", after := #[{ on := 29, ground := .data }, { on := 27, ground := .chain }], guard := none }) (v := .bool false) rfl (by kernel_rfl) (by kernel_rfl) (by kernel_rfl) (fun _ _ _ h => h) (Or.inl ⟨by rfl, by intro w hSw; clear hSw; go_simp⟩) hS7 ?_
    try simp only [Act.put, List.setIfInBounds_toArray, List.set_cons_zero, List.set_cons_succ]
    refine wpAnyH_take (i := 31) (oi := { dst := some 54, op := .load 28 (.tmp 9), type := 28, pos := "outright.go:113", after := #[{ on := 30, ground := .guard }], guard := some (30, false) }) (v := .agg CP.toArray) rfl (by kernel_rfl) (by kernel_rfl) (by kernel_rfl) (fun _ _ _ h => h) (yieldsIf_load_mid (by rfl) _ _ rfl _ _ rfl _ _ (fun w h => RP.out w h) uP rfl iCP) hS7 ?_
    try simp only [Act.put, List.setIfInBounds_toArray, List.set_cons_zero, List.set_cons_succ]
    refine wpAnyH_take (i := 32) (oi := { dst := some 55, op := .load 28 (.tmp 10), type := 28, pos := "outright.go:113", after := #[{ on := 30, ground := .guard }], guard := some (30, false) }) (v := .agg CQ.toArray) rfl (by kernel_rfl) (by kernel_rfl) (by kernel_rfl) (fun _ _ _ h => h) (yieldsIf_load_mid (by rfl) _ _ rfl _ _ rfl _ _ (fun w h => RQ.out w h) uP rfl iCQ) hS7 ?_
    try simp only [Act.put, List.setIfInBounds_toArray, List.set_cons_zero, List.set_cons_succ]
    refine wpAnyH_take (i := 34) (oi := { dst := some 57, op := .load 28 (.tmp 15), type := 28, pos := "outright.go:113", after := #[{ on := 30, ground := .guard }], guard := some (30, false) }) (v := .agg CK.toArray) rfl (by kernel_rfl) (by kernel_rfl) (by kernel_rfl) (fun _ _ _ h => h) (yieldsIf_load_mid (by rfl) _ _ rfl _ _ rfl _ _ (fun w h => RK.out w h) uP rfl iCK) hS7 ?_
    try simp only [Act.put, List.setIfInBounds_toArray, List.set_cons_zero, List.set_cons_succ]
    refine wpAnyH_take (i := 35) (oi := { dst := some 58, op := .load 28 (.tmp 10), type := 28, pos := "outright.go:113", after := #[{ on := 30, ground := .guard }], guard := some (30, false) }) (v := .agg CQ.toArray) rfl (by kernel_rfl) (by kernel_rfl) (by kernel_rfl) (fun _ _ _ h => h) (yieldsIf_load_mid (by rfl) _ _ rfl _ _ rfl _ _ (fun w h => RQ.out w h) uP rfl iCQ) hS7 ?_
    try simp only [Act.put, List.setIfInBounds_toArray, List.set_cons_zero, List.set_cons_succ]
    refine wpAnyH_ready (rs := [33]) (by kernel_rfl) (by simp) ?_
    refine AllReadyH.cons (o := { dst := some 56, op := .call { callee := .value (.func 27), args := #[.tmp 54, .tmp 55], argTypes := #[28, 28] }, type := 4, pos := "outright.go:113", after := #[{ on := 31, ground := .data }, { on := 32, ground := .data }, { on := 30, ground := .chain }, { on := 30, ground := .guard }], guard := some (30, false) }) rfl (fun K hK => ?_) AllReadyH.nil
    go_simp
    refine (EPQ.out _ (TT.out _ hS7)).mono ?_
    rintro e v8 ⟨rfl, k33⟩
    go_wp2_with fail
    refine hK.out _ _ (KEEP.out _ _ hS7 k33) (fun hS8 => ?_)
    clear hK K
    try simp only [Act.put, List.setIfInBounds_toArray, List.set_cons_zero, List.set_cons_succ]
    refine wpAnyH_ready (rs := [36]) (by kernel_rfl) (by simp) ?_
    refine AllReadyH.cons (o := { dst := some 59, op := .call { callee := .value (.func 27), args := #[.tmp 57, .tmp 58], argTypes := #[28, 28] }, type := 4, pos := "outright.go:113", after := #[{ on := 34, ground := .data }, { on := 35, ground := .data }, { on := 33, ground := .chain }, { on := 30, ground := .guard }], guard := some (30, false) }) rfl (fun K hK => ?_) AllReadyH.nil
    go_simp
    refine (EKQ.out _ (TT.out _ hS8)).mono ?_
    rintro e v9 ⟨rfl, k36⟩
    go_wp2_with fail
    refine hK.out _ _ (KEEP.out _ _ hS8 k36) (fun hS9 => ?_)
    clear hK K
    try simp only [Act.put, List.setIfInBounds_toArray, List.set_cons_zero, List.set_cons_succ]
    refine wpAnyH_take (i := 37) (oi := { dst := some 60, op := .binOp .neq 4 (.tmp 56) (.tmp 59) 4, type := 4, pos := "outright.go:113", after := #[{ on := 33, ground := .data }, { on := 36, ground := .data }, { on := 30, ground := .guard }], guard := some (30, false) }) (v := .bool false) rfl (by kernel_rfl) (by kernel_rfl) (by kernel_rfl) (fun _ _ _ h => h) (Or.inl ⟨by rfl, by intro w hSw; clear hSw; go_simp⟩) hS9 ?_
    try simp only [Act.put, List.setIfInBounds_toArray, List.set_cons_zero, List.set_cons_succ]
    refine wpAnyH_take (i := 38) (oi := { dst := some 61, op := .pick (.tmp 53) (.const (Value.bool true)) (.tmp 60), type := 4, pos := "outright.go:113", after := #[{ on := 30, ground := .data }, { on := 37, ground := .data }], guard := none }) (v := .bool false) rfl (by kernel_rfl) (by kernel_rfl) (by kernel_rfl) (fun _ _ _ h => h) (Or.inl ⟨by rfl, by intro w hSw; clear hSw; go_simp⟩) hS9 ?_
    try simp only [Act.put, List.setIfInBounds_toArray, List.set_cons_zero, List.set_cons_succ]
    refine wpAnyH_take (i := 39) (oi := { dst := some 62, op := .move (.tmp 61), type := 4, pos := "outright.go:113", after := #[{ on := 38, ground := .data }, { on := 36, ground := .chain }], guard := none }) (v := .bool false) rfl (by kernel_rfl) (by kernel_rfl) (by kernel_rfl) (fun _ _ _ h => h) (Or.inl ⟨by rfl, by intro w hSw; clear hSw; go_simp⟩) hS9 ?_
    try simp only [Act.put, List.setIfInBounds_toArray, List.set_cons_zero, List.set_cons_succ]
    refine wpAnyH_take (i := 40) (oi := { dst := some 63, op := .load 28 (.tmp 9), type := 28, pos := "outright.go:113", after := #[{ on := 39, ground := .guard }], guard := some (39, false) }) (v := .agg CP.toArray) rfl (by kernel_rfl) (by kernel_rfl) (by kernel_rfl) (fun _ _ _ h => h) (yieldsIf_load_mid (by rfl) _ _ rfl _ _ rfl _ _ (fun w h => RP.out w h) uP rfl iCP) hS9 ?_
    try simp only [Act.put, List.setIfInBounds_toArray, List.set_cons_zero, List.set_cons_succ]
    refine wpAnyH_take (i := 41) (oi := { dst := some 64, op := .load 28 (.tmp 15), type := 28, pos := "outright.go:113", after := #[{ on := 39, ground := .guard }], guard := some (39, false) }) (v := .agg CK.toArray) rfl (by kernel_rfl) (by kernel_rfl) (by kernel_rfl) (fun _ _ _ h => h) (yieldsIf_load_mid (by rfl) _ _ rfl _ _ rfl _ _ (fun w h => RK.out w h) uP rfl iCK) hS9 ?_
    try simp only [Act.put, List.setIfInBounds_toArray, List.set_cons_zero, List.set_cons_succ]
    refine wpAnyH_ready (rs := [42]) (by kernel_rfl) (by simp) ?_
    refine AllReadyH.cons (o := { dst := some 65, op := .call { callee := .value (.func 27), args := #[.tmp 63, .tmp 64], argTypes := #[28, 28] }, type := 4, pos := "outright.go:113", after := #[{ on := 40, ground := .data }, { on := 41, ground := .data }, { on := 39, ground := .chain }, { on := 39, ground := .guard }], guard := some (39, false) }) rfl (fun K hK => ?_) AllReadyH.nil
    go_simp
    refine (EPK.out _ (TT.out _ hS9)).mono ?_
    rintro e v10 ⟨rfl, k42⟩
    go_wp2_with fail
    refine hK.out _ _ (KEEP.out _ _ hS9 k42) (fun hS10 => ?_)
    clear hK K
    try simp only [Act.put, List.setIfInBounds_toArray, List.set_cons_zero, List.set_cons_succ]
    refine wpAnyH_take (i := 43) (oi := { dst := some 66, op := .pick (.tmp 62) (.const (Value.bool true)) (.tmp 65), type := 4, pos := "outright.go:113", after := #[{ on := 39, ground := .data }, { on := 42, ground := .data }], guard := none }) (v := .bool false) rfl (by kernel_rfl) (by kernel_rfl) (by kernel_rfl) (fun _ _ _ h => h) (Or.inl ⟨by rfl, by intro w hSw; clear hSw; go_simp⟩) hS10 ?_
    try simp only [Act.put, List.setIfInBounds_toArray, List.set_cons_zero, List.set_cons_succ]
    refine wpAnyH_done (by kernel_rfl) ?_ _
    go_wp2_with fail
    go_meet
    exact ⟨rfl, hS10⟩
  case rest =>
  obtain ⟨rfl, hB⟩ := hcut
  have b0 := Lib.hid hB
  clear hB KEEP S0d
  go_upto_region 7 with fail
  go_cut [90] (fun s90 wx => s90 = .bool false ∧ Bel w7 wx)
  case first =>
    have rA := Lib.hid (RA.out _ b0.out)
    have rB := Lib.hid (RB.out _ b0.out)
    go_wp2_with (first | (refine wpList_load_mid rfl 26 (.tmp 6) rfl bA 0 rfl CA _ rA.out Tryd.underlying26 rfl IA.out ?_) | (refine wpList_load_mid rfl 26 (.tmp 7) rfl bB 0 rfl CB _ rB.out Tryd.underlying26 rfl IB.out ?_))
    refine (SAB.out _).mono ?_
    rintro e q1 ⟨rfl, m1⟩
    have bq1 := Lib.hid (b0.out.trans m1)
    clear m1 rA rB
    cases x1
    case false =>
      go_wp2_with fail
      go_meet
      exact ⟨rfl, bq1.out⟩
    case true =>
      have hx2 := P2.out rfl
      have hd1 := PD.out rfl
      subst hx2
      subst hd1
      have rB := Lib.hid (RB.out _ bq1.out)
      have rA := Lib.hid (RA.out _ bq1.out)
      go_wp2_with (first | (refine load_guarded (by rfl) 26 (.tmp 7) rfl bB 0 rfl CB _ rB.out Tryd.underlying26 rfl IB.out ?_) | (refine load_guarded (by rfl) 26 (.tmp 6) rfl bA 0 rfl CA _ rA.out Tryd.underlying26 rfl IA.out ?_))
      refine (SBA.out _).mono ?_
      rintro e q2 ⟨rfl, m1⟩
      have bq2 := Lib.hid (bq1.out.trans m1)
      clear m1 rB rA
      have rA := Lib.hid (RA.out _ bq2.out)
      have rB := Lib.hid (RB.out _ bq2.out)
      go_wp2_with (first | (refine load_guarded (by rfl) 26 (.tmp 6) rfl bA 0 rfl CA _ rA.out Tryd.underlying26 rfl IA.out ?_) | (refine load_guarded (by rfl) 26 (.tmp 7) rfl bB 0 rfl CB _ rB.out Tryd.underlying26 rfl IB.out ?_))
      refine (DAB.out _ (TT.out _ bq2.out)).mono ?_
      rintro e q3 ⟨rfl, m1⟩
      have bq3 := Lib.hid (bq2.out.trans m1)
      clear m1 rA rB
      have rB := Lib.hid (RB.out _ bq3.out)
      have rC := Lib.hid (RC.out _ bq3.out)
      go_wp2_with (first | (refine load_guarded (by rfl) 26 (.tmp 7) rfl bB 0 rfl CB _ rB.out Tryd.underlying26 rfl IB.out ?_) | (refine load_guarded (by rfl) 26 (.tmp 8) rfl bC 0 rfl CC _ rC.out Tryd.underlying26 rfl IC.out ?_))
      refine (SBC.out _).mono ?_
      rintro e q4 ⟨rfl, m1⟩
      have bq4 := Lib.hid (bq3.out.trans m1)
      clear m1 rB rC
      cases x3
      case false =>
        go_wp2_with fail
        go_meet
        exact ⟨rfl, bq4.out⟩
      case true =>
        have hx4 := P4.out (by simp) (by simp)
        subst hx4
        have rA := Lib.hid (RA.out _ bq4.out)
        have rC := Lib.hid (RC.out _ bq4.out)
        go_wp2_with (first | (refine load_guarded (by rfl) 26 (.tmp 6) rfl bA 0 rfl CA _ rA.out Tryd.underlying26 rfl IA.out ?_) | (refine load_guarded (by rfl) 26 (.tmp 8) rfl bC 0 rfl CC _ rC.out Tryd.underlying26 rfl IC.out ?_))
        refine (SAC.out _).mono ?_
        rintro e q5 ⟨rfl, m1⟩
        have bq5 := Lib.hid (bq4.out.trans m1)
        clear m1 rA rC
        go_wp2_with fail
        go_meet
        exact ⟨rfl, bq5.out⟩
  case rest =>
  obtain ⟨rfl, hB⟩ := hcut
  have b0 := Lib.hid hB
  clear hB
  go_upto_region 9 with fail
  have rA := Lib.hid (RA.out _ b0.out)
  have rO := Lib.hid (RO.out _ b0.out)
  go_wp2_with (first | (refine load_guarded (by rfl) 26 (.tmp 6) rfl bA 0 rfl CA _ rA.out Tryd.underlying26 rfl IA.out ?_) | (refine load_guarded (by rfl) 26 (.tmp 14) rfl x 0 rfl CO _ rO.out Tryd.underlying26 rfl IO.out ?_))
  refine (SAO.out _).mono ?_
  rintro e q6 ⟨rfl, m1⟩
  have bq6 := Lib.hid (b0.out.trans m1)
  clear m1 rA rO
  go_wp2
  go_ret
  exact ⟨rfl, B0.out.trans (B7.out.trans bq6.out)⟩
end Vt
end Go.Proofs.YtjbbecplkkkiiaaDoor
