/-
  The walk of the law VoteKnown: it returns true. Condition: the table of turns lies in its variable.
-/
import Derived.Test.YtgalhpejihmhkaaDoorGX
import Derived.Test.YtgalhpejihmhkaaDoorGW
import Derived.Test.YtgalhpejihmhkaaDoorGZ
namespace Go.Proofs.YtgalhpejihmhkaaDoor
open Go.RowKit Go.Shelf
set_option linter.unusedVariables false
namespace Vt
open Kk

/-- A block that is known whole, and lies behind a place. -/
structure Lie (w0 W : World) (b : Nat) (C : List Value) (t : TypeId) : Prop where
  blk : Blk W b C.toArray t
  low : w0.heap.size ≤ b
theorem Lie.bel {w0 W W' : World} {b : Nat} {C : List Value} {t : TypeId} (h : Lie w0 W b C t) (hb : Bel W W') : Lie w0 W' b C t := ⟨h.blk.bel hb, h.low⟩
theorem Lie.rng {w0 W : World} {b : Nat} {C : List Value} {t : TypeId} (h : Lie w0 W b C t) : W.rangeAt b 0 C := range_blk h.blk
theorem Lie.kep {w0 W W' : World} {b c : Nat} {C : List Value} {t : TypeId} (h : Lie w0 W b C t) (hk : Kep (fun i => i = c) W W') (hne : b ≠ c) : Lie w0 W' b C t := ⟨h.blk.kep hk hne, h.low⟩
theorem Lie.put {w0 W : World} {b : Nat} {C D : List Value} {t : TypeId} (h : Lie w0 W b C t) (hl : C.length = D.length) : Lie w0 (W.setCells b 0 D) b D t := ⟨h.blk.whole (by rw [List.size_toArray]; exact hl), h.low⟩
theorem Lie.set {w0 W : World} {b : Nat} {C D : List Value} {t : TypeId} (h : Lie w0 W b C t) (i : Nat) (v : Value) (hD : C.toArray.setIfInBounds i v = D.toArray) : Lie w0 (W.setCell ⟨b, i, none⟩ v) b D t := ⟨by rw [← hD]; exact h.blk.set i v, h.low⟩
theorem kset {W : World} {b : Nat} (i : Nat) (v : Value) : Kep (fun k => k = b) W (W.setCell ⟨b, i, none⟩ v) := Kep.set_self (Kep.refl _ W) i v
theorem kput {W : World} {b : Nat} (D : List Value) : Kep (fun k => k = b) W (W.setCells b 0 D) := kep_setCellsK b D 0 W
theorem new_there (W : World) (C D : List Value) (t : TypeId) (hl : C.length = D.length) : (W.alloc (.cells C.toArray t)).there W.heap.size 0 D.toArray.size := by
  have e : D.toArray.size = C.toArray.size := by rw [List.size_toArray, List.size_toArray]; exact hl.symm
  rw [e]
  exact there_newK (Nat.le_refl _)
abbrev zA' : List Value := attC 0 0 0 Z0 0
abbrev zP' : List Value := propC 0 0 Z0 0
abbrev zH' : List Value := Z0.map B8
/-- New memory for a struct: a block of its own, whatever is stored there. -/
theorem lie_new (w0 W : World) (hb : Bel w0 W) (C D : List Value) (t : TypeId) (hl : C.length = D.length) : Lie w0 ((W.alloc (.cells C.toArray t)).setCells W.heap.size 0 D) W.heap.size D t ∧ Bel W ((W.alloc (.cells C.toArray t)).setCells W.heap.size 0 D) := by
  have h : Lie w0 (W.alloc (.cells C.toArray t)) W.heap.size C t := ⟨Blk.new W _ _, Below.size hb⟩
  exact ⟨h.put hl, Kep.bel ((Bel.refl W).alloc _) (kput D) (fun i hi => by rw [hi]; exact Nat.le_refl _)⟩

theorem chk_at (v s t tag : Int) (x : Int) (h : chkE v s t = x) (W : World) : Calls Tryd.prog 16 #[.agg (attC v s t Z0 tag).toArray] W fun e w' => e = .returned (.int .i64 x) ∧ Bel W w' := by
  have := check v s t tag Z0 W rfl
  rwa [h] at this
theorem chkB_at (v s tag : Int) (x : Int) (h : chkBE v s = x) (W : World) : Calls Tryd.prog 17 #[.agg (propC v s Z0 tag).toArray] W fun e w' => e = .returned (.int .i64 x) ∧ Bel W w' := by
  have := checkBlock v s tag Z0 W rfl
  rwa [h] at this
theorem wpList_append_g {w : World} {ops : Array Oper} {rest : List Oper} {o : Oper} {a : Act} {Q : Exit → Act → World → Prop} (hw : Region.wanted o (yielded ops a.tmps) = true) (s x : Operand)
    (ho : o.op = .call { callee := .builtin .append, args := #[s, x], argTypes := #[29, 29] })
    (base : Nat) (v : Value) (k : Nat) (xs : List Value) (hs : a.eval s = v) (hown : w.ownsRow base 5 1 v k xs) (A : Option Addr) (m c : Nat) (zs : List Int) (hx : a.eval x = .slice A m c) (hi : Sl w A m c zs)
    (hm : k + m ≤ 1000000000000) (hb : base ≤ w.heap.size)
    (h : ∀ v' w', w'.ownsRow base 5 1 v' (k + m) (xs ++ zs.map (Value.int .u8)) → w.grownBy w' v.ownBlock → wpList Tryd.prog ops Q rest (a.put o.dst v') w') : wpList Tryd.prog ops Q (o :: rest) a w :=
  wpList_step fun K hK => by
    rw [if_pos hw]
    exact wp_append_sl s x ho base v k xs hs hown A m c zs hx hi hm hb (fun v' w' h1 h2 => hK _ _ (h v' w' h1 h2))
theorem fails_at (zs : List Int) (e p : Int) (hk : known zs (e, p)) (he : e ≠ 0) (hl : zs.length ≤ 1000) (hb : ∀ z ∈ zs, 0 ≤ z ∧ z ≤ 255) (W : World) :
    Calls Tryd.prog 18 #[.slice (some ⟨W.heap.size, 0, none⟩) zs.length zs.length, .int .i64 e, .int .i64 p] (W.alloc (.cells (zs.map (Value.int .u8)).toArray 5)) fun r w' => r = .returned (.bool true) ∧ Bel W w' :=
  (fails _ _ _ zs e p _ (Cd.sl_lit W zs) (by omega) (Cd.bytes_of hb) hk he).mono fun r w' h => ⟨h.1, ((Bel.refl W).alloc _).trans h.2⟩
theorem readB_at (W : World) : Calls Tryd.prog 7 #[.slice (some ⟨W.heap.size, 0, none⟩) 3 3] (W.alloc (.cells #[.int .u8 2, .int .u8 1, .int .u8 0] 5)) fun e w' => e = .returned (.tuple #[.agg zP'.toArray, .agg #[.int .i64 3, .int .i64 2]]) ∧ Bel W w' := by
  obtain ⟨v, s, tag, hs, h⟩ := known5
  have := readB (some ⟨W.heap.size, 0, none⟩) 3 3 [2, 1, 0] v s tag hs (3, 2) _ (Cd.sl_lit W [2, 1, 0]) (by decide) (Cd.bytes_of (by decide)) h
  refine this.mono fun e w' hh => ⟨hh.1, ((Bel.refl W).alloc _).trans hh.2⟩
theorem dbl_yes (W : World) (hT : Tn W) : Calls Tryd.prog 20 #[.agg (attC 1 2 3 Z0 5).toArray, .agg (attC 1 1 3 Z0 5).toArray] W fun e w' => e = .returned (.bool true) ∧ Bel W w' := by
  have h := doubles 1 2 3 5 Z0 1 1 3 5 Z0 W rfl z0_by rfl z0_by hT
  have e1 : dgV (attI 1 2 3 Z0) = sumOf ([1, 1, 2, 3] ++ List.replicate 32 (0 : Int)) := rfl
  have e2 : dgV (attI 1 1 3 Z0) = sumOf ([1, 1, 1, 3] ++ List.replicate 32 (0 : Int)) := rfl
  have e : dif (attI 1 2 3 Z0) (attI 1 1 3 Z0) = true := by
    unfold dif
    rw [e1, e2, unlike]
    decide
  rw [e] at h
  exact h
theorem dbl_no (W : World) (hT : Tn W) : Calls Tryd.prog 20 #[.agg (attC 1 2 3 Z0 5).toArray, .agg (attC 1 2 3 Z0 9).toArray] W fun e w' => e = .returned (.bool false) ∧ Bel W w' := by
  have h := doubles 1 2 3 5 Z0 1 2 3 9 Z0 W rfl z0_by rfl z0_by hT
  have e : dif (attI 1 2 3 Z0) (attI 1 2 3 Z0) = false := by
    unfold dif
    rw [beq_self_eq_true]
    decide
  rw [e] at h
  exact h
theorem slice36 (g c : Nat) (hc : 37 ≤ c) (W : World) : (Instr.slice 29 (.slice (some ⟨g, 0, none⟩) 37 c) none (some (.int .i64 36)) none).run Tryd.prog W = .ok (.slice (some ⟨g, 0, none⟩) 36 c) W := by
  rw [slice_h (some ⟨g, 0, none⟩) 37 c 36 W (by decide) (by omega), if_neg (by omega)]
  rfl
theorem src36 (g c : Nat) (b : Nat) (W : World) (hc : 37 ≤ c) (hm : c ≤ maxLen) (h : W.ownsRow b 5 1 (.slice (some ⟨g, 0, none⟩) 37 c) 37 (([1, 1, 2, 3] ++ Z0 ++ [5]).map (Value.int .u8))) : Kk.Src W (some ⟨g, 0, none⟩) 36 c ([1, 1, 2, 3] ++ Z0) := by
  obtain ⟨A, c', e, hi, _⟩ := ints_of_own h
  injection e with e1 e2 e3
  subst e1
  obtain ⟨b', o', e, hlt, hcl⟩ := hi.2 (by decide)
  injection e with e
  injection e with e4 e5
  subst e4
  subst e5
  refine ⟨⟨rfl, fun _ => ⟨g, 0, rfl, hlt, fun i hi2 => ?_⟩⟩, by omega, hm, fun z hz => ?_⟩
  · rw [hcl i (by omega)]
    have : ∀ i : Fin 36, ([1, 1, 2, 3] ++ Z0 ++ [5] : List Int).getD i.1 0 = ([1, 1, 2, 3] ++ Z0 : List Int).getD i.1 0 := by decide
    rw [this ⟨i, hi2⟩]
  · have : ∀ z ∈ ([1, 1, 2, 3] ++ Z0 : List Int), 0 ≤ z ∧ z ≤ 255 := by decide
    exact this z hz
set_option maxRecDepth 100000 in
set_option maxHeartbeats 16000000 in
theorem knownLaw (w : World) (hT : Tn w) : Calls Tryd.prog 4 #[] w fun e w' => e = .returned (.bool true) ∧ Bel w w' := by
  have ONE := Lib.hid (fun W => one W)
  have BLK := Lib.hid (fun W => block W)
  have BO := Lib.hid (fun W => show Calls Tryd.prog 5 #[.agg (attC 1 2 3 Z0 5).toArray] W fun e w' => ∃ g c, e = .returned (.tuple #[.slice (some ⟨g, 0, none⟩) 37 c, .int .i64 0]) ∧ 37 ≤ c ∧ c ≤ maxLen ∧ w'.ownsRow W.heap.size 5 1 (.slice (some ⟨g, 0, none⟩) 37 c) 37 (([1, 1, 2, 3] ++ Z0 ++ [5]).map (Value.int .u8)) ∧ Bel W w' from
    (bytes 1 2 3 5 Z0 W rfl (by decide) (by decide)).mono fun e w' ⟨u, h, hr⟩ => by
      have h2 : w'.ownsRow W.heap.size 5 1 u 37 (([1, 1, 2, 3] ++ Z0 ++ [5]).map (Value.int .u8)) := by
        rcases hr.2 with ⟨h1, _⟩ | ⟨_, h2⟩
        · exact absurd (by decide) h1
        · exact h2
      obtain ⟨A, c, rfl, h3, h4, h5⟩ := ints_of_own h2
      obtain ⟨_, ⟨h6, _⟩ | ⟨g, cap, cur, h6, _⟩⟩ := id h2
      · cases h6
      · injection h6 with h6 _ h7
        subst h6
        exact ⟨g, c, h, h4, h5, h2, hr.1⟩)
  have HT := Lib.hid (show ∀ X, Bel w X → Tn X from fun X hX => hT.bel hX)
  have DG1 := Lib.hid (fun W h => digestA 1 2 3 5 Z0 W rfl z0_by h)
  have DG2 := Lib.hid (fun W h => digestA 1 2 3 9 Z0 W rfl z0_by h)
  obtain ⟨OC, hOC⟩ : ∃ Y, Y = attC 1 2 3 Z0 5 := ⟨_, rfl⟩
  obtain ⟨PC, hPC⟩ : ∃ Y, Y = propC 1 300 Z0 128 := ⟨_, rfl⟩
  obtain ⟨TC, hTC⟩ : ∃ Y, Y = attC 1 2 3 Z0 9 := ⟨_, rfl⟩
  rw [← hOC] at ONE BO DG1
  rw [← hPC] at BLK
  rw [← hTC] at DG2
  have lO := Lib.hid (show OC.length = 36 by rw [hOC]; rfl)
  have lP := Lib.hid (show PC.length = 35 by rw [hPC]; rfl)
  have sO := Lib.hid (show OC.toArray.size = 36 by rw [List.size_toArray]; exact lO.out)
  have sP := Lib.hid (show PC.toArray.size = 35 by rw [List.size_toArray]; exact lP.out)
  have oO := Lib.hid (all_oneCell_toArray (cs := OC) (by rw [hOC]; exact att_cells _ _ _ _ _))
  have oP := Lib.hid (all_oneCell_toArray (cs := PC) (by rw [hPC]; exact prop_cells _ _ _ _))
  have jO := Lib.hid (show (Tryd.prog.info? 26).map (·.size) = some OC.toArray.size by rw [sO.out]; exact info_att)
  have jP := Lib.hid (show (Tryd.prog.info? 28).map (·.size) = some PC.toArray.size by rw [sP.out]; exact info_prop)
  have iO := Lib.hid (show (Tryd.prog.info? 26).map (·.size) = some OC.length by rw [lO.out]; exact info_att)
  have iP := Lib.hid (show (Tryd.prog.info? 28).map (·.size) = some PC.length by rw [lP.out]; exact info_prop)
  have HOT := Lib.hid (show OC.toArray.setIfInBounds 35 (.int .u64 9) = TC.toArray by rw [hOC, hTC]; rfl)
  have HO := Lib.hid hOC
  have HP := Lib.hid hPC
  have HTC := Lib.hid hTC
  have lT := Lib.hid (show TC.length = 36 by rw [hTC]; rfl)
  have iT := Lib.hid (show (Tryd.prog.info? 26).map (·.size) = some TC.length by rw [lT.out]; exact info_att)
  have dO := Lib.hid (show OC[35]? = some (.int .u64 5) by rw [hOC]; rfl)
  clear hOC hPC hTC
  obtain ⟨ed, hed⟩ : ∃ x, x = errOf (attI 1 2 3 Z0) := ⟨_, rfl⟩
  obtain rfl : ed = 0 := hed.trans (by decide)
  rw [← hed] at DG1 DG2
  obtain ⟨Y1, hY1, n1, o1⟩ := hs_facts (attI 1 2 3 Z0)
  rw [hY1] at DG1 DG2
  have s1' : Y1.toArray.size = 32 := by rw [List.size_toArray]; exact n1
  have O1 := Lib.hid (all_oneCell_toArray (cs := Y1) o1)
  have I1 := Lib.hid (show (Tryd.prog.info? 23).map (·.size) = some Y1.toArray.size by rw [s1']; exact info_hash)
  have J1 := Lib.hid (show (Tryd.prog.info? 23).map (·.size) = some Y1.length by rw [n1]; exact info_hash)
  have N1 := Lib.hid n1
  have EQ1 := Lib.hid (show ∀ W, (binOp .eql 23 (.agg Y1.toArray) (.agg Y1.toArray)).run Tryd.prog W = .ok (.bool true) W by
    intro W
    rw [← hY1, eql_hs _ _ (dgV_len _) (dgV_len _) W, beq_self_eq_true])
  have HSU := Lib.hid (show hsV (sumOf ([1, 1, 2, 3] ++ Z0)) = .agg Y1.toArray by rw [← hY1]; rfl)
  clear hed hY1 s1' o1 n1
  go_enter Tryd.func4, Tryd.ntmps4
  go_wp2_with fail
  refine (ONE.out _).mono ?_
  rintro e w1 ⟨rfl, k1⟩
  have B1 := Lib.hid (show Bel w w1 from k1)
  clear k1
  go_wp2_with fail
  refine (BLK.out _).mono ?_
  rintro e w2 ⟨rfl, k2⟩
  have B2 := Lib.hid (B1.out.trans k2)
  clear k2
  -- the two boxes
  obtain ⟨bO, hbO⟩ : ∃ b, b = w2.heap.size := ⟨_, rfl⟩
  obtain ⟨bP, hbP⟩ : ∃ b, b = w2.heap.size + 1 := ⟨_, rfl⟩
  obtain ⟨V1, hV1⟩ : ∃ x, w2.alloc Z36 = x := ⟨_, rfl⟩
  obtain ⟨V2, hV2⟩ : ∃ x, V1.alloc Z35 = x := ⟨_, rfl⟩
  have q1 : V1.heap.size = w2.heap.size + 1 := by rw [← hV1]; simp
  have c1 : Bel w2 V1 := by rw [← hV1]; exact (Bel.refl _).alloc _
  have c2 : Bel V1 V2 := by rw [← hV2]; exact (Bel.refl _).alloc _
  have L1 : Lie w V2 bO (attC 0 0 0 Z0 0) 26 := Lie.bel ⟨by rw [← hV1, hbO]; exact Blk.new w2 _ _, by rw [hbO]; exact Below.size B2.out⟩ c2
  have L2 : Lie w V2 bP (propC 0 0 Z0 0) 28 := ⟨by rw [← hV2, hbP, ← q1]; exact Blk.new V1 _ _, by rw [hbP]; have := Below.size B2.out; omega⟩
  obtain ⟨V3, hV3⟩ : ∃ x, V2.setCells bO 0 OC = x := ⟨_, rfl⟩
  obtain ⟨V4, hV4⟩ : ∃ x, V3.setCells bP 0 PC = x := ⟨_, rfl⟩
  have T1 := Lib.hid (show V2.there bO 0 OC.toArray.size by rw [sO.out]; exact L1.blk.there 0 36 (Nat.le_refl _))
  have M1 : Lie w V3 bO OC 26 := by rw [← hV3]; exact L1.put (by rw [lO.out]; rfl)
  have M2 : Lie w V3 bP (propC 0 0 Z0 0) 28 := by rw [← hV3]; exact L2.kep (kput OC) (by omega)
  have T2 := Lib.hid (show V3.there bP 0 PC.toArray.size by rw [sP.out]; exact M2.blk.there 0 35 (Nat.le_refl _))
  have LO := Lib.hid (show Lie w V4 bO OC 26 by rw [← hV4]; exact M1.kep (kput PC) (by omega))
  have LP := Lib.hid (show Lie w V4 bP PC 28 by rw [← hV4]; exact M2.put (by rw [lP.out]; rfl))
  have B4 := Lib.hid (show Bel w V4 by
    rw [← hV4, ← hV3]
    exact Kep.bel (Kep.bel (B2.out.trans (c1.trans c2)) (kput OC) (fun i hi => by have := L1.low; omega)) (kput PC) (fun i hi => by have := L2.low; omega))
  have X1 := Lib.hid hbO
  have X2 := Lib.hid hbP
  have E1 := Lib.hid hV1
  have E2 := Lib.hid hV2
  have E3 := Lib.hid hV3
  have E4 := Lib.hid hV4
  clear hbO hbP hV1 hV2 hV3 hV4 q1 c1 c2 L1 L2 M1 M2
  go_upto_region 2 with (first
    | (rw [← X2.out, ← X1.out, E1.out, E2.out]; refine wpList_store_mid rfl 26 (.tmp 1) (.tmp 22) rfl bO 0 OC.toArray rfl rfl T1.out jO.out oO.out ?_; rw [show OC.toArray.toList = OC from rfl, E3.out])
    | (refine wpList_store_mid rfl 28 (.tmp 2) (.tmp 23) rfl bP 0 PC.toArray rfl rfl T2.out jP.out oP.out ?_; rw [show PC.toArray.toList = PC from rfl, E4.out]))
  have RX := Lib.hid LO.out.rng
  go_wp2_with (refine wpList_load_mid rfl 26 (.tmp 1) rfl bO 0 rfl OC _ RX.out Tryd.underlying26 rfl iO.out ?_)
  refine (BO.out V4).mono ?_
  rintro e w3 ⟨g, c, rfl, hc37, hcm, rb, k3⟩
  have B3 := Lib.hid (B4.out.trans k3)
  have LO0 := Lib.hid LO.out
  have LO := Lib.hid (LO.out.bel k3)
  have LP := Lib.hid (LP.out.bel k3)
  have RB := Lib.hid rb
  have LB := Lib.hid (show w.heap.size ≤ V4.heap.size from Below.size B4.out)
  have NO := Lib.hid (show bO ≠ g from by have := LO0.out.blk.lt; have := (RB.out.lt g rfl).1; omega)
  clear k3 rb BO RX B4 LO0
  -- tagged
  obtain ⟨bT, hbT⟩ : ∃ b, b = w3.heap.size := ⟨_, rfl⟩
  have NT := Lib.hid (new_there w3 zA' OC 26 (by rw [lO.out]; rfl))
  obtain ⟨n1, n2⟩ := lie_new w w3 B3.out zA' OC 26 (by rw [lO.out]; rfl)
  rw [← hbT] at n1
  obtain ⟨w4, hw4⟩ : ∃ x, (w3.alloc Z36).setCells bT 0 OC = x := ⟨_, rfl⟩
  have n1 : Lie w w4 bT OC 26 := by rw [← hw4]; exact n1
  have n2 : Bel w3 w4 := by rw [← hw4, hbT]; exact n2
  have RX := Lib.hid LO.out.rng
  have HbT := Lib.hid hbT
  have Hw4 := Lib.hid hw4
  clear hbT hw4
  go_upto_region 6 with (first
    | (refine wpList_load_mid rfl 26 (.tmp 1) rfl bO 0 rfl OC _ RX.out Tryd.underlying26 rfl iO.out ?_)
    | (refine wpList_store_mid rfl 26 (.tmp 5) (.tmp 32) rfl w3.heap.size 0 OC.toArray rfl rfl NT.out jO.out oO.out ?_))
  rw [← HbT.out, Hw4.out]
  obtain ⟨w5, hw5⟩ : ∃ x, w4.setCell ⟨bT, 35, none⟩ (.int .u64 9) = x := ⟨_, rfl⟩
  have LT := Lib.hid (show Lie w w5 bT TC 26 by rw [← hw5]; exact n1.set 35 _ HOT.out)
  have k5 : Bel w3 w5 := by rw [← hw5]; exact Kep.bel n2 (kset 35 _) (fun i hi => by have := HbT.out; omega)
  have c0 : w4.cell? ⟨bT, 35, none⟩ = some (.int .u64 5) := n1.blk.cell 35 (by rw [List.getElem?_toArray]; exact dO.out)
  have f0 : w4.frozen? ⟨bT, 35, none⟩ = false := n1.blk.frozen 35
  have Hw5 := Lib.hid hw5
  have B5 := Lib.hid (B3.out.trans k5)
  have LO := Lib.hid (LO.out.bel k5)
  have LP := Lib.hid (LP.out.bel k5)
  have RBx := Lib.hid RB.out
  have RB := Lib.hid (owns_bel RB.out k5)
  have NG := Lib.hid (show bT ≠ g from by have := (RBx.out.lt g rfl).2; have := HbT.out; omega)
  clear n1 n2 k5 hw5 NT RX B3 RBx
  go_upto_region 7 with fail
  rw [Hw5.out]
  clear c0 f0
  have RX := Lib.hid LO.out.rng
  go_wp2_with (refine wpList_load_mid rfl 26 (.tmp 1) rfl bO 0 rfl OC _ RX.out Tryd.underlying26 rfl iO.out ?_)
  refine (DG1.out w5 (HT.out _ B5.out)).mono ?_
  rintro e v5 ⟨rfl, m2⟩
  have m2 : Bel w5 v5 := m2
  obtain ⟨t1, t2, t3, t4⟩ := put32 v5 Y1 N1.out
  have TH := Lib.hid t1
  have MM := Lib.hid (m2.trans t2)
  have Rq1 := Lib.hid t3
  have Gq1 := Lib.hid t4
  clear t1 t2 t3 t4 m2 RX
  go_upto_region 8 with (refine wpList_store_mid rfl 23 (.tmp 6) (.tmp 37) rfl v5.heap.size 0 Y1.toArray rfl rfl TH.out I1.out O1.out ?_)
  obtain ⟨w6, hw⟩ : ∃ x, (v5.alloc Z32h).setCells v5.heap.size 0 Y1 = x := ⟨_, rfl⟩
  obtain ⟨q1, hq⟩ : ∃ q, q = v5.heap.size := ⟨_, rfl⟩
  rw [hw] at MM Rq1 Gq1 ⊢
  rw [← hq] at Rq1 Gq1 ⊢
  clear hw hq TH
  have LO := Lib.hid (LO.out.bel MM.out)
  have LP := Lib.hid (LP.out.bel MM.out)
  have LT := Lib.hid (LT.out.bel MM.out)
  have RB := Lib.hid (owns_bel RB.out MM.out)
  have B6 := Lib.hid (B5.out.trans MM.out)
  clear MM B5
  have RX := Lib.hid LT.out.rng
  go_wp2_with (refine wpList_load_mid rfl 26 (.tmp 5) rfl bT 0 rfl TC _ RX.out Tryd.underlying26 rfl iT.out ?_)
  refine (DG2.out w6 (HT.out _ B6.out)).mono ?_
  rintro e v6 ⟨rfl, m2⟩
  have m2 : Bel w6 v6 := m2
  obtain ⟨t1, t2, t3, t4⟩ := put32 v6 Y1 N1.out
  have TH := Lib.hid t1
  have MM := Lib.hid (m2.trans t2)
  have Rq2 := Lib.hid t3
  have Gq2 := Lib.hid t4
  clear t1 t2 t3 t4 m2 RX
  go_upto_region 9 with (refine wpList_store_mid rfl 23 (.tmp 8) (.tmp 42) rfl v6.heap.size 0 Y1.toArray rfl rfl TH.out I1.out O1.out ?_)
  obtain ⟨w7, hw⟩ : ∃ x, (v6.alloc Z32h).setCells v6.heap.size 0 Y1 = x := ⟨_, rfl⟩
  obtain ⟨q2, hq⟩ : ∃ q, q = v6.heap.size := ⟨_, rfl⟩
  rw [hw] at MM Rq2 Gq2 ⊢
  rw [← hq] at Rq2 Gq2 ⊢
  clear hw hq TH
  have LO := Lib.hid (LO.out.bel MM.out)
  have LP := Lib.hid (LP.out.bel MM.out)
  have LT := Lib.hid (LT.out.bel MM.out)
  have RB := Lib.hid (owns_bel RB.out MM.out)
  have B7 := Lib.hid (B6.out.trans MM.out)
  have Rq1 := Lib.hid (range_up Rq1.out MM.out Gq1.out)
  have Gq1 := Lib.hid (Nat.lt_of_lt_of_le Gq1.out (Below.size MM.out))
  clear MM B6
  have KEEP := Lib.hid (show ∀ V V' : World, (V.rangeAt q1 0 Y1 ∧ V.rangeAt q2 0 Y1 ∧ Bel w7 V) → Bel V V' → (V'.rangeAt q1 0 Y1 ∧ V'.rangeAt q2 0 Y1 ∧ Bel w7 V') from
    fun V V' h hb => ⟨range_up Rq1.out (h.2.2.trans hb) Gq1.out, range_up Rq2.out (h.2.2.trans hb) Gq2.out, h.2.2.trans hb⟩)
  have SL := Lib.hid (slice36 g c hc37)
  have SM := Lib.hid (show ∀ V, Bel w7 V → Calls Tryd.prog 10 #[.slice (some ⟨g, 0, none⟩) 36 c] V fun e w' => e = .returned (.agg Y1.toArray) ∧ Bel V w' from fun V hV => by
    rw [← HSU.out]
    exact hashSumS (some ⟨g, 0, none⟩) 36 c _ V (src36 g c _ V hc37 hcm (owns_bel RB.out hV)) (by omega) (HT.out _ (B7.out.trans hV)))
  have S0d := KEEP.out w7 _ ⟨Rq1.out, Rq2.out, Bel.refl _⟩ (Bel.refl w7).drew
  have uH := Tryd.underlying23
  have iH := J1.out
  have eq1 := EQ1.out
  go_cut [10] (fun s10 wx => s10 = .bool true ∧ Bel w7 wx)
  case first =>
    refine wp_region_held_drew (S := fun V => V.rangeAt q1 0 Y1 ∧ V.rangeAt q2 0 Y1 ∧ Bel w7 V) (by kernel_rfl) S0d (fun hS0 => ?_)
    obtain ⟨w8, hw8⟩ : ∃ x, w7.drew = x := ⟨_, rfl⟩
    rw [hw8] at hS0 ⊢
    clear hw8 S0d
    refine wpAnyH_take (i := 0) (oi := { dst := some 44, op := .move (.tmp 7), type := 31, pos := "outright.go:46", after := #[], guard := none }) (v := .int .i64 0) rfl (by kernel_rfl) (by kernel_rfl) (by kernel_rfl) (fun _ _ _ h => h) (Or.inl ⟨by rfl, by intro w hSw; clear hSw; go_simp⟩) hS0 ?_
    try simp only [Act.put, List.setIfInBounds_toArray, List.set_cons_zero, List.set_cons_succ]
    refine wpAnyH_take (i := 1) (oi := { dst := some 45, op := .binOp .eql 31 (.tmp 44) (.const (Value.int IntKind.i64 0)) 31, type := 4, pos := "outright.go:46", after := #[{ on := 0, ground := .data }], guard := none }) (v := .bool true) rfl (by kernel_rfl) (by kernel_rfl) (by kernel_rfl) (fun _ _ _ h => h) (Or.inl ⟨by rfl, by intro w hSw; clear hSw; go_simp⟩) hS0 ?_
    try simp only [Act.put, List.setIfInBounds_toArray, List.set_cons_zero, List.set_cons_succ]
    refine wpAnyH_take (i := 2) (oi := { dst := some 46, op := .move (.tmp 45), type := 4, pos := "outright.go:46", after := #[{ on := 1, ground := .data }], guard := none }) (v := .bool true) rfl (by kernel_rfl) (by kernel_rfl) (by kernel_rfl) (fun _ _ _ h => h) (Or.inl ⟨by rfl, by intro w hSw; clear hSw; go_simp⟩) hS0 ?_
    try simp only [Act.put, List.setIfInBounds_toArray, List.set_cons_zero, List.set_cons_succ]
    refine wpAnyH_take (i := 3) (oi := { dst := some 47, op := .move (.tmp 9), type := 31, pos := "outright.go:46", after := #[{ on := 2, ground := .guard }], guard := some (2, true) }) (v := .int .i64 0) rfl (by kernel_rfl) (by kernel_rfl) (by kernel_rfl) (fun _ _ _ h => h) (Or.inl ⟨by rfl, by intro w hSw; clear hSw; go_simp⟩) hS0 ?_
    try simp only [Act.put, List.setIfInBounds_toArray, List.set_cons_zero, List.set_cons_succ]
    refine wpAnyH_take (i := 4) (oi := { dst := some 48, op := .binOp .eql 31 (.tmp 47) (.const (Value.int IntKind.i64 0)) 31, type := 4, pos := "outright.go:46", after := #[{ on := 3, ground := .data }, { on := 2, ground := .guard }], guard := some (2, true) }) (v := .bool true) rfl (by kernel_rfl) (by kernel_rfl) (by kernel_rfl) (fun _ _ _ h => h) (Or.inl ⟨by rfl, by intro w hSw; clear hSw; go_simp⟩) hS0 ?_
    try simp only [Act.put, List.setIfInBounds_toArray, List.set_cons_zero, List.set_cons_succ]
    refine wpAnyH_take (i := 5) (oi := { dst := some 49, op := .pick (.tmp 46) (.tmp 48) (.const (Value.bool false)), type := 4, pos := "outright.go:46", after := #[{ on := 2, ground := .data }, { on := 4, ground := .data }], guard := none }) (v := .bool true) rfl (by kernel_rfl) (by kernel_rfl) (by kernel_rfl) (fun _ _ _ h => h) (Or.inl ⟨by rfl, by intro w hSw; clear hSw; go_simp⟩) hS0 ?_
    try simp only [Act.put, List.setIfInBounds_toArray, List.set_cons_zero, List.set_cons_succ]
    refine wpAnyH_take (i := 6) (oi := { dst := some 50, op := .move (.tmp 49), type := 4, pos := "outright.go:46", after := #[{ on := 5, ground := .data }, { on := 2, ground := .chain }], guard := none }) (v := .bool true) rfl (by kernel_rfl) (by kernel_rfl) (by kernel_rfl) (fun _ _ _ h => h) (Or.inl ⟨by rfl, by intro w hSw; clear hSw; go_simp⟩) hS0 ?_
    try simp only [Act.put, List.setIfInBounds_toArray, List.set_cons_zero, List.set_cons_succ]
    refine wpAnyH_take (i := 7) (oi := { dst := some 51, op := .load 23 (.tmp 6), type := 23, pos := "outright.go:46", after := #[{ on := 6, ground := .guard }], guard := some (6, true) }) (v := .agg Y1.toArray) rfl (by kernel_rfl) (by kernel_rfl) (by kernel_rfl) (fun _ _ _ h => h) (yieldsIf_load_mid (by rfl) _ _ rfl _ _ rfl _ _ (fun w h => h.1) uH rfl iH) hS0 ?_
    try simp only [Act.put, List.setIfInBounds_toArray, List.set_cons_zero, List.set_cons_succ]
    refine wpAnyH_take (i := 8) (oi := { dst := some 52, op := .move (.tmp 3), type := 29, pos := "outright.go:46", after := #[{ on := 6, ground := .guard }], guard := some (6, true) }) (v := .slice (some ⟨g, 0, none⟩) 37 c) rfl (by kernel_rfl) (by kernel_rfl) (by kernel_rfl) (fun _ _ _ h => h) (Or.inl ⟨by rfl, by intro w hSw; clear hSw; go_simp⟩) hS0 ?_
    try simp only [Act.put, List.setIfInBounds_toArray, List.set_cons_zero, List.set_cons_succ]
    refine wpAnyH_take (i := 9) (oi := { dst := some 53, op := .slice 29 (.tmp 52) none (some (.const (Value.int IntKind.i64 36))) none, type := 29, pos := "outright.go:46", after := #[{ on := 8, ground := .data }, { on := 6, ground := .guard }], guard := some (6, true) }) (v := .slice (some ⟨g, 0, none⟩) 36 c) rfl (by kernel_rfl) (by kernel_rfl) (by kernel_rfl) (fun _ _ _ h => h) (Or.inl ⟨by rfl, by intro w h; have hcell := (SL.out w); clear h; go_simp⟩) hS0 ?_
    try simp only [Act.put, List.setIfInBounds_toArray, List.set_cons_zero, List.set_cons_succ]
    refine wpAnyH_ready (rs := [10]) (by kernel_rfl) (by simp) ?_
    refine AllReadyH.cons (o := { dst := some 54, op := .call { callee := .value (.func 10), args := #[.tmp 53], argTypes := #[29] }, type := 23, pos := "outright.go:46", after := #[{ on := 9, ground := .data }, { on := 6, ground := .chain }, { on := 6, ground := .guard }], guard := some (6, true) }) rfl (fun K hK => ?_) AllReadyH.nil
    go_simp
    refine (SM.out _ hS0.2.2).mono ?_
    rintro e v1 ⟨rfl, kA⟩
    go_wp2_with fail
    refine hK.out _ _ (KEEP.out _ _ hS0 kA) (fun hS1 => ?_)
    clear hK K
    try simp only [Act.put, List.setIfInBounds_toArray, List.set_cons_zero, List.set_cons_succ]
    refine wpAnyH_take (i := 11) (oi := { dst := some 55, op := .binOp .eql 23 (.tmp 51) (.tmp 54) 23, type := 4, pos := "outright.go:46", after := #[{ on := 7, ground := .data }, { on := 10, ground := .data }, { on := 6, ground := .guard }], guard := some (6, true) }) (v := .bool true) rfl (by kernel_rfl) (by kernel_rfl) (by kernel_rfl) (fun _ _ _ h => h) (Or.inl ⟨by rfl, by intro w hSw; clear hSw; go_simp⟩) hS1 ?_
    try simp only [Act.put, List.setIfInBounds_toArray, List.set_cons_zero, List.set_cons_succ]
    refine wpAnyH_take (i := 12) (oi := { dst := some 56, op := .pick (.tmp 50) (.tmp 55) (.const (Value.bool false)), type := 4, pos := "outright.go:46", after := #[{ on := 6, ground := .data }, { on := 11, ground := .data }], guard := none }) (v := .bool true) rfl (by kernel_rfl) (by kernel_rfl) (by kernel_rfl) (fun _ _ _ h => h) (Or.inl ⟨by rfl, by intro w hSw; clear hSw; go_simp⟩) hS1 ?_
    try simp only [Act.put, List.setIfInBounds_toArray, List.set_cons_zero, List.set_cons_succ]
    refine wpAnyH_take (i := 13) (oi := { dst := some 57, op := .move (.tmp 56), type := 4, pos := "outright.go:46", after := #[{ on := 12, ground := .data }, { on := 10, ground := .chain }], guard := none }) (v := .bool true) rfl (by kernel_rfl) (by kernel_rfl) (by kernel_rfl) (fun _ _ _ h => h) (Or.inl ⟨by rfl, by intro w hSw; clear hSw; go_simp⟩) hS1 ?_
    try simp only [Act.put, List.setIfInBounds_toArray, List.set_cons_zero, List.set_cons_succ]
    refine wpAnyH_take (i := 14) (oi := { dst := some 58, op := .load 23 (.tmp 8), type := 23, pos := "outright.go:46", after := #[{ on := 13, ground := .guard }], guard := some (13, true) }) (v := .agg Y1.toArray) rfl (by kernel_rfl) (by kernel_rfl) (by kernel_rfl) (fun _ _ _ h => h) (yieldsIf_load_mid (by rfl) _ _ rfl _ _ rfl _ _ (fun w h => h.2.1) uH rfl iH) hS1 ?_
    try simp only [Act.put, List.setIfInBounds_toArray, List.set_cons_zero, List.set_cons_succ]
    refine wpAnyH_take (i := 15) (oi := { dst := some 59, op := .load 23 (.tmp 6), type := 23, pos := "outright.go:46", after := #[{ on := 13, ground := .guard }], guard := some (13, true) }) (v := .agg Y1.toArray) rfl (by kernel_rfl) (by kernel_rfl) (by kernel_rfl) (fun _ _ _ h => h) (yieldsIf_load_mid (by rfl) _ _ rfl _ _ rfl _ _ (fun w h => h.1) uH rfl iH) hS1 ?_
    try simp only [Act.put, List.setIfInBounds_toArray, List.set_cons_zero, List.set_cons_succ]
    refine wpAnyH_take (i := 16) (oi := { dst := some 60, op := .binOp .eql 23 (.tmp 58) (.tmp 59) 23, type := 4, pos := "outright.go:46", after := #[{ on := 14, ground := .data }, { on := 15, ground := .data }, { on := 13, ground := .guard }], guard := some (13, true) }) (v := .bool true) rfl (by kernel_rfl) (by kernel_rfl) (by kernel_rfl) (fun _ _ _ h => h) (Or.inl ⟨by rfl, by intro w hSw; clear hSw; go_simp⟩) hS1 ?_
    try simp only [Act.put, List.setIfInBounds_toArray, List.set_cons_zero, List.set_cons_succ]
    refine wpAnyH_take (i := 17) (oi := { dst := some 61, op := .pick (.tmp 57) (.tmp 60) (.const (Value.bool false)), type := 4, pos := "outright.go:46", after := #[{ on := 13, ground := .data }, { on := 16, ground := .data }], guard := none }) (v := .bool true) rfl (by kernel_rfl) (by kernel_rfl) (by kernel_rfl) (fun _ _ _ h => h) (Or.inl ⟨by rfl, by intro w hSw; clear hSw; go_simp⟩) hS1 ?_
    try simp only [Act.put, List.setIfInBounds_toArray, List.set_cons_zero, List.set_cons_succ]
    refine wpAnyH_take (i := 18) (oi := { dst := some 10, op := .assign (.tmp 61), type := 4, pos := "outright.go:46", after := #[{ on := 17, ground := .data }, { on := 13, ground := .chain }, { on := 0, ground := .phase }, { on := 1, ground := .phase }, { on := 2, ground := .phase }, { on := 3, ground := .phase }, { on := 4, ground := .phase }, { on := 5, ground := .phase }, { on := 6, ground := .phase }, { on := 7, ground := .phase }, { on := 8, ground := .phase }, { on := 9, ground := .phase }, { on := 10, ground := .phase }, { on := 11, ground := .phase }, { on := 12, ground := .phase }, { on := 13, ground := .phase }, { on := 14, ground := .phase }, { on := 15, ground := .phase }, { on := 16, ground := .phase }, { on := 17, ground := .phase }], guard := none }) (v := .bool true) rfl (by kernel_rfl) (by kernel_rfl) (by kernel_rfl) (fun _ _ _ h => h) (Or.inl ⟨by rfl, by intro w hSw; clear hSw; go_simp⟩) hS1 ?_
    try simp only [Act.put, List.setIfInBounds_toArray, List.set_cons_zero, List.set_cons_succ]
    refine wpAnyH_done (by kernel_rfl) ?_ _
    go_wp2_with fail
    go_meet
    exact ⟨rfl, hS1.2.2⟩
  case rest =>
  obtain ⟨wD, hwD⟩ : ∃ q, q = wc := ⟨_, rfl⟩
  rw [← hwD] at hcut ⊢
  clear hwD wc
  obtain ⟨rfl, hB9⟩ := hcut
  have B9 := Lib.hid (B7.out.trans hB9)
  have LO := Lib.hid (LO.out.bel hB9)
  have LP := Lib.hid (LP.out.bel hB9)
  have LT := Lib.hid (LT.out.bel hB9)
  have RB := Lib.hid (owns_bel RB.out hB9)
  clear hB9 KEEP SL SM S0d uH iH eq1 Rq1 Rq2 Gq1 Gq2 B7 DG1 DG2
  go_upto_region 10 with fail
  obtain ⟨V, hV⟩ : ∃ x, wD.drew = x := ⟨_, rfl⟩
  have BV := Lib.hid (show Bel wD V by rw [← hV]; exact (Bel.refl wD).drew)
  have S0d : V.rangeAt bO 0 OC ∧ bO < V.heap.size := ⟨(LO.out.bel BV.out).rng, (LO.out.bel BV.out).blk.lt⟩
  have SA1 := Lib.hid (show (V.alloc Z36).rangeAt bO 0 OC ∧ bO < (V.alloc Z36).heap.size from ⟨range_up S0d.1 ((Bel.refl V).alloc _) S0d.2, Nat.lt_of_lt_of_le S0d.2 (Below.size ((Bel.refl V).alloc _))⟩)
  have SA2 := Lib.hid (show ((V.alloc Z36).alloc Z36).rangeAt bO 0 OC ∧ bO < ((V.alloc Z36).alloc Z36).heap.size from ⟨range_up S0d.1 (((Bel.refl V).alloc _).alloc _) S0d.2, Nat.lt_of_lt_of_le S0d.2 (Below.size (((Bel.refl V).alloc _).alloc _))⟩)
  have SA3 := Lib.hid (show (((V.alloc Z36).alloc Z36).alloc Z36).rangeAt bO 0 OC ∧ bO < (((V.alloc Z36).alloc Z36).alloc Z36).heap.size from ⟨range_up S0d.1 ((((Bel.refl V).alloc _).alloc _).alloc _) S0d.2, Nat.lt_of_lt_of_le S0d.2 (Below.size ((((Bel.refl V).alloc _).alloc _).alloc _))⟩)
  have uA := Tryd.underlying26
  have iA := iO.out
  obtain ⟨p0, hp0⟩ : ∃ x, x = V.heap.size := ⟨_, rfl⟩
  obtain ⟨p1, hp1⟩ : ∃ x, x = V.heap.size + 1 := ⟨_, rfl⟩
  obtain ⟨p2, hp2⟩ : ∃ x, x = V.heap.size + 1 + 1 := ⟨_, rfl⟩
  obtain ⟨V3, hV3⟩ : ∃ x, ((V.alloc Z36).alloc Z36).alloc Z36 = x := ⟨_, rfl⟩
  have zv := Below.size BV.out
  have M0 := Lib.hid (show Lie wD V3 p0 zA' 26 from ⟨by rw [← hV3, hp0]; exact ((Blk.new V _ _).bel (((Bel.refl _).alloc _).alloc _)), by omega⟩)
  have M1 := Lib.hid (show Lie wD V3 p1 zA' 26 from ⟨by rw [← hV3, show p1 = (V.alloc Z36).heap.size by rw [hp1]; simp]; exact ((Blk.new (V.alloc Z36) _ _).bel ((Bel.refl _).alloc _)), by omega⟩)
  have M2 := Lib.hid (show Lie wD V3 p2 zA' 26 from ⟨by rw [← hV3, show p2 = ((V.alloc Z36).alloc Z36).heap.size by rw [hp2]; simp]; exact Blk.new ((V.alloc Z36).alloc Z36) _ _, by omega⟩)
  have B3' := Lib.hid (show Bel wD V3 by rw [← hV3]; exact ((BV.out.alloc _).alloc _).alloc _)
  have n01 : p0 ≠ p1 := by omega
  have n02 : p0 ≠ p2 := by omega
  have n12 : p1 ≠ p2 := by omega
  have EP0 := Lib.hid hp0
  have EP1 := Lib.hid hp1
  have EP2 := Lib.hid hp2
  have EV3 := Lib.hid hV3
  rw [← hV] at S0d
  clear hp0 hp1 hp2 hV3 zv
  go_cut [11, 12, 13] (fun s11 s12 s13 wx => ∃ x y z, s11 = .pointer (some ⟨x, 0, none⟩) ∧ s12 = .pointer (some ⟨y, 0, none⟩) ∧ s13 = .pointer (some ⟨z, 0, none⟩) ∧ x ≠ y ∧ x ≠ z ∧ y ≠ z ∧ Lie wD wx x OC 26 ∧ Lie wD wx y OC 26 ∧ Lie wD wx z OC 26 ∧ Bel wD wx)
  case first =>
    refine wp_region_held_drew (S := fun X => X.rangeAt bO 0 OC ∧ bO < X.heap.size) (by kernel_rfl) S0d (fun hS0 => ?_)
    rw [hV] at hS0 ⊢
    clear hV S0d
    refine wpAnyH_take (i := 0) (oi := { dst := some 62, op := .load 26 (.tmp 1), type := 26, pos := "outright.go:47", after := #[], guard := none }) (v := .agg OC.toArray) rfl (by kernel_rfl) (by kernel_rfl) (by kernel_rfl) (fun _ _ _ h => h) (yieldsIf_load_mid (by rfl) _ _ rfl _ _ rfl _ _ (fun w h => h.1) uA rfl iA) hS0 ?_
    try simp only [Act.put, List.setIfInBounds_toArray, List.set_cons_zero, List.set_cons_succ]
    refine wpAnyH_take (i := 1) (oi := { dst := some 63, op := .load 26 (.tmp 1), type := 26, pos := "outright.go:47", after := #[{ on := 6, ground := .gcOnly .lateStores }], guard := none }) (v := .agg OC.toArray) rfl (by kernel_rfl) (by kernel_rfl) (by kernel_rfl) (fun _ _ _ h => h) (yieldsIf_load_mid (by rfl) _ _ rfl _ _ rfl _ _ (fun w h => h.1) uA rfl iA) hS0 ?_
    try simp only [Act.put, List.setIfInBounds_toArray, List.set_cons_zero, List.set_cons_succ]
    refine wpAnyH_take (i := 2) (oi := { dst := some 64, op := .load 26 (.tmp 1), type := 26, pos := "outright.go:47", after := #[{ on := 7, ground := .gcOnly .lateStores }], guard := none }) (v := .agg OC.toArray) rfl (by kernel_rfl) (by kernel_rfl) (by kernel_rfl) (fun _ _ _ h => h) (yieldsIf_load_mid (by rfl) _ _ rfl _ _ rfl _ _ (fun w h => h.1) uA rfl iA) hS0 ?_
    try simp only [Act.put, List.setIfInBounds_toArray, List.set_cons_zero, List.set_cons_succ]
    refine wpAnyH_ready (rs := [3, 4, 5]) (by kernel_rfl) (by simp) ?_
    refine AllReadyH.cons (o := { dst := some 11, op := .alloc 26, type := 0, pos := "outright.go:47", after := #[], guard := none }) rfl (fun K hK => ?_) (AllReadyH.cons (o := { dst := some 12, op := .alloc 26, type := 0, pos := "outright.go:47", after := #[], guard := none }) rfl (fun K hK => ?_) (AllReadyH.cons (o := { dst := some 13, op := .alloc 26, type := 0, pos := "outright.go:47", after := #[], guard := none }) rfl (fun K hK => ?_) AllReadyH.nil))
    · go_simp
      refine hK.out _ _ (SA1.out) (fun hS1 => ?_)
      clear hK K
      try simp only [Act.put, List.setIfInBounds_toArray, List.set_cons_zero, List.set_cons_succ]
      refine wpAnyH_ready (rs := [4, 5]) (by kernel_rfl) (by simp) ?_
      refine AllReadyH.cons (o := { dst := some 12, op := .alloc 26, type := 0, pos := "outright.go:47", after := #[], guard := none }) rfl (fun K hK => ?_) (AllReadyH.cons (o := { dst := some 13, op := .alloc 26, type := 0, pos := "outright.go:47", after := #[], guard := none }) rfl (fun K hK => ?_) AllReadyH.nil)
      · go_simp
        refine hK.out _ _ (SA2.out) (fun hS2 => ?_)
        clear hK K
        try simp only [Act.put, List.setIfInBounds_toArray, List.set_cons_zero, List.set_cons_succ]
        refine wpAnyH_ready (rs := [5]) (by kernel_rfl) (by simp) ?_
        refine AllReadyH.cons (o := { dst := some 13, op := .alloc 26, type := 0, pos := "outright.go:47", after := #[], guard := none }) rfl (fun K hK => ?_) AllReadyH.nil
        · go_simp
          refine hK.out _ _ (SA3.out) (fun hS3 => ?_)
          clear hK K
          try simp only [Act.put, List.setIfInBounds_toArray, List.set_cons_zero, List.set_cons_succ]
          rw [EV3.out]
          try rw [← EP2.out]
          try rw [← EP1.out]
          try rw [← EP0.out]
          clear hS0 hS1 hS2 hS3
          refine wpAnyH_ready (rs := [6]) (by kernel_rfl) (by simp) ?_
          refine AllReadyH.cons (o := { dst := none, op := .store 26 (.tmp 11) (.tmp 62), type := 0, pos := "outright.go:47", after := #[{ on := 3, ground := .data }, { on := 0, ground := .data }, { on := 0, ground := .phase }, { on := 1, ground := .textOnly .lateStores }, { on := 2, ground := .textOnly .lateStores }, { on := 3, ground := .phase }, { on := 4, ground := .phase }, { on := 5, ground := .phase }], guard := none }) rfl (fun K hK => ?_) AllReadyH.nil
          rw [if_pos (by rfl)]
          refine wp_store_mid 26 (.tmp 11) (.tmp 62) rfl p0 0 OC.toArray rfl rfl (by rw [sO.out]; exact M0.out.blk.there 0 _ (Nat.le_refl _)) jO.out oO.out ?_
          obtain ⟨V4, hv⟩ : ∃ x, V3.setCells p0 0 OC = x := ⟨_, rfl⟩
          rw [show OC.toArray.toList = OC from rfl, hv]
          have m0 : Lie wD V4 p0 OC 26 := by rw [← hv]; exact M0.out.put (by rw [lO.out]; rfl)
          have m1 : Lie wD V4 p1 zA' 26 := by rw [← hv]; exact M1.out.kep (kput OC) (by omega)
          have m2 : Lie wD V4 p2 zA' 26 := by rw [← hv]; exact M2.out.kep (kput OC) (by omega)
          have bb : Bel wD V4 := by rw [← hv]; exact Kep.bel B3'.out (kput OC) (fun i hi => by have := m0.low; omega)
          refine hK.out _ _ ⟨(LO.out.bel bb).rng, (LO.out.bel bb).blk.lt⟩ (fun hS4 => ?_)
          clear hK K hv
          try simp only [Act.put]
          refine wpAnyH_ready (rs := [7]) (by kernel_rfl) (by simp) ?_
          refine AllReadyH.cons (o := { dst := none, op := .store 26 (.tmp 12) (.tmp 63), type := 0, pos := "outright.go:47", after := #[{ on := 4, ground := .data }, { on := 1, ground := .data }, { on := 6, ground := .chain }, { on := 0, ground := .phase }, { on := 1, ground := .phase }, { on := 2, ground := .textOnly .lateStores }, { on := 3, ground := .phase }, { on := 4, ground := .phase }, { on := 5, ground := .phase }, { on := 6, ground := .phase }], guard := none }) rfl (fun K hK => ?_) AllReadyH.nil
          rw [if_pos (by rfl)]
          refine wp_store_mid 26 (.tmp 12) (.tmp 63) rfl p1 0 OC.toArray rfl rfl (by rw [sO.out]; exact m1.blk.there 0 _ (Nat.le_refl _)) jO.out oO.out ?_
          obtain ⟨V5, hv⟩ : ∃ x, V4.setCells p1 0 OC = x := ⟨_, rfl⟩
          rw [show OC.toArray.toList = OC from rfl, hv]
          have m0 : Lie wD V5 p0 OC 26 := by rw [← hv]; exact m0.kep (kput OC) (by omega)
          have m1 : Lie wD V5 p1 OC 26 := by rw [← hv]; exact m1.put (by rw [lO.out]; rfl)
          have m2 : Lie wD V5 p2 zA' 26 := by rw [← hv]; exact m2.kep (kput OC) (by omega)
          have bb : Bel wD V5 := by rw [← hv]; exact Kep.bel bb (kput OC) (fun i hi => by have := m1.low; omega)
          refine hK.out _ _ ⟨(LO.out.bel bb).rng, (LO.out.bel bb).blk.lt⟩ (fun hS5 => ?_)
          clear hK K hv
          try simp only [Act.put]
          refine wpAnyH_ready (rs := [8]) (by kernel_rfl) (by simp) ?_
          refine AllReadyH.cons (o := { dst := none, op := .store 26 (.tmp 13) (.tmp 64), type := 0, pos := "outright.go:47", after := #[{ on := 5, ground := .data }, { on := 2, ground := .data }, { on := 7, ground := .chain }, { on := 0, ground := .phase }, { on := 1, ground := .phase }, { on := 2, ground := .phase }, { on := 3, ground := .phase }, { on := 4, ground := .phase }, { on := 5, ground := .phase }, { on := 6, ground := .phase }, { on := 7, ground := .phase }], guard := none }) rfl (fun K hK => ?_) AllReadyH.nil
          rw [if_pos (by rfl)]
          refine wp_store_mid 26 (.tmp 13) (.tmp 64) rfl p2 0 OC.toArray rfl rfl (by rw [sO.out]; exact m2.blk.there 0 _ (Nat.le_refl _)) jO.out oO.out ?_
          obtain ⟨V6, hv⟩ : ∃ x, V5.setCells p2 0 OC = x := ⟨_, rfl⟩
          rw [show OC.toArray.toList = OC from rfl, hv]
          have m0 : Lie wD V6 p0 OC 26 := by rw [← hv]; exact m0.kep (kput OC) (by omega)
          have m1 : Lie wD V6 p1 OC 26 := by rw [← hv]; exact m1.kep (kput OC) (by omega)
          have m2 : Lie wD V6 p2 OC 26 := by rw [← hv]; exact m2.put (by rw [lO.out]; rfl)
          have bb : Bel wD V6 := by rw [← hv]; exact Kep.bel bb (kput OC) (fun i hi => by have := m2.low; omega)
          refine hK.out _ _ ⟨(LO.out.bel bb).rng, (LO.out.bel bb).blk.lt⟩ (fun hS6 => ?_)
          clear hK K hv
          try simp only [Act.put]
          refine wpAnyH_done (by kernel_rfl) ?_ _
          go_wp2_with fail
          go_meet
          exact ⟨p0, p1, p2, rfl, rfl, rfl, by omega, by omega, by omega, m0, m1, m2, bb⟩
      · go_simp
        refine hK.out _ _ (SA2.out) (fun hS2 => ?_)
        clear hK K
        try simp only [Act.put, List.setIfInBounds_toArray, List.set_cons_zero, List.set_cons_succ]
        refine wpAnyH_ready (rs := [4]) (by kernel_rfl) (by simp) ?_
        refine AllReadyH.cons (o := { dst := some 12, op := .alloc 26, type := 0, pos := "outright.go:47", after := #[], guard := none }) rfl (fun K hK => ?_) AllReadyH.nil
        · go_simp
          refine hK.out _ _ (SA3.out) (fun hS3 => ?_)
          clear hK K
          try simp only [Act.put, List.setIfInBounds_toArray, List.set_cons_zero, List.set_cons_succ]
          rw [EV3.out]
          try rw [← EP2.out]
          try rw [← EP1.out]
          try rw [← EP0.out]
          clear hS0 hS1 hS2 hS3
          refine wpAnyH_ready (rs := [6]) (by kernel_rfl) (by simp) ?_
          refine AllReadyH.cons (o := { dst := none, op := .store 26 (.tmp 11) (.tmp 62), type := 0, pos := "outright.go:47", after := #[{ on := 3, ground := .data }, { on := 0, ground := .data }, { on := 0, ground := .phase }, { on := 1, ground := .textOnly .lateStores }, { on := 2, ground := .textOnly .lateStores }, { on := 3, ground := .phase }, { on := 4, ground := .phase }, { on := 5, ground := .phase }], guard := none }) rfl (fun K hK => ?_) AllReadyH.nil
          rw [if_pos (by rfl)]
          refine wp_store_mid 26 (.tmp 11) (.tmp 62) rfl p0 0 OC.toArray rfl rfl (by rw [sO.out]; exact M0.out.blk.there 0 _ (Nat.le_refl _)) jO.out oO.out ?_
          obtain ⟨V4, hv⟩ : ∃ x, V3.setCells p0 0 OC = x := ⟨_, rfl⟩
          rw [show OC.toArray.toList = OC from rfl, hv]
          have m0 : Lie wD V4 p0 OC 26 := by rw [← hv]; exact M0.out.put (by rw [lO.out]; rfl)
          have m1 : Lie wD V4 p1 zA' 26 := by rw [← hv]; exact M1.out.kep (kput OC) (by omega)
          have m2 : Lie wD V4 p2 zA' 26 := by rw [← hv]; exact M2.out.kep (kput OC) (by omega)
          have bb : Bel wD V4 := by rw [← hv]; exact Kep.bel B3'.out (kput OC) (fun i hi => by have := m0.low; omega)
          refine hK.out _ _ ⟨(LO.out.bel bb).rng, (LO.out.bel bb).blk.lt⟩ (fun hS4 => ?_)
          clear hK K hv
          try simp only [Act.put]
          refine wpAnyH_ready (rs := [7]) (by kernel_rfl) (by simp) ?_
          refine AllReadyH.cons (o := { dst := none, op := .store 26 (.tmp 12) (.tmp 63), type := 0, pos := "outright.go:47", after := #[{ on := 4, ground := .data }, { on := 1, ground := .data }, { on := 6, ground := .chain }, { on := 0, ground := .phase }, { on := 1, ground := .phase }, { on := 2, ground := .textOnly .lateStores }, { on := 3, ground := .phase }, { on := 4, ground := .phase }, { on := 5, ground := .phase }, { on := 6, ground := .phase }], guard := none }) rfl (fun K hK => ?_) AllReadyH.nil
          rw [if_pos (by rfl)]
          refine wp_store_mid 26 (.tmp 12) (.tmp 63) rfl p2 0 OC.toArray rfl rfl (by rw [sO.out]; exact m2.blk.there 0 _ (Nat.le_refl _)) jO.out oO.out ?_
          obtain ⟨V5, hv⟩ : ∃ x, V4.setCells p2 0 OC = x := ⟨_, rfl⟩
          rw [show OC.toArray.toList = OC from rfl, hv]
          have m0 : Lie wD V5 p0 OC 26 := by rw [← hv]; exact m0.kep (kput OC) (by omega)
          have m1 : Lie wD V5 p1 zA' 26 := by rw [← hv]; exact m1.kep (kput OC) (by omega)
          have m2 : Lie wD V5 p2 OC 26 := by rw [← hv]; exact m2.put (by rw [lO.out]; rfl)
          have bb : Bel wD V5 := by rw [← hv]; exact Kep.bel bb (kput OC) (fun i hi => by have := m2.low; omega)
          refine hK.out _ _ ⟨(LO.out.bel bb).rng, (LO.out.bel bb).blk.lt⟩ (fun hS5 => ?_)
          clear hK K hv
          try simp only [Act.put]
          refine wpAnyH_ready (rs := [8]) (by kernel_rfl) (by simp) ?_
          refine AllReadyH.cons (o := { dst := none, op := .store 26 (.tmp 13) (.tmp 64), type := 0, pos := "outright.go:47", after := #[{ on := 5, ground := .data }, { on := 2, ground := .data }, { on := 7, ground := .chain }, { on := 0, ground := .phase }, { on := 1, ground := .phase }, { on := 2, ground := .phase }, { on := 3, ground := .phase }, { on := 4, ground := .phase }, { on := 5, ground := .phase }, { on := 6, ground := .phase }, { on := 7, ground := .phase }], guard := none }) rfl (fun K hK => ?_) AllReadyH.nil
          rw [if_pos (by rfl)]
          refine wp_store_mid 26 (.tmp 13) (.tmp 64) rfl p1 0 OC.toArray rfl rfl (by rw [sO.out]; exact m1.blk.there 0 _ (Nat.le_refl _)) jO.out oO.out ?_
          obtain ⟨V6, hv⟩ : ∃ x, V5.setCells p1 0 OC = x := ⟨_, rfl⟩
          rw [show OC.toArray.toList = OC from rfl, hv]
          have m0 : Lie wD V6 p0 OC 26 := by rw [← hv]; exact m0.kep (kput OC) (by omega)
          have m1 : Lie wD V6 p1 OC 26 := by rw [← hv]; exact m1.put (by rw [lO.out]; rfl)
          have m2 : Lie wD V6 p2 OC 26 := by rw [← hv]; exact m2.kep (kput OC) (by omega)
          have bb : Bel wD V6 := by rw [← hv]; exact Kep.bel bb (kput OC) (fun i hi => by have := m1.low; omega)
          refine hK.out _ _ ⟨(LO.out.bel bb).rng, (LO.out.bel bb).blk.lt⟩ (fun hS6 => ?_)
          clear hK K hv
          try simp only [Act.put]
          refine wpAnyH_done (by kernel_rfl) ?_ _
          go_wp2_with fail
          go_meet
          exact ⟨p0, p2, p1, rfl, rfl, rfl, by omega, by omega, by omega, m0, m2, m1, bb⟩
    · go_simp
      refine hK.out _ _ (SA1.out) (fun hS1 => ?_)
      clear hK K
      try simp only [Act.put, List.setIfInBounds_toArray, List.set_cons_zero, List.set_cons_succ]
      refine wpAnyH_ready (rs := [3, 5]) (by kernel_rfl) (by simp) ?_
      refine AllReadyH.cons (o := { dst := some 11, op := .alloc 26, type := 0, pos := "outright.go:47", after := #[], guard := none }) rfl (fun K hK => ?_) (AllReadyH.cons (o := { dst := some 13, op := .alloc 26, type := 0, pos := "outright.go:47", after := #[], guard := none }) rfl (fun K hK => ?_) AllReadyH.nil)
      · go_simp
        refine hK.out _ _ (SA2.out) (fun hS2 => ?_)
        clear hK K
        try simp only [Act.put, List.setIfInBounds_toArray, List.set_cons_zero, List.set_cons_succ]
        refine wpAnyH_ready (rs := [5]) (by kernel_rfl) (by simp) ?_
        refine AllReadyH.cons (o := { dst := some 13, op := .alloc 26, type := 0, pos := "outright.go:47", after := #[], guard := none }) rfl (fun K hK => ?_) AllReadyH.nil
        · go_simp
          refine hK.out _ _ (SA3.out) (fun hS3 => ?_)
          clear hK K
          try simp only [Act.put, List.setIfInBounds_toArray, List.set_cons_zero, List.set_cons_succ]
          rw [EV3.out]
          try rw [← EP2.out]
          try rw [← EP1.out]
          try rw [← EP0.out]
          clear hS0 hS1 hS2 hS3
          refine wpAnyH_ready (rs := [6]) (by kernel_rfl) (by simp) ?_
          refine AllReadyH.cons (o := { dst := none, op := .store 26 (.tmp 11) (.tmp 62), type := 0, pos := "outright.go:47", after := #[{ on := 3, ground := .data }, { on := 0, ground := .data }, { on := 0, ground := .phase }, { on := 1, ground := .textOnly .lateStores }, { on := 2, ground := .textOnly .lateStores }, { on := 3, ground := .phase }, { on := 4, ground := .phase }, { on := 5, ground := .phase }], guard := none }) rfl (fun K hK => ?_) AllReadyH.nil
          rw [if_pos (by rfl)]
          refine wp_store_mid 26 (.tmp 11) (.tmp 62) rfl p1 0 OC.toArray rfl rfl (by rw [sO.out]; exact M1.out.blk.there 0 _ (Nat.le_refl _)) jO.out oO.out ?_
          obtain ⟨V4, hv⟩ : ∃ x, V3.setCells p1 0 OC = x := ⟨_, rfl⟩
          rw [show OC.toArray.toList = OC from rfl, hv]
          have m0 : Lie wD V4 p0 zA' 26 := by rw [← hv]; exact M0.out.kep (kput OC) (by omega)
          have m1 : Lie wD V4 p1 OC 26 := by rw [← hv]; exact M1.out.put (by rw [lO.out]; rfl)
          have m2 : Lie wD V4 p2 zA' 26 := by rw [← hv]; exact M2.out.kep (kput OC) (by omega)
          have bb : Bel wD V4 := by rw [← hv]; exact Kep.bel B3'.out (kput OC) (fun i hi => by have := m1.low; omega)
          refine hK.out _ _ ⟨(LO.out.bel bb).rng, (LO.out.bel bb).blk.lt⟩ (fun hS4 => ?_)
          clear hK K hv
          try simp only [Act.put]
          refine wpAnyH_ready (rs := [7]) (by kernel_rfl) (by simp) ?_
          refine AllReadyH.cons (o := { dst := none, op := .store 26 (.tmp 12) (.tmp 63), type := 0, pos := "outright.go:47", after := #[{ on := 4, ground := .data }, { on := 1, ground := .data }, { on := 6, ground := .chain }, { on := 0, ground := .phase }, { on := 1, ground := .phase }, { on := 2, ground := .textOnly .lateStores }, { on := 3, ground := .phase }, { on := 4, ground := .phase }, { on := 5, ground := .phase }, { on := 6, ground := .phase }], guard := none }) rfl (fun K hK => ?_) AllReadyH.nil
          rw [if_pos (by rfl)]
          refine wp_store_mid 26 (.tmp 12) (.tmp 63) rfl p0 0 OC.toArray rfl rfl (by rw [sO.out]; exact m0.blk.there 0 _ (Nat.le_refl _)) jO.out oO.out ?_
          obtain ⟨V5, hv⟩ : ∃ x, V4.setCells p0 0 OC = x := ⟨_, rfl⟩
          rw [show OC.toArray.toList = OC from rfl, hv]
          have m0 : Lie wD V5 p0 OC 26 := by rw [← hv]; exact m0.put (by rw [lO.out]; rfl)
          have m1 : Lie wD V5 p1 OC 26 := by rw [← hv]; exact m1.kep (kput OC) (by omega)
          have m2 : Lie wD V5 p2 zA' 26 := by rw [← hv]; exact m2.kep (kput OC) (by omega)
          have bb : Bel wD V5 := by rw [← hv]; exact Kep.bel bb (kput OC) (fun i hi => by have := m0.low; omega)
          refine hK.out _ _ ⟨(LO.out.bel bb).rng, (LO.out.bel bb).blk.lt⟩ (fun hS5 => ?_)
          clear hK K hv
          try simp only [Act.put]
          refine wpAnyH_ready (rs := [8]) (by kernel_rfl) (by simp) ?_
          refine AllReadyH.cons (o := { dst := none, op := .store 26 (.tmp 13) (.tmp 64), type := 0, pos := "outright.go:47", after := #[{ on := 5, ground := .data }, { on := 2, ground := .data }, { on := 7, ground := .chain }, { on := 0, ground := .phase }, { on := 1, ground := .phase }, { on := 2, ground := .phase }, { on := 3, ground := .phase }, { on := 4, ground := .phase }, { on := 5, ground := .phase }, { on := 6, ground := .phase }, { on := 7, ground := .phase }], guard := none }) rfl (fun K hK => ?_) AllReadyH.nil
          rw [if_pos (by rfl)]
          refine wp_store_mid 26 (.tmp 13) (.tmp 64) rfl p2 0 OC.toArray rfl rfl (by rw [sO.out]; exact m2.blk.there 0 _ (Nat.le_refl _)) jO.out oO.out ?_
          obtain ⟨V6, hv⟩ : ∃ x, V5.setCells p2 0 OC = x := ⟨_, rfl⟩
          rw [show OC.toArray.toList = OC from rfl, hv]
          have m0 : Lie wD V6 p0 OC 26 := by rw [← hv]; exact m0.kep (kput OC) (by omega)
          have m1 : Lie wD V6 p1 OC 26 := by rw [← hv]; exact m1.kep (kput OC) (by omega)
          have m2 : Lie wD V6 p2 OC 26 := by rw [← hv]; exact m2.put (by rw [lO.out]; rfl)
          have bb : Bel wD V6 := by rw [← hv]; exact Kep.bel bb (kput OC) (fun i hi => by have := m2.low; omega)
          refine hK.out _ _ ⟨(LO.out.bel bb).rng, (LO.out.bel bb).blk.lt⟩ (fun hS6 => ?_)
          clear hK K hv
          try simp only [Act.put]
          refine wpAnyH_done (by kernel_rfl) ?_ _
          go_wp2_with fail
          go_meet
          exact ⟨p1, p0, p2, rfl, rfl, rfl, by omega, by omega, by omega, m1, m0, m2, bb⟩
      · go_simp
        refine hK.out _ _ (SA2.out) (fun hS2 => ?_)
        clear hK K
        try simp only [Act.put, List.setIfInBounds_toArray, List.set_cons_zero, List.set_cons_succ]
        refine wpAnyH_ready (rs := [3]) (by kernel_rfl) (by simp) ?_
        refine AllReadyH.cons (o := { dst := some 11, op := .alloc 26, type := 0, pos := "outright.go:47", after := #[], guard := none }) rfl (fun K hK => ?_) AllReadyH.nil
        · go_simp
          refine hK.out _ _ (SA3.out) (fun hS3 => ?_)
          clear hK K
          try simp only [Act.put, List.setIfInBounds_toArray, List.set_cons_zero, List.set_cons_succ]
          rw [EV3.out]
          try rw [← EP2.out]
          try rw [← EP1.out]
          try rw [← EP0.out]
          clear hS0 hS1 hS2 hS3
          refine wpAnyH_ready (rs := [6]) (by kernel_rfl) (by simp) ?_
          refine AllReadyH.cons (o := { dst := none, op := .store 26 (.tmp 11) (.tmp 62), type := 0, pos := "outright.go:47", after := #[{ on := 3, ground := .data }, { on := 0, ground := .data }, { on := 0, ground := .phase }, { on := 1, ground := .textOnly .lateStores }, { on := 2, ground := .textOnly .lateStores }, { on := 3, ground := .phase }, { on := 4, ground := .phase }, { on := 5, ground := .phase }], guard := none }) rfl (fun K hK => ?_) AllReadyH.nil
          rw [if_pos (by rfl)]
          refine wp_store_mid 26 (.tmp 11) (.tmp 62) rfl p2 0 OC.toArray rfl rfl (by rw [sO.out]; exact M2.out.blk.there 0 _ (Nat.le_refl _)) jO.out oO.out ?_
          obtain ⟨V4, hv⟩ : ∃ x, V3.setCells p2 0 OC = x := ⟨_, rfl⟩
          rw [show OC.toArray.toList = OC from rfl, hv]
          have m0 : Lie wD V4 p0 zA' 26 := by rw [← hv]; exact M0.out.kep (kput OC) (by omega)
          have m1 : Lie wD V4 p1 zA' 26 := by rw [← hv]; exact M1.out.kep (kput OC) (by omega)
          have m2 : Lie wD V4 p2 OC 26 := by rw [← hv]; exact M2.out.put (by rw [lO.out]; rfl)
          have bb : Bel wD V4 := by rw [← hv]; exact Kep.bel B3'.out (kput OC) (fun i hi => by have := m2.low; omega)
          refine hK.out _ _ ⟨(LO.out.bel bb).rng, (LO.out.bel bb).blk.lt⟩ (fun hS4 => ?_)
          clear hK K hv
          try simp only [Act.put]
          refine wpAnyH_ready (rs := [7]) (by kernel_rfl) (by simp) ?_
          refine AllReadyH.cons (o := { dst := none, op := .store 26 (.tmp 12) (.tmp 63), type := 0, pos := "outright.go:47", after := #[{ on := 4, ground := .data }, { on := 1, ground := .data }, { on := 6, ground := .chain }, { on := 0, ground := .phase }, { on := 1, ground := .phase }, { on := 2, ground := .textOnly .lateStores }, { on := 3, ground := .phase }, { on := 4, ground := .phase }, { on := 5, ground := .phase }, { on := 6, ground := .phase }], guard := none }) rfl (fun K hK => ?_) AllReadyH.nil
          rw [if_pos (by rfl)]
          refine wp_store_mid 26 (.tmp 12) (.tmp 63) rfl p0 0 OC.toArray rfl rfl (by rw [sO.out]; exact m0.blk.there 0 _ (Nat.le_refl _)) jO.out oO.out ?_
          obtain ⟨V5, hv⟩ : ∃ x, V4.setCells p0 0 OC = x := ⟨_, rfl⟩
          rw [show OC.toArray.toList = OC from rfl, hv]
          have m0 : Lie wD V5 p0 OC 26 := by rw [← hv]; exact m0.put (by rw [lO.out]; rfl)
          have m1 : Lie wD V5 p1 zA' 26 := by rw [← hv]; exact m1.kep (kput OC) (by omega)
          have m2 : Lie wD V5 p2 OC 26 := by rw [← hv]; exact m2.kep (kput OC) (by omega)
          have bb : Bel wD V5 := by rw [← hv]; exact Kep.bel bb (kput OC) (fun i hi => by have := m0.low; omega)
          refine hK.out _ _ ⟨(LO.out.bel bb).rng, (LO.out.bel bb).blk.lt⟩ (fun hS5 => ?_)
          clear hK K hv
          try simp only [Act.put]
          refine wpAnyH_ready (rs := [8]) (by kernel_rfl) (by simp) ?_
          refine AllReadyH.cons (o := { dst := none, op := .store 26 (.tmp 13) (.tmp 64), type := 0, pos := "outright.go:47", after := #[{ on := 5, ground := .data }, { on := 2, ground := .data }, { on := 7, ground := .chain }, { on := 0, ground := .phase }, { on := 1, ground := .phase }, { on := 2, ground := .phase }, { on := 3, ground := .phase }, { on := 4, ground := .phase }, { on := 5, ground := .phase }, { on := 6, ground := .phase }, { on := 7, ground := .phase }], guard := none }) rfl (fun K hK => ?_) AllReadyH.nil
          rw [if_pos (by rfl)]
          refine wp_store_mid 26 (.tmp 13) (.tmp 64) rfl p1 0 OC.toArray rfl rfl (by rw [sO.out]; exact m1.blk.there 0 _ (Nat.le_refl _)) jO.out oO.out ?_
          obtain ⟨V6, hv⟩ : ∃ x, V5.setCells p1 0 OC = x := ⟨_, rfl⟩
          rw [show OC.toArray.toList = OC from rfl, hv]
          have m0 : Lie wD V6 p0 OC 26 := by rw [← hv]; exact m0.kep (kput OC) (by omega)
          have m1 : Lie wD V6 p1 OC 26 := by rw [← hv]; exact m1.put (by rw [lO.out]; rfl)
          have m2 : Lie wD V6 p2 OC 26 := by rw [← hv]; exact m2.kep (kput OC) (by omega)
          have bb : Bel wD V6 := by rw [← hv]; exact Kep.bel bb (kput OC) (fun i hi => by have := m1.low; omega)
          refine hK.out _ _ ⟨(LO.out.bel bb).rng, (LO.out.bel bb).blk.lt⟩ (fun hS6 => ?_)
          clear hK K hv
          try simp only [Act.put]
          refine wpAnyH_done (by kernel_rfl) ?_ _
          go_wp2_with fail
          go_meet
          exact ⟨p2, p0, p1, rfl, rfl, rfl, by omega, by omega, by omega, m2, m0, m1, bb⟩
    · go_simp
      refine hK.out _ _ (SA1.out) (fun hS1 => ?_)
      clear hK K
      try simp only [Act.put, List.setIfInBounds_toArray, List.set_cons_zero, List.set_cons_succ]
      refine wpAnyH_ready (rs := [3, 4]) (by kernel_rfl) (by simp) ?_
      refine AllReadyH.cons (o := { dst := some 11, op := .alloc 26, type := 0, pos := "outright.go:47", after := #[], guard := none }) rfl (fun K hK => ?_) (AllReadyH.cons (o := { dst := some 12, op := .alloc 26, type := 0, pos := "outright.go:47", after := #[], guard := none }) rfl (fun K hK => ?_) AllReadyH.nil)
      · go_simp
        refine hK.out _ _ (SA2.out) (fun hS2 => ?_)
        clear hK K
        try simp only [Act.put, List.setIfInBounds_toArray, List.set_cons_zero, List.set_cons_succ]
        refine wpAnyH_ready (rs := [4]) (by kernel_rfl) (by simp) ?_
        refine AllReadyH.cons (o := { dst := some 12, op := .alloc 26, type := 0, pos := "outright.go:47", after := #[], guard := none }) rfl (fun K hK => ?_) AllReadyH.nil
        · go_simp
          refine hK.out _ _ (SA3.out) (fun hS3 => ?_)
          clear hK K
          try simp only [Act.put, List.setIfInBounds_toArray, List.set_cons_zero, List.set_cons_succ]
          rw [EV3.out]
          try rw [← EP2.out]
          try rw [← EP1.out]
          try rw [← EP0.out]
          clear hS0 hS1 hS2 hS3
          refine wpAnyH_ready (rs := [6]) (by kernel_rfl) (by simp) ?_
          refine AllReadyH.cons (o := { dst := none, op := .store 26 (.tmp 11) (.tmp 62), type := 0, pos := "outright.go:47", after := #[{ on := 3, ground := .data }, { on := 0, ground := .data }, { on := 0, ground := .phase }, { on := 1, ground := .textOnly .lateStores }, { on := 2, ground := .textOnly .lateStores }, { on := 3, ground := .phase }, { on := 4, ground := .phase }, { on := 5, ground := .phase }], guard := none }) rfl (fun K hK => ?_) AllReadyH.nil
          rw [if_pos (by rfl)]
          refine wp_store_mid 26 (.tmp 11) (.tmp 62) rfl p1 0 OC.toArray rfl rfl (by rw [sO.out]; exact M1.out.blk.there 0 _ (Nat.le_refl _)) jO.out oO.out ?_
          obtain ⟨V4, hv⟩ : ∃ x, V3.setCells p1 0 OC = x := ⟨_, rfl⟩
          rw [show OC.toArray.toList = OC from rfl, hv]
          have m0 : Lie wD V4 p0 zA' 26 := by rw [← hv]; exact M0.out.kep (kput OC) (by omega)
          have m1 : Lie wD V4 p1 OC 26 := by rw [← hv]; exact M1.out.put (by rw [lO.out]; rfl)
          have m2 : Lie wD V4 p2 zA' 26 := by rw [← hv]; exact M2.out.kep (kput OC) (by omega)
          have bb : Bel wD V4 := by rw [← hv]; exact Kep.bel B3'.out (kput OC) (fun i hi => by have := m1.low; omega)
          refine hK.out _ _ ⟨(LO.out.bel bb).rng, (LO.out.bel bb).blk.lt⟩ (fun hS4 => ?_)
          clear hK K hv
          try simp only [Act.put]
          refine wpAnyH_ready (rs := [7]) (by kernel_rfl) (by simp) ?_
          refine AllReadyH.cons (o := { dst := none, op := .store 26 (.tmp 12) (.tmp 63), type := 0, pos := "outright.go:47", after := #[{ on := 4, ground := .data }, { on := 1, ground := .data }, { on := 6, ground := .chain }, { on := 0, ground := .phase }, { on := 1, ground := .phase }, { on := 2, ground := .textOnly .lateStores }, { on := 3, ground := .phase }, { on := 4, ground := .phase }, { on := 5, ground := .phase }, { on := 6, ground := .phase }], guard := none }) rfl (fun K hK => ?_) AllReadyH.nil
          rw [if_pos (by rfl)]
          refine wp_store_mid 26 (.tmp 12) (.tmp 63) rfl p2 0 OC.toArray rfl rfl (by rw [sO.out]; exact m2.blk.there 0 _ (Nat.le_refl _)) jO.out oO.out ?_
          obtain ⟨V5, hv⟩ : ∃ x, V4.setCells p2 0 OC = x := ⟨_, rfl⟩
          rw [show OC.toArray.toList = OC from rfl, hv]
          have m0 : Lie wD V5 p0 zA' 26 := by rw [← hv]; exact m0.kep (kput OC) (by omega)
          have m1 : Lie wD V5 p1 OC 26 := by rw [← hv]; exact m1.kep (kput OC) (by omega)
          have m2 : Lie wD V5 p2 OC 26 := by rw [← hv]; exact m2.put (by rw [lO.out]; rfl)
          have bb : Bel wD V5 := by rw [← hv]; exact Kep.bel bb (kput OC) (fun i hi => by have := m2.low; omega)
          refine hK.out _ _ ⟨(LO.out.bel bb).rng, (LO.out.bel bb).blk.lt⟩ (fun hS5 => ?_)
          clear hK K hv
          try simp only [Act.put]
          refine wpAnyH_ready (rs := [8]) (by kernel_rfl) (by simp) ?_
          refine AllReadyH.cons (o := { dst := none, op := .store 26 (.tmp 13) (.tmp 64), type := 0, pos := "outright.go:47", after := #[{ on := 5, ground := .data }, { on := 2, ground := .data }, { on := 7, ground := .chain }, { on := 0, ground := .phase }, { on := 1, ground := .phase }, { on := 2, ground := .phase }, { on := 3, ground := .phase }, { on := 4, ground := .phase }, { on := 5, ground := .phase }, { on := 6, ground := .phase }, { on := 7, ground := .phase }], guard := none }) rfl (fun K hK => ?_) AllReadyH.nil
          rw [if_pos (by rfl)]
          refine wp_store_mid 26 (.tmp 13) (.tmp 64) rfl p0 0 OC.toArray rfl rfl (by rw [sO.out]; exact m0.blk.there 0 _ (Nat.le_refl _)) jO.out oO.out ?_
          obtain ⟨V6, hv⟩ : ∃ x, V5.setCells p0 0 OC = x := ⟨_, rfl⟩
          rw [show OC.toArray.toList = OC from rfl, hv]
          have m0 : Lie wD V6 p0 OC 26 := by rw [← hv]; exact m0.put (by rw [lO.out]; rfl)
          have m1 : Lie wD V6 p1 OC 26 := by rw [← hv]; exact m1.kep (kput OC) (by omega)
          have m2 : Lie wD V6 p2 OC 26 := by rw [← hv]; exact m2.kep (kput OC) (by omega)
          have bb : Bel wD V6 := by rw [← hv]; exact Kep.bel bb (kput OC) (fun i hi => by have := m0.low; omega)
          refine hK.out _ _ ⟨(LO.out.bel bb).rng, (LO.out.bel bb).blk.lt⟩ (fun hS6 => ?_)
          clear hK K hv
          try simp only [Act.put]
          refine wpAnyH_done (by kernel_rfl) ?_ _
          go_wp2_with fail
          go_meet
          exact ⟨p1, p2, p0, rfl, rfl, rfl, by omega, by omega, by omega, m1, m2, m0, bb⟩
      · go_simp
        refine hK.out _ _ (SA2.out) (fun hS2 => ?_)
        clear hK K
        try simp only [Act.put, List.setIfInBounds_toArray, List.set_cons_zero, List.set_cons_succ]
        refine wpAnyH_ready (rs := [3]) (by kernel_rfl) (by simp) ?_
        refine AllReadyH.cons (o := { dst := some 11, op := .alloc 26, type := 0, pos := "outright.go:47", after := #[], guard := none }) rfl (fun K hK => ?_) AllReadyH.nil
        · go_simp
          refine hK.out _ _ (SA3.out) (fun hS3 => ?_)
          clear hK K
          try simp only [Act.put, List.setIfInBounds_toArray, List.set_cons_zero, List.set_cons_succ]
          rw [EV3.out]
          try rw [← EP2.out]
          try rw [← EP1.out]
          try rw [← EP0.out]
          clear hS0 hS1 hS2 hS3
          refine wpAnyH_ready (rs := [6]) (by kernel_rfl) (by simp) ?_
          refine AllReadyH.cons (o := { dst := none, op := .store 26 (.tmp 11) (.tmp 62), type := 0, pos := "outright.go:47", after := #[{ on := 3, ground := .data }, { on := 0, ground := .data }, { on := 0, ground := .phase }, { on := 1, ground := .textOnly .lateStores }, { on := 2, ground := .textOnly .lateStores }, { on := 3, ground := .phase }, { on := 4, ground := .phase }, { on := 5, ground := .phase }], guard := none }) rfl (fun K hK => ?_) AllReadyH.nil
          rw [if_pos (by rfl)]
          refine wp_store_mid 26 (.tmp 11) (.tmp 62) rfl p2 0 OC.toArray rfl rfl (by rw [sO.out]; exact M2.out.blk.there 0 _ (Nat.le_refl _)) jO.out oO.out ?_
          obtain ⟨V4, hv⟩ : ∃ x, V3.setCells p2 0 OC = x := ⟨_, rfl⟩
          rw [show OC.toArray.toList = OC from rfl, hv]
          have m0 : Lie wD V4 p0 zA' 26 := by rw [← hv]; exact M0.out.kep (kput OC) (by omega)
          have m1 : Lie wD V4 p1 zA' 26 := by rw [← hv]; exact M1.out.kep (kput OC) (by omega)
          have m2 : Lie wD V4 p2 OC 26 := by rw [← hv]; exact M2.out.put (by rw [lO.out]; rfl)
          have bb : Bel wD V4 := by rw [← hv]; exact Kep.bel B3'.out (kput OC) (fun i hi => by have := m2.low; omega)
          refine hK.out _ _ ⟨(LO.out.bel bb).rng, (LO.out.bel bb).blk.lt⟩ (fun hS4 => ?_)
          clear hK K hv
          try simp only [Act.put]
          refine wpAnyH_ready (rs := [7]) (by kernel_rfl) (by simp) ?_
          refine AllReadyH.cons (o := { dst := none, op := .store 26 (.tmp 12) (.tmp 63), type := 0, pos := "outright.go:47", after := #[{ on := 4, ground := .data }, { on := 1, ground := .data }, { on := 6, ground := .chain }, { on := 0, ground := .phase }, { on := 1, ground := .phase }, { on := 2, ground := .textOnly .lateStores }, { on := 3, ground := .phase }, { on := 4, ground := .phase }, { on := 5, ground := .phase }, { on := 6, ground := .phase }], guard := none }) rfl (fun K hK => ?_) AllReadyH.nil
          rw [if_pos (by rfl)]
          refine wp_store_mid 26 (.tmp 12) (.tmp 63) rfl p1 0 OC.toArray rfl rfl (by rw [sO.out]; exact m1.blk.there 0 _ (Nat.le_refl _)) jO.out oO.out ?_
          obtain ⟨V5, hv⟩ : ∃ x, V4.setCells p1 0 OC = x := ⟨_, rfl⟩
          rw [show OC.toArray.toList = OC from rfl, hv]
          have m0 : Lie wD V5 p0 zA' 26 := by rw [← hv]; exact m0.kep (kput OC) (by omega)
          have m1 : Lie wD V5 p1 OC 26 := by rw [← hv]; exact m1.put (by rw [lO.out]; rfl)
          have m2 : Lie wD V5 p2 OC 26 := by rw [← hv]; exact m2.kep (kput OC) (by omega)
          have bb : Bel wD V5 := by rw [← hv]; exact Kep.bel bb (kput OC) (fun i hi => by have := m1.low; omega)
          refine hK.out _ _ ⟨(LO.out.bel bb).rng, (LO.out.bel bb).blk.lt⟩ (fun hS5 => ?_)
          clear hK K hv
          try simp only [Act.put]
          refine wpAnyH_ready (rs := [8]) (by kernel_rfl) (by simp) ?_
          refine AllReadyH.cons (o := { dst := none, op := .store 26 (.tmp 13) (.tmp 64), type := 0, pos := "outright.go:47", after := #[{ on := 5, ground := .data }, { on := 2, ground := .data }, { on := 7, ground := .chain }, { on := 0, ground := .phase }, { on := 1, ground := .phase }, { on := 2, ground := .phase }, { on := 3, ground := .phase }, { on := 4, ground := .phase }, { on := 5, ground := .phase }, { on := 6, ground := .phase }, { on := 7, ground := .phase }], guard := none }) rfl (fun K hK => ?_) AllReadyH.nil
          rw [if_pos (by rfl)]
          refine wp_store_mid 26 (.tmp 13) (.tmp 64) rfl p0 0 OC.toArray rfl rfl (by rw [sO.out]; exact m0.blk.there 0 _ (Nat.le_refl _)) jO.out oO.out ?_
          obtain ⟨V6, hv⟩ : ∃ x, V5.setCells p0 0 OC = x := ⟨_, rfl⟩
          rw [show OC.toArray.toList = OC from rfl, hv]
          have m0 : Lie wD V6 p0 OC 26 := by rw [← hv]; exact m0.put (by rw [lO.out]; rfl)
          have m1 : Lie wD V6 p1 OC 26 := by rw [← hv]; exact m1.kep (kput OC) (by omega)
          have m2 : Lie wD V6 p2 OC 26 := by rw [← hv]; exact m2.kep (kput OC) (by omega)
          have bb : Bel wD V6 := by rw [← hv]; exact Kep.bel bb (kput OC) (fun i hi => by have := m0.low; omega)
          refine hK.out _ _ ⟨(LO.out.bel bb).rng, (LO.out.bel bb).blk.lt⟩ (fun hS6 => ?_)
          clear hK K hv
          try simp only [Act.put]
          refine wpAnyH_done (by kernel_rfl) ?_ _
          go_wp2_with fail
          go_meet
          exact ⟨p2, p1, p0, rfl, rfl, rfl, by omega, by omega, by omega, m2, m1, m0, bb⟩
  case rest =>
  obtain ⟨x, y, z, rfl, rfl, rfl, nxy, nxz, nyz, lx, ly, lz, hB10⟩ := hcut
  clear SA1 SA2 SA3 M0 M1 M2 B3' n01 n02 n12 EP0 EP1 EP2 EV3 uA iA BV
  have c0 : wc.cell? ⟨x, 0, none⟩ = some (.int .i64 1) := lx.blk.cell 0 (by rw [List.getElem?_toArray, HO.out]; rfl)
  have f0 : wc.frozen? ⟨x, 0, none⟩ = false := lx.blk.frozen 0
  go_upto_region 12 with fail
  obtain ⟨wa, hw⟩ : ∃ ww, wc.setCell ⟨x, 0, none⟩ (.int .i64 32) = ww := ⟨_, rfl⟩
  have lx : Lie wD wa x (attC 32 2 3 Z0 5) 26 := by rw [← hw]; exact lx.set 0 _ (by rw [HO.out]; rfl)
  have ly : Lie wD wa y (OC) 26 := by rw [← hw]; exact ly.kep (kset 0 _) (by omega)
  have lz : Lie wD wa z (OC) 26 := by rw [← hw]; exact lz.kep (kset 0 _) (by omega)
  have hB10 : Bel wD wa := by rw [← hw]; exact Kep.bel hB10 (kset 0 _) (fun i hi => by have := lx.low; omega)
  rw [hw]
  clear c0 f0 hw
  have c0 : wa.cell? ⟨y, 1, none⟩ = some (.int .i64 2) := ly.blk.cell 1 (by rw [List.getElem?_toArray, HO.out]; rfl)
  have f0 : wa.frozen? ⟨y, 1, none⟩ = false := ly.blk.frozen 1
  go_upto_region 13 with fail
  obtain ⟨wb, hw⟩ : ∃ ww, wa.setCell ⟨y, 1, none⟩ (.int .i64 (-1)) = ww := ⟨_, rfl⟩
  have lx : Lie wD wb x (attC 32 2 3 Z0 5) 26 := by rw [← hw]; exact lx.kep (kset 1 _) (by omega)
  have ly : Lie wD wb y (attC 1 (-1) 3 Z0 5) 26 := by rw [← hw]; exact ly.set 1 _ (by rw [HO.out]; rfl)
  have lz : Lie wD wb z (OC) 26 := by rw [← hw]; exact lz.kep (kset 1 _) (by omega)
  have hB10 : Bel wD wb := by rw [← hw]; exact Kep.bel hB10 (kset 1 _) (fun i hi => by have := ly.low; omega)
  rw [hw]
  clear c0 f0 hw
  have c0 : wb.cell? ⟨z, 2, none⟩ = some (.int .i64 3) := lz.blk.cell 2 (by rw [List.getElem?_toArray, HO.out]; rfl)
  have f0 : wb.frozen? ⟨z, 2, none⟩ = false := lz.blk.frozen 2
  go_upto_region 14 with fail
  obtain ⟨wx, hw⟩ : ∃ ww, wb.setCell ⟨z, 2, none⟩ (.int .i64 4294967297) = ww := ⟨_, rfl⟩
  have lx : Lie wD wx x (attC 32 2 3 Z0 5) 26 := by rw [← hw]; exact lx.kep (kset 2 _) (by omega)
  have ly : Lie wD wx y (attC 1 (-1) 3 Z0 5) 26 := by rw [← hw]; exact ly.kep (kset 2 _) (by omega)
  have lz : Lie wD wx z (attC 1 2 4294967297 Z0 5) 26 := by rw [← hw]; exact lz.set 2 _ (by rw [HO.out]; rfl)
  have hB10 : Bel wD wx := by rw [← hw]; exact Kep.bel hB10 (kset 2 _) (fun i hi => by have := lz.low; omega)
  rw [hw]
  clear c0 f0 hw
  have B10 := Lib.hid (B9.out.trans hB10)
  have LO := Lib.hid (LO.out.bel hB10)
  have LP := Lib.hid (LP.out.bel hB10)
  have LT := Lib.hid (LT.out.bel hB10)
  have RB := Lib.hid (owns_bel RB.out hB10)
  have LX := Lib.hid (show Lie w wx x (attC 32 2 3 Z0 5) 26 from ⟨lx.blk, Nat.le_trans (Below.size B9.out) lx.low⟩)
  have LY := Lib.hid (show Lie w wx y (attC 1 (-1) 3 Z0 5) 26 from ⟨ly.blk, Nat.le_trans (Below.size B9.out) ly.low⟩)
  have LZ := Lib.hid (show Lie w wx z (attC 1 2 4294967297 Z0 5) 26 from ⟨lz.blk, Nat.le_trans (Below.size B9.out) lz.low⟩)
  clear hB10 lx ly lz B9 nxy nxz nyz
  obtain ⟨V, hV⟩ : ∃ q, wx.drew = q := ⟨_, rfl⟩
  have BV := Lib.hid (show Bel wx V by rw [← hV]; exact (Bel.refl wx).drew)
  have S0d : V.rangeAt bP 0 PC ∧ bP < V.heap.size := ⟨(LP.out.bel BV.out).rng, (LP.out.bel BV.out).blk.lt⟩
  have SA1 := Lib.hid (show (V.alloc Z35).rangeAt bP 0 PC ∧ bP < (V.alloc Z35).heap.size from ⟨range_up S0d.1 ((Bel.refl V).alloc _) S0d.2, Nat.lt_of_lt_of_le S0d.2 (Below.size ((Bel.refl V).alloc _))⟩)
  have SA2 := Lib.hid (show ((V.alloc Z35).alloc Z35).rangeAt bP 0 PC ∧ bP < ((V.alloc Z35).alloc Z35).heap.size from ⟨range_up S0d.1 (((Bel.refl V).alloc _).alloc _) S0d.2, Nat.lt_of_lt_of_le S0d.2 (Below.size (((Bel.refl V).alloc _).alloc _))⟩)
  have uP := Tryd.underlying28
  have iPP := iP.out
  obtain ⟨p0, hp0⟩ : ∃ x, x = V.heap.size := ⟨_, rfl⟩
  obtain ⟨p1, hp1⟩ : ∃ x, x = V.heap.size + 1 := ⟨_, rfl⟩
  obtain ⟨V2, hV3⟩ : ∃ x, (V.alloc Z35).alloc Z35 = x := ⟨_, rfl⟩
  have zv := Below.size BV.out
  have M0 := Lib.hid (show Lie wx V2 p0 zP' 28 from ⟨by rw [← hV3, hp0]; exact ((Blk.new V _ _).bel ((Bel.refl _).alloc _)), by omega⟩)
  have M1 := Lib.hid (show Lie wx V2 p1 zP' 28 from ⟨by rw [← hV3, show p1 = (V.alloc Z35).heap.size by rw [hp1]; simp]; exact Blk.new (V.alloc Z35) _ _, by omega⟩)
  have B3' := Lib.hid (show Bel wx V2 by rw [← hV3]; exact (BV.out.alloc _).alloc _)
  have n01 : p0 ≠ p1 := by omega
  have EP0 := Lib.hid hp0
  have EP1 := Lib.hid hp1
  have EV3 := Lib.hid hV3
  rw [← hV] at S0d
  clear hp0 hp1 hV3 zv
  go_cut [14, 15] (fun s14 s15 wy => ∃ p q, s14 = .pointer (some ⟨p, 0, none⟩) ∧ s15 = .pointer (some ⟨q, 0, none⟩) ∧ p ≠ q ∧ Lie wx wy p PC 28 ∧ Lie wx wy q PC 28 ∧ Bel wx wy)
  case first =>
    refine wp_region_held_drew (S := fun X => X.rangeAt bP 0 PC ∧ bP < X.heap.size) (by kernel_rfl) S0d (fun hS0 => ?_)
    rw [hV] at hS0 ⊢
    clear hV S0d
    refine wpAnyH_take (i := 0) (oi := { dst := some 68, op := .load 28 (.tmp 2), type := 28, pos := "outright.go:51", after := #[], guard := none }) (v := .agg PC.toArray) rfl (by kernel_rfl) (by kernel_rfl) (by kernel_rfl) (fun _ _ _ h => h) (yieldsIf_load_mid (by rfl) _ _ rfl _ _ rfl _ _ (fun w h => h.1) uP rfl iPP) hS0 ?_
    try simp only [Act.put, List.setIfInBounds_toArray, List.set_cons_zero, List.set_cons_succ]
    refine wpAnyH_take (i := 1) (oi := { dst := some 69, op := .load 28 (.tmp 2), type := 28, pos := "outright.go:51", after := #[{ on := 4, ground := .gcOnly .lateStores }], guard := none }) (v := .agg PC.toArray) rfl (by kernel_rfl) (by kernel_rfl) (by kernel_rfl) (fun _ _ _ h => h) (yieldsIf_load_mid (by rfl) _ _ rfl _ _ rfl _ _ (fun w h => h.1) uP rfl iPP) hS0 ?_
    try simp only [Act.put, List.setIfInBounds_toArray, List.set_cons_zero, List.set_cons_succ]
    refine wpAnyH_ready (rs := [2, 3]) (by kernel_rfl) (by simp) ?_
    refine AllReadyH.cons (o := { dst := some 14, op := .alloc 28, type := 0, pos := "outright.go:51", after := #[], guard := none }) rfl (fun K hK => ?_) (AllReadyH.cons (o := { dst := some 15, op := .alloc 28, type := 0, pos := "outright.go:51", after := #[], guard := none }) rfl (fun K hK => ?_) AllReadyH.nil)
    · go_simp
      refine hK.out _ _ (SA1.out) (fun hS1 => ?_)
      clear hK K
      try simp only [Act.put, List.setIfInBounds_toArray, List.set_cons_zero, List.set_cons_succ]
      refine wpAnyH_ready (rs := [3]) (by kernel_rfl) (by simp) ?_
      refine AllReadyH.cons (o := { dst := some 15, op := .alloc 28, type := 0, pos := "outright.go:51", after := #[], guard := none }) rfl (fun K hK => ?_) AllReadyH.nil
      · go_simp
        refine hK.out _ _ (SA2.out) (fun hS2 => ?_)
        clear hK K
        try simp only [Act.put, List.setIfInBounds_toArray, List.set_cons_zero, List.set_cons_succ]
        rw [EV3.out]
        try rw [← EP1.out]
        try rw [← EP0.out]
        clear hS0 hS1 hS2
        refine wpAnyH_ready (rs := [4]) (by kernel_rfl) (by simp) ?_
        refine AllReadyH.cons (o := { dst := none, op := .store 28 (.tmp 14) (.tmp 68), type := 0, pos := "outright.go:51", after := #[{ on := 2, ground := .data }, { on := 0, ground := .data }, { on := 0, ground := .phase }, { on := 1, ground := .textOnly .lateStores }, { on := 2, ground := .phase }, { on := 3, ground := .phase }], guard := none }) rfl (fun K hK => ?_) AllReadyH.nil
        rw [if_pos (by rfl)]
        refine wp_store_mid 28 (.tmp 14) (.tmp 68) rfl p0 0 PC.toArray rfl rfl (by rw [sP.out]; exact M0.out.blk.there 0 _ (Nat.le_refl _)) jP.out oP.out ?_
        obtain ⟨V3, hv⟩ : ∃ x, V2.setCells p0 0 PC = x := ⟨_, rfl⟩
        rw [show PC.toArray.toList = PC from rfl, hv]
        have m0 : Lie wx V3 p0 PC 28 := by rw [← hv]; exact M0.out.put (by rw [lP.out]; rfl)
        have m1 : Lie wx V3 p1 zP' 28 := by rw [← hv]; exact M1.out.kep (kput PC) (by omega)
        have bb : Bel wx V3 := by rw [← hv]; exact Kep.bel B3'.out (kput PC) (fun i hi => by have := m0.low; omega)
        refine hK.out _ _ ⟨(LP.out.bel bb).rng, (LP.out.bel bb).blk.lt⟩ (fun hS3 => ?_)
        clear hK K hv
        try simp only [Act.put]
        refine wpAnyH_ready (rs := [5]) (by kernel_rfl) (by simp) ?_
        refine AllReadyH.cons (o := { dst := none, op := .store 28 (.tmp 15) (.tmp 69), type := 0, pos := "outright.go:51", after := #[{ on := 3, ground := .data }, { on := 1, ground := .data }, { on := 4, ground := .chain }, { on := 0, ground := .phase }, { on := 1, ground := .phase }, { on := 2, ground := .phase }, { on := 3, ground := .phase }, { on := 4, ground := .phase }], guard := none }) rfl (fun K hK => ?_) AllReadyH.nil
        rw [if_pos (by rfl)]
        refine wp_store_mid 28 (.tmp 15) (.tmp 69) rfl p1 0 PC.toArray rfl rfl (by rw [sP.out]; exact m1.blk.there 0 _ (Nat.le_refl _)) jP.out oP.out ?_
        obtain ⟨V4, hv⟩ : ∃ x, V3.setCells p1 0 PC = x := ⟨_, rfl⟩
        rw [show PC.toArray.toList = PC from rfl, hv]
        have m0 : Lie wx V4 p0 PC 28 := by rw [← hv]; exact m0.kep (kput PC) (by omega)
        have m1 : Lie wx V4 p1 PC 28 := by rw [← hv]; exact m1.put (by rw [lP.out]; rfl)
        have bb : Bel wx V4 := by rw [← hv]; exact Kep.bel bb (kput PC) (fun i hi => by have := m1.low; omega)
        refine hK.out _ _ ⟨(LP.out.bel bb).rng, (LP.out.bel bb).blk.lt⟩ (fun hS4 => ?_)
        clear hK K hv
        try simp only [Act.put]
        refine wpAnyH_done (by kernel_rfl) ?_ _
        go_wp2_with fail
        go_meet
        exact ⟨p0, p1, rfl, rfl, by omega, m0, m1, bb⟩
    · go_simp
      refine hK.out _ _ (SA1.out) (fun hS1 => ?_)
      clear hK K
      try simp only [Act.put, List.setIfInBounds_toArray, List.set_cons_zero, List.set_cons_succ]
      refine wpAnyH_ready (rs := [2]) (by kernel_rfl) (by simp) ?_
      refine AllReadyH.cons (o := { dst := some 14, op := .alloc 28, type := 0, pos := "outright.go:51", after := #[], guard := none }) rfl (fun K hK => ?_) AllReadyH.nil
      · go_simp
        refine hK.out _ _ (SA2.out) (fun hS2 => ?_)
        clear hK K
        try simp only [Act.put, List.setIfInBounds_toArray, List.set_cons_zero, List.set_cons_succ]
        rw [EV3.out]
        try rw [← EP1.out]
        try rw [← EP0.out]
        clear hS0 hS1 hS2
        refine wpAnyH_ready (rs := [4]) (by kernel_rfl) (by simp) ?_
        refine AllReadyH.cons (o := { dst := none, op := .store 28 (.tmp 14) (.tmp 68), type := 0, pos := "outright.go:51", after := #[{ on := 2, ground := .data }, { on := 0, ground := .data }, { on := 0, ground := .phase }, { on := 1, ground := .textOnly .lateStores }, { on := 2, ground := .phase }, { on := 3, ground := .phase }], guard := none }) rfl (fun K hK => ?_) AllReadyH.nil
        rw [if_pos (by rfl)]
        refine wp_store_mid 28 (.tmp 14) (.tmp 68) rfl p1 0 PC.toArray rfl rfl (by rw [sP.out]; exact M1.out.blk.there 0 _ (Nat.le_refl _)) jP.out oP.out ?_
        obtain ⟨V3, hv⟩ : ∃ x, V2.setCells p1 0 PC = x := ⟨_, rfl⟩
        rw [show PC.toArray.toList = PC from rfl, hv]
        have m0 : Lie wx V3 p0 zP' 28 := by rw [← hv]; exact M0.out.kep (kput PC) (by omega)
        have m1 : Lie wx V3 p1 PC 28 := by rw [← hv]; exact M1.out.put (by rw [lP.out]; rfl)
        have bb : Bel wx V3 := by rw [← hv]; exact Kep.bel B3'.out (kput PC) (fun i hi => by have := m1.low; omega)
        refine hK.out _ _ ⟨(LP.out.bel bb).rng, (LP.out.bel bb).blk.lt⟩ (fun hS3 => ?_)
        clear hK K hv
        try simp only [Act.put]
        refine wpAnyH_ready (rs := [5]) (by kernel_rfl) (by simp) ?_
        refine AllReadyH.cons (o := { dst := none, op := .store 28 (.tmp 15) (.tmp 69), type := 0, pos := "outright.go:51", after := #[{ on := 3, ground := .data }, { on := 1, ground := .data }, { on := 4, ground := .chain }, { on := 0, ground := .phase }, { on := 1, ground := .phase }, { on := 2, ground := .phase }, { on := 3, ground := .phase }, { on := 4, ground := .phase }], guard := none }) rfl (fun K hK => ?_) AllReadyH.nil
        rw [if_pos (by rfl)]
        refine wp_store_mid 28 (.tmp 15) (.tmp 69) rfl p0 0 PC.toArray rfl rfl (by rw [sP.out]; exact m0.blk.there 0 _ (Nat.le_refl _)) jP.out oP.out ?_
        obtain ⟨V4, hv⟩ : ∃ x, V3.setCells p0 0 PC = x := ⟨_, rfl⟩
        rw [show PC.toArray.toList = PC from rfl, hv]
        have m0 : Lie wx V4 p0 PC 28 := by rw [← hv]; exact m0.put (by rw [lP.out]; rfl)
        have m1 : Lie wx V4 p1 PC 28 := by rw [← hv]; exact m1.kep (kput PC) (by omega)
        have bb : Bel wx V4 := by rw [← hv]; exact Kep.bel bb (kput PC) (fun i hi => by have := m0.low; omega)
        refine hK.out _ _ ⟨(LP.out.bel bb).rng, (LP.out.bel bb).blk.lt⟩ (fun hS4 => ?_)
        clear hK K hv
        try simp only [Act.put]
        refine wpAnyH_done (by kernel_rfl) ?_ _
        go_wp2_with fail
        go_meet
        exact ⟨p1, p0, rfl, rfl, by omega, m1, m0, bb⟩
  case rest =>
  obtain ⟨p, q, rfl, rfl, npq, lp, lq, hB10⟩ := hcut
  clear SA1 SA2 M0 M1 B3' n01 EP0 EP1 EV3 uP iPP BV
  have c0 : wc.cell? ⟨p, 1, none⟩ = some (.int .i64 300) := lp.blk.cell 1 (by rw [List.getElem?_toArray, HP.out]; rfl)
  have f0 : wc.frozen? ⟨p, 1, none⟩ = false := lp.blk.frozen 1
  go_upto_region 16 with fail
  obtain ⟨wf, hw⟩ : ∃ ww, wc.setCell ⟨p, 1, none⟩ (.int .i64 0) = ww := ⟨_, rfl⟩
  have lp : Lie wx wf p (propC 1 0 Z0 128) 28 := by rw [← hw]; exact lp.set 1 _ (by rw [HP.out]; rfl)
  have lq : Lie wx wf q (PC) 28 := by rw [← hw]; exact lq.kep (kset 1 _) (by omega)
  have hB10 : Bel wx wf := by rw [← hw]; exact Kep.bel hB10 (kset 1 _) (fun i hi => by have := lp.low; omega)
  rw [hw]
  clear c0 f0 hw
  have c0 : wf.cell? ⟨q, 0, none⟩ = some (.int .i64 1) := lq.blk.cell 0 (by rw [List.getElem?_toArray, HP.out]; rfl)
  have f0 : wf.frozen? ⟨q, 0, none⟩ = false := lq.blk.frozen 0
  go_upto_region 17 with fail
  obtain ⟨wg, hw⟩ : ∃ ww, wf.setCell ⟨q, 0, none⟩ (.int .i64 (-1)) = ww := ⟨_, rfl⟩
  have lp : Lie wx wg p (propC 1 0 Z0 128) 28 := by rw [← hw]; exact lp.kep (kset 0 _) (by omega)
  have lq : Lie wx wg q (propC (-1) 300 Z0 128) 28 := by rw [← hw]; exact lq.set 0 _ (by rw [HP.out]; rfl)
  have hB10 : Bel wx wg := by rw [← hw]; exact Kep.bel hB10 (kset 0 _) (fun i hi => by have := lq.low; omega)
  rw [hw]
  clear c0 f0 hw
  have B14 := Lib.hid (B10.out.trans hB10)
  have LO := Lib.hid (LO.out.bel hB10)
  have LT := Lib.hid (LT.out.bel hB10)
  have LX := Lib.hid (LX.out.bel hB10)
  have LY := Lib.hid (LY.out.bel hB10)
  have LZ := Lib.hid (LZ.out.bel hB10)
  have RB := Lib.hid (owns_bel RB.out hB10)
  have LQ1 := Lib.hid (show Lie w wg p (propC 1 0 Z0 128) 28 from ⟨lp.blk, Nat.le_trans (Below.size B10.out) lp.low⟩)
  have LQ2 := Lib.hid (show Lie w wg q (propC (-1) 300 Z0 128) 28 from ⟨lq.blk, Nat.le_trans (Below.size B10.out) lq.low⟩)
  clear hB10 lp lq B10 npq LP
  have CX := Lib.hid (chk_at 32 2 3 5 3 (by decide))
  have CY := Lib.hid (chk_at 1 (-1) 3 5 3 (by decide))
  have CZ := Lib.hid (chk_at 1 2 4294967297 5 3 (by decide))
  have CP1 := Lib.hid (chkB_at 1 0 128 3 (by decide))
  have CP2 := Lib.hid (chkB_at (-1) 300 128 3 (by decide))
  obtain ⟨XC, hXC⟩ : ∃ Y, Y = attC 32 2 3 Z0 5 := ⟨_, rfl⟩
  have iXC := Lib.hid (show (Tryd.prog.info? 26).map (·.size) = some XC.length by rw [hXC]; exact info_att)
  rw [← hXC] at LX CX
  clear hXC
  obtain ⟨YC, hYC⟩ : ∃ Y, Y = attC 1 (-1) 3 Z0 5 := ⟨_, rfl⟩
  have iYC := Lib.hid (show (Tryd.prog.info? 26).map (·.size) = some YC.length by rw [hYC]; exact info_att)
  rw [← hYC] at LY CY
  clear hYC
  obtain ⟨ZC, hZC⟩ : ∃ Y, Y = attC 1 2 4294967297 Z0 5 := ⟨_, rfl⟩
  have iZC := Lib.hid (show (Tryd.prog.info? 26).map (·.size) = some ZC.length by rw [hZC]; exact info_att)
  rw [← hZC] at LZ CZ
  clear hZC
  obtain ⟨QA, hQA⟩ : ∃ Y, Y = propC 1 0 Z0 128 := ⟨_, rfl⟩
  have iQA := Lib.hid (show (Tryd.prog.info? 28).map (·.size) = some QA.length by rw [hQA]; exact info_prop)
  rw [← hQA] at LQ1 CP1
  clear hQA
  obtain ⟨QB, hQB⟩ : ∃ Y, Y = propC (-1) 300 Z0 128 := ⟨_, rfl⟩
  have iQB := Lib.hid (show (Tryd.prog.info? 28).map (·.size) = some QB.length by rw [hQB]; exact info_prop)
  rw [← hQB] at LQ2 CP2
  clear hQB
  go_cut [16] (fun s16 wy => s16 = .bool true ∧ Bel wg wy)
  case first =>
    have R1 := Lib.hid LX.out.rng
    go_wp2_with (refine wpList_load_mid rfl 26 (.tmp 11) rfl x 0 rfl XC _ R1.out Tryd.underlying26 rfl iXC.out ?_)
    refine (CX.out _).mono ?_
    rintro e a1 ⟨rfl, m1⟩
    have b1 := Lib.hid (show Bel wg a1 from m1)
    clear m1 R1
    have R1 := Lib.hid (LY.out.bel b1.out).rng
    go_wp2_with (refine load_guarded (by rfl) 26 (.tmp 12) rfl y 0 rfl YC _ R1.out Tryd.underlying26 rfl iYC.out ?_)
    refine (CY.out _).mono ?_
    rintro e a2 ⟨rfl, m1⟩
    have b1 := Lib.hid (b1.out.trans m1)
    clear m1 R1
    have R1 := Lib.hid (LZ.out.bel b1.out).rng
    go_wp2_with (refine load_guarded (by rfl) 26 (.tmp 13) rfl z 0 rfl ZC _ R1.out Tryd.underlying26 rfl iZC.out ?_)
    refine (CZ.out _).mono ?_
    rintro e a3 ⟨rfl, m1⟩
    have b1 := Lib.hid (b1.out.trans m1)
    clear m1 R1
    have R1 := Lib.hid (LQ1.out.bel b1.out).rng
    go_wp2_with (refine load_guarded (by rfl) 28 (.tmp 14) rfl p 0 rfl QA _ R1.out Tryd.underlying28 rfl iQA.out ?_)
    refine (CP1.out _).mono ?_
    rintro e a4 ⟨rfl, m1⟩
    have b1 := Lib.hid (b1.out.trans m1)
    clear m1 R1
    have R1 := Lib.hid (LQ2.out.bel b1.out).rng
    go_wp2_with (refine load_guarded (by rfl) 28 (.tmp 15) rfl q 0 rfl QB _ R1.out Tryd.underlying28 rfl iQB.out ?_)
    refine (CP2.out _).mono ?_
    rintro e a5 ⟨rfl, m1⟩
    have b1 := Lib.hid (b1.out.trans m1)
    clear m1 R1
    go_wp2_with fail
    go_meet
    exact ⟨rfl, b1.out⟩
  case rest =>
  obtain ⟨rfl, hB10⟩ := hcut
  have B17 := Lib.hid (B14.out.trans hB10)
  have LO := Lib.hid (LO.out.bel hB10)
  have LT := Lib.hid (LT.out.bel hB10)
  have RB := Lib.hid (owns_bel RB.out hB10)
  clear hB10 B14 LX LY LZ LQ1 LQ2 CX CY CZ CP1 CP2 iXC iYC iZC iQA iQB
  go_upto_region 18 with fail
  have RDB := Lib.hid readB_at
  obtain ⟨ZP, hZP⟩ : ∃ Y, Y = zP' := ⟨_, rfl⟩
  have lZ := Lib.hid (show ZP.length = 35 by rw [hZP]; rfl)
  have sZ := Lib.hid (show ZP.toArray.size = 35 by rw [List.size_toArray]; exact lZ.out)
  have oZ := Lib.hid (all_oneCell_toArray (cs := ZP) (by rw [hZP]; exact prop_cells _ _ _ _))
  have jZ := Lib.hid (show (Tryd.prog.info? 28).map (·.size) = some ZP.toArray.size by rw [sZ.out]; exact info_prop)
  rw [← hZP] at RDB
  have HZP := Lib.hid hZP
  clear hZP
  go_wp2_with fail
  refine (RDB.out _).mono ?_
  rintro e u1 ⟨rfl, m1⟩
  have B18 := Lib.hid (B17.out.trans m1)
  have LO := Lib.hid (LO.out.bel m1)
  have LT := Lib.hid (LT.out.bel m1)
  have RB := Lib.hid (owns_bel RB.out m1)
  clear m1 RDB B17
  obtain ⟨W1, hW1⟩ : ∃ x, u1.alloc Z35 = x := ⟨_, rfl⟩
  obtain ⟨W2, hW2⟩ : ∃ x, W1.alloc (.cells #[.int .i64 0, .int .i64 0] 35) = x := ⟨_, rfl⟩
  have b1 : Bel u1 W1 := by rw [← hW1]; exact (Bel.refl u1).alloc _
  have b2 : Bel W1 W2 := by rw [← hW2]; exact (Bel.refl W1).alloc _
  have z1 : W1.heap.size = u1.heap.size + 1 := by rw [← hW1]; simp
  obtain ⟨a, ha⟩ : ∃ a, a = u1.heap.size := ⟨_, rfl⟩
  have X := Lib.hid (show Bx 28 u1 W2 a zP' 0 0 from
    ⟨(show Blk W1 a zP'.toArray 28 by rw [← hW1, ha]; exact Blk.new u1 _ _).bel b2, by rw [← hW2, ha, ← z1]; exact Blk.new W1 _ _, b1.trans b2, ha.symm⟩)
  have HW1 := Lib.hid hW1
  have HW2 := Lib.hid hW2
  have HA := Lib.hid ha
  have X2 := Lib.hid (X.out.whole (vs := ZP) (by rw [lZ.out]; rfl))
  have TH := Lib.hid (show W2.there a 0 ZP.toArray.size by rw [sZ.out]; exact Blk.there X.out.blk 0 35 (Nat.le_refl _))
  have c0 : (W2.setCells a 0 ZP).cell? ⟨a + 1, 0, none⟩ = some (.int .i64 0) := X2.out.flt.cell 0 rfl
  have c1 : (W2.setCells a 0 ZP).cell? ⟨a + 1, 1, none⟩ = some (.int .i64 0) := X2.out.flt.cell 1 rfl
  have g0 : (W2.setCells a 0 ZP).frozen? ⟨a + 1, 0, none⟩ = false := X2.out.flt.frozen 0
  have g1 : (W2.setCells a 0 ZP).frozen? ⟨a + 1, 1, none⟩ = false := X2.out.flt.frozen 1
  clear hW1 hW2 b1 b2 z1 ha
  go_upto_region 19 with (rw [HW1.out, HW2.out, ← HA.out]; refine wpList_store_mid rfl 28 (.tmp 17) (.tmp 98) rfl a 0 ZP.toArray rfl rfl TH.out jZ.out oZ.out ?_)
  obtain ⟨u2, hu2⟩ : ∃ x, ((W2.setCells a 0 ZP).setCell ⟨a + 1, 0, none⟩ (.int .i64 3)).setCell ⟨a + 1, 1, none⟩ (.int .i64 2) = x := ⟨_, rfl⟩
  have X3 := Lib.hid (show Bx 28 u1 u2 a ZP 3 2 by rw [← hu2]; exact X2.out.fault 3 2)
  rw [hu2]
  clear hu2 c0 c1 g0 g1 TH X X2 HW1 HW2
  have m1 : Bel u1 u2 := X3.out.bel
  have B18 := Lib.hid (B18.out.trans m1)
  have LO := Lib.hid (LO.out.bel m1)
  have LT := Lib.hid (LT.out.bel m1)
  have NF := Lib.hid (show a + 1 ≠ g from by have := (RB.out.lt g rfl).2; have := HA.out; omega)
  have RB := Lib.hid (owns_bel RB.out m1)
  have FL := Lib.hid (show Blk u2 (a + 1) #[.int .i64 3, .int .i64 2] 35 from X3.out.flt)
  clear m1 X3
  have F1 := Lib.hid (fun W => show Calls Tryd.prog 18 #[.slice (some ⟨W.heap.size, 0, none⟩) 1 1, .int .i64 3, .int .i64 0] (W.alloc (.cells #[.int .u8 2] 5)) (fun r w' => r = .returned (.bool true) ∧ Bel W w') from fails_at [2] 3 0 known1 (by decide) (by decide) (by decide) W)
  have F2 := Lib.hid (fun W => show Calls Tryd.prog 18 #[.slice (some ⟨W.heap.size, 0, none⟩) 2 2, .int .i64 3, .int .i64 1] (W.alloc (.cells #[.int .u8 1, .int .u8 32] 5)) (fun r w' => r = .returned (.bool true) ∧ Bel W w') from fails_at [1, 32] 3 1 known2 (by decide) (by decide) (by decide) W)
  have F3 := Lib.hid (fun W => show Calls Tryd.prog 18 #[.slice (some ⟨W.heap.size, 0, none⟩) 4 4, .int .i64 6, .int .i64 4] (W.alloc (.cells #[.int .u8 1, .int .u8 1, .int .u8 2, .int .u8 3] 5)) (fun r w' => r = .returned (.bool true) ∧ Bel W w') from fails_at [1, 1, 2, 3] 6 4 known3 (by decide) (by decide) (by decide) W)
  go_cut [19] (fun s19 wy => s19 = .bool true ∧ Lie w wy bO OC 26 ∧ Lie w wy bT TC 26 ∧ Bel w wy)
  case first =>
    go_wp2_with fail
    refine (F1.out _).mono ?_
    rintro r a1 ⟨rfl, m1⟩
    have k1 := Lib.hid (show Bel u2 a1 from m1)
    clear m1
    go_wp2_with fail
    refine (F2.out _).mono ?_
    rintro r a2 ⟨rfl, m1⟩
    have k2 := Lib.hid (k1.out.trans m1)
    clear m1
    go_wp2_with fail
    refine (F3.out _).mono ?_
    rintro r a3 ⟨rfl, m1⟩
    have k3 := Lib.hid (k2.out.trans m1)
    clear m1
    have RB := Lib.hid (owns_bel RB.out (k3.out.alloc (.cells #[.int .u8 0] 5)))
    have SB := Lib.hid (show Sl (a3.alloc (.cells #[.int .u8 0] 5)) (some ⟨a3.heap.size, 0, none⟩) 1 1 [0] from sl_lit a3 [0])
    have LB2 := Lib.hid (show V4.heap.size ≤ (a3.alloc (.cells #[.int .u8 0] 5)).heap.size from by have := RB.out.lt g rfl; omega)
    go_wp2_with (at_builtin; refine wpList_append_g (by rfl) _ _ rfl V4.heap.size _ 37 _ rfl RB.out (some ⟨a3.heap.size, 0, none⟩) 1 1 [0] rfl SB.out (by omega) LB2.out ?_; intro v' a4 hown hgrow)
    obtain ⟨A', c', rfl, hs4⟩ := sl_of_own (zs := [1, 1, 2, 3] ++ Z0 ++ [5] ++ [0]) (by simpa using hown)
    have K4 : Kep (fun i => i = g) u2 a4 := (Kep.of_bel (k3.out.alloc _)).trans (Kep.grown (Kep.refl _ _) hgrow (fun i e _ => by injection e with e; exact e.symm))
    have LO := Lib.hid (LO.out.kep K4 NO.out)
    have LT := Lib.hid (LT.out.kep K4 NG.out)
    have FL := Lib.hid (FL.out.kep K4 NF.out)
    have B19 := Lib.hid (Kep.bel B18.out K4 (fun i hi => by have := (RB.out.lt g rfl).1; have := LB.out; omega))
    have FF := Lib.hid (fails A' _ c' ([1, 1, 2, 3] ++ Y0 ++ [5] ++ [0]) 4 37 a4 ⟨hs4.ints, hs4.cap, hs4.nil⟩ (by decide) (Cd.bytes_of (by decide)) known4 (by decide))
    clear hown hgrow hs4 K4 RB SB LB2
    refine FF.out.mono ?_
    rintro r a5 ⟨rfl, m1⟩
    have m1 : Bel a4 a5 := m1
    have LO := Lib.hid (LO.out.bel m1)
    have LT := Lib.hid (LT.out.bel m1)
    have FL := Lib.hid (FL.out.bel m1)
    have B19 := Lib.hid (B19.out.trans m1)
    have c0 : a5.cell? ⟨a + 1, 0, none⟩ = some (.int .i64 3) := FL.out.cell 0 rfl
    have c1 : a5.cell? ⟨a + 1, 1, none⟩ = some (.int .i64 2) := FL.out.cell 1 rfl
    clear m1 FF
    go_wp2_with fail
    go_meet
    exact ⟨rfl, LO.out, LT.out, B19.out⟩
  case rest =>
  obtain ⟨rfl, lo, lt, hB⟩ := hcut
  have LO := Lib.hid lo
  have LT := Lib.hid lt
  have B19 := Lib.hid hB
  clear lo lt hB F1 F2 F3 RB FL NF NG NO B18 HA
  go_upto_region 20 with fail
  have AW := Lib.hid (fun W => awake W)
  have DY := Lib.hid dbl_yes
  have DN := Lib.hid dbl_no
  have SN := Lib.hid (fun W => show Calls Tryd.prog 21 #[.agg (attC 2 1 4 Z0 0).toArray, .agg (attC 1 2 3 Z0 5).toArray] W (fun e w' => e = .returned (.bool false) ∧ Bel W w') from surrounds 2 1 4 0 Z0 1 2 3 5 Z0 W rfl rfl)
  obtain ⟨UC, hUC⟩ : ∃ Y, Y = attC 1 1 3 Z0 5 := ⟨_, rfl⟩
  obtain ⟨AC, hAC⟩ : ∃ Y, Y = attC 2 1 4 Z0 0 := ⟨_, rfl⟩
  rw [← hUC, ← HO.out] at DY
  rw [← HTC.out, ← HO.out] at DN
  rw [← hAC, ← HO.out] at SN
  have lU := Lib.hid (show UC.length = 36 by rw [hUC]; rfl)
  have lA := Lib.hid (show AC.length = 36 by rw [hAC]; rfl)
  have sA := Lib.hid (show AC.toArray.size = 36 by rw [List.size_toArray]; exact lA.out)
  have oA := Lib.hid (all_oneCell_toArray (cs := AC) (by rw [hAC]; exact att_cells _ _ _ _ _))
  have jA := Lib.hid (show (Tryd.prog.info? 26).map (·.size) = some AC.toArray.size by rw [sA.out]; exact info_att)
  have iA2 := Lib.hid (show (Tryd.prog.info? 26).map (·.size) = some AC.length by rw [lA.out]; exact info_att)
  have iU := Lib.hid (show (Tryd.prog.info? 26).map (·.size) = some UC.length by rw [lU.out]; exact info_att)
  have HUU := Lib.hid (show OC.toArray.setIfInBounds 1 (.int .i64 1) = UC.toArray by rw [HO.out, hUC]; rfl)
  have dU := Lib.hid (show OC[1]? = some (.int .i64 2) by rw [HO.out]; rfl)
  have HAC := Lib.hid hAC
  clear hUC hAC
  obtain ⟨wz, hwz⟩ : ∃ q, q = wc := ⟨_, rfl⟩
  rw [← hwz] at LO LT B19 ⊢
  clear hwz
  obtain ⟨a1, ha1⟩ : ∃ b, b = wz.heap.size := ⟨_, rfl⟩
  obtain ⟨a2, ha2⟩ : ∃ b, b = wz.heap.size + 1 := ⟨_, rfl⟩
  obtain ⟨V1, hV1⟩ : ∃ x, wz.alloc Z36 = x := ⟨_, rfl⟩
  obtain ⟨V2, hV2⟩ : ∃ x, V1.alloc Z36 = x := ⟨_, rfl⟩
  have q1 : V1.heap.size = wz.heap.size + 1 := by rw [← hV1]; simp
  have c1 : Bel wz V1 := by rw [← hV1]; exact (Bel.refl _).alloc _
  have c2 : Bel V1 V2 := by rw [← hV2]; exact (Bel.refl _).alloc _
  have L1 : Lie wz V2 a1 zA' 26 := Lie.bel ⟨by rw [← hV1, ha1]; exact Blk.new wz _ _, by rw [ha1]; exact Nat.le_refl _⟩ c2
  have L2 : Lie wz V2 a2 zA' 26 := ⟨by rw [← hV2, ha2, ← q1]; exact Blk.new V1 _ _, by omega⟩
  obtain ⟨V3, hV3⟩ : ∃ x, V2.setCells a1 0 OC = x := ⟨_, rfl⟩
  obtain ⟨V4, hV4⟩ : ∃ x, V3.setCells a2 0 AC = x := ⟨_, rfl⟩
  have T1 := Lib.hid (show V2.there a1 0 OC.toArray.size by rw [sO.out]; exact L1.blk.there 0 36 (Nat.le_refl _))
  have M1 : Lie wz V3 a1 OC 26 := by rw [← hV3]; exact L1.put (by rw [lO.out]; rfl)
  have M2 : Lie wz V3 a2 zA' 26 := by rw [← hV3]; exact L2.kep (kput OC) (by omega)
  have T2 := Lib.hid (show V3.there a2 0 AC.toArray.size by rw [sA.out]; exact M2.blk.there 0 36 (Nat.le_refl _))
  have G1 : Lie wz V4 a1 OC 26 := by rw [← hV4]; exact M1.kep (kput AC) (by omega)
  have G2 : Lie wz V4 a2 AC 26 := by rw [← hV4]; exact M2.put (by rw [lA.out]; rfl)
  have hB : Bel wz V4 := by
    rw [← hV4, ← hV3]
    exact Kep.bel (Kep.bel (c1.trans c2) (kput OC) (fun i hi => by have := L1.low; omega)) (kput AC) (fun i hi => by have := L2.low; omega)
  have ne12 : a1 ≠ a2 := by omega
  have X1 := Lib.hid ha1
  have X2 := Lib.hid ha2
  have E1 := Lib.hid hV1
  have E2 := Lib.hid hV2
  have E3 := Lib.hid hV3
  have E4 := Lib.hid hV4
  have RX := Lib.hid LO.out.rng
  clear ha1 ha2 hV1 hV2 hV3 hV4 q1 c1 c2 L1 L2 M1 M2
  go_upto_region 21 with (first
    | (refine wpList_load_mid rfl 26 (.tmp 1) rfl bO 0 rfl OC _ RX.out Tryd.underlying26 rfl iO.out ?_)
    | (rw [← X2.out, ← X1.out, E1.out, E2.out]; refine wpList_store_mid rfl 26 (.tmp 20) (.tmp 121) rfl a1 0 OC.toArray rfl rfl T1.out jO.out oO.out ?_; rw [show OC.toArray.toList = OC from rfl, E3.out])
    | (refine wpList_store_mid rfl 26 (.tmp 21) (.tmp 122) rfl a2 0 AC.toArray rfl (by rw [HAC.out]; rfl) T2.out jA.out oA.out ?_; rw [show AC.toArray.toList = AC from rfl, E4.out]))
  have c0 : V4.cell? ⟨a1, 1, none⟩ = some (.int .i64 2) := G1.blk.cell 1 (by rw [List.getElem?_toArray]; exact dU.out)
  have f0 : V4.frozen? ⟨a1, 1, none⟩ = false := G1.blk.frozen 1
  go_upto_region 22 with fail
  obtain ⟨V5, hw⟩ : ∃ ww, V4.setCell ⟨a1, 1, none⟩ (.int .i64 1) = ww := ⟨_, rfl⟩
  have G1 : Lie wz V5 a1 UC 26 := by rw [← hw]; exact G1.set 1 _ HUU.out
  have G2 : Lie wz V5 a2 AC 26 := by rw [← hw]; exact G2.kep (kset 1 _) (by omega)
  have hB : Bel wz V5 := by rw [← hw]; exact Kep.bel hB (kset 1 _) (fun i hi => by have := G1.low; omega)
  rw [hw]
  have LO := Lib.hid (LO.out.bel hB)
  have LT := Lib.hid (LT.out.bel hB)
  have BB := Lib.hid (B19.out.trans hB)
  have G1 := Lib.hid G1
  have G2 := Lib.hid G2
  clear c0 f0 hw hB RX T1 T2 X1 X2 E1 E2 E3 E4 B19
  go_wp2_with fail
  refine (AW.out _).mono ?_
  rintro e d1 ⟨rfl, m1⟩
  have m1 : Bel V5 d1 := m1
  have LO := Lib.hid (LO.out.bel m1)
  have LT := Lib.hid (LT.out.bel m1)
  have G1 := Lib.hid (G1.out.bel m1)
  have G2 := Lib.hid (G2.out.bel m1)
  have BB := Lib.hid (BB.out.trans m1)
  have r1 := Lib.hid LO.out.rng
  have r2 := Lib.hid G1.out.rng
  clear m1
  go_wp2_with (first
    | (refine load_guarded (by rfl) 26 (.tmp 1) rfl bO 0 rfl OC _ r1.out Tryd.underlying26 rfl iO.out ?_)
    | (refine load_guarded (by rfl) 26 (.tmp 20) rfl a1 0 rfl UC _ r2.out Tryd.underlying26 rfl iU.out ?_))
  refine (DY.out _ (HT.out _ BB.out)).mono ?_
  rintro e d2 ⟨rfl, m1⟩
  have m1 : Bel d1 d2 := m1
  have LO := Lib.hid (LO.out.bel m1)
  have LT := Lib.hid (LT.out.bel m1)
  have G2 := Lib.hid (G2.out.bel m1)
  have BB := Lib.hid (BB.out.trans m1)
  clear r1 r2 m1 G1
  have r1 := Lib.hid LO.out.rng
  have r2 := Lib.hid LT.out.rng
  go_wp2_with (first
    | (refine load_guarded (by rfl) 26 (.tmp 1) rfl bO 0 rfl OC _ r1.out Tryd.underlying26 rfl iO.out ?_)
    | (refine load_guarded (by rfl) 26 (.tmp 5) rfl bT 0 rfl TC _ r2.out Tryd.underlying26 rfl iT.out ?_))
  refine (DN.out _ (HT.out _ BB.out)).mono ?_
  rintro e d3 ⟨rfl, m1⟩
  have m1 : Bel d2 d3 := m1
  have LO := Lib.hid (LO.out.bel m1)
  have G2 := Lib.hid (G2.out.bel m1)
  have BB := Lib.hid (BB.out.trans m1)
  clear r1 r2 m1 LT
  have r1 := Lib.hid LO.out.rng
  have r2 := Lib.hid G2.out.rng
  go_wp2_with (first
    | (refine load_guarded (by rfl) 26 (.tmp 1) rfl bO 0 rfl OC _ r1.out Tryd.underlying26 rfl iO.out ?_)
    | (refine load_guarded (by rfl) 26 (.tmp 21) rfl a2 0 rfl AC _ r2.out Tryd.underlying26 rfl iA2.out ?_))
  refine (SN.out _).mono ?_
  rintro e d4 ⟨rfl, m1⟩
  have BB := Lib.hid (BB.out.trans m1)
  clear r1 r2 m1
  go_wp2
  go_ret
  exact ⟨rfl, BB.out⟩
end Vt
end Go.Proofs.YtgalhpejihmhkaaDoor
