/-
  What ParamsKnown answers: true. Condition: the library's table of powers of ten is as the program's text lays it.
-/
import Derived.Test.YtkblbcdinibncaaDoorGPKn2
import Derived.Test.YtkblbcdinibncaaDoorPD
namespace Go.Proofs.YtkblbcdinibncaaDoor
open Go.RowKit Go.Shelf
set_option linter.unusedVariables false
namespace Pm
open Kk

theorem wpl_guarded {ops : Array Oper} {rest : List Oper} {op : Oper} {a : Act} {w : World} {Q : Exit → Act → World → Prop} (hw : Region.wanted op (yielded ops a.tmps) = true) (ty : TypeId) (x : Operand) (ho : op.op = .load ty x)
    (b o : Nat) (hx : a.eval x = .pointer (some ⟨b, o, none⟩)) (cs : List Value) (d : TypeDesc) (hc : w.rangeAt b o cs)
    (hu : Tryd.prog.underlying ty = some d) (hd : d.isRow = true) (hi : (Tryd.prog.info? ty).map (·.size) = some cs.length)
    (h : wpList Tryd.prog ops Q rest (a.put op.dst (.agg cs.toArray)) w) : wpList Tryd.prog ops Q (op :: rest) a w :=
  wpList_step fun K hK => by
    rw [if_pos hw]
    exact wp_load_mid ty x ho b o hx cs d hc hu hd hi (hK _ _ h)
theorem parses_lit (l : List UInt8) (n : Nat) (hn : l.length = n) (hs : n ≤ 1000000000) (a b : Int) (h : (prs 0 zr (pcs n l)).2 = (a, b)) (w : World) : Calls Tryd.prog 20 #[.string ⟨l.toArray⟩] w fun e w' => e = .returned (.agg #[.int .i64 a, .int .i64 b]) ∧ Bel w w' :=
  parsesT ⟨l.toArray⟩ (by show l.toArray.size ≤ _; rw [List.size_toArray]; omega) w (prs 0 zr (pcs n l)).1 a b (by
    show prs 0 zr (pcs l.toArray.toList.length l.toArray.toList) = _
    rw [List.toList_toArray, hn]
    exact prs_of h)
theorem sl_mk (w : World) (zs : List Int) (fr : Nat × Nat) : Cd.Sl (w.alloc (.cells (zs.map (Value.int .u8)).toArray 5 fr)) (some ⟨w.heap.size, 0, none⟩) zs.length zs.length zs := by
  refine ⟨⟨rfl, fun hn => ⟨w.heap.size, 0, rfl, by simp, fun i hi => ?_⟩⟩, Nat.le_refl _, fun h => by cases h⟩
  rw [Nat.zero_add, World.cell?_alloc_mark, List.getElem?_toArray, List.getElem?_map, List.getElem?_eq_getElem hi, getD_eq _ _ hi]
  rfl
theorem reads_none (w : World) : Calls Tryd.prog 21 #[.slice none 0 0] w fun e w' => e = .returned (.agg #[.int .i64 6, .int .i64 0]) ∧ Bel w w' :=
  readsT none 0 0 [] w ⟨⟨rfl, fun h => absurd h (by decide)⟩, Nat.le_refl _, fun _ => rfl⟩ (by decide) (Cd.bytes_of (by intro z hz; cases hz)) _ _ _ to_none 6 0 rfl (by decide)
theorem reads_56 (w : World) (fr : Nat × Nat) : Calls Tryd.prog 21 #[.slice (some ⟨w.heap.size, 0, none⟩) 2 2] (w.alloc (.cells #[.int .u8 5, .int .u8 6] 5 fr)) fun e w' => e = .returned (.agg #[.int .i64 9, .int .i64 1]) ∧ Bel w w' :=
  (readsT (some ⟨w.heap.size, 0, none⟩) 2 2 [5, 6] (w.alloc (.cells #[.int .u8 5, .int .u8 6] 5 fr)) (sl_mk w [5, 6] fr) (by decide) (Cd.bytes_of (by intro z hz; simp at hz; omega)) _ _ _ to_56 9 1 rfl (by decide)).mono fun e w' h => ⟨h.1, ((Bel.refl w).alloc _).trans h.2⟩
theorem reads_0 (w : World) (fr : Nat × Nat) : Calls Tryd.prog 21 #[.slice (some ⟨w.heap.size, 0, none⟩) 1 1] (w.alloc (.cells #[.int .u8 0] 5 fr)) fun e w' => e = .returned (.agg #[.int .i64 3, .int .i64 0]) ∧ Bel w w' :=
  (readsT (some ⟨w.heap.size, 0, none⟩) 1 1 [0] (w.alloc (.cells #[.int .u8 0] 5 fr)) (sl_mk w [0] fr) (by decide) (Cd.bytes_of (by intro z hz; simp at hz; omega)) _ _ _ to_zero 3 0 rfl (by decide)).mono fun e w' h => ⟨h.1, ((Bel.refl w).alloc _).trans h.2⟩
theorem two_blk (w : World) : Blk ((w.alloc ZP).alloc ZP) w.heap.size ZR 26 ∧ Blk ((w.alloc ZP).alloc ZP) (w.heap.size + 1) ZR 26 := by
  refine ⟨(Blk.new w _ _).alloc _, ?_⟩
  have h := Blk.new (w.alloc ZP) ZR 26
  rw [World.size_alloc] at h
  exact h
structure Kw (w0 : World) (d p q : Nat) (W : World) : Prop where
  rd : W.rangeAt d 0 (recC dv)
  ro : W.rangeAt p 0 (recC old_)
  rl : W.rangeAt q 0 (recC low_)
  tab : Tab W
  bel : Bel w0 W
theorem Kw.up {w0 : World} {d p q : Nat} {W W' : World} (h : Kw w0 d p q W) (hb : Bel W W') : Kw w0 d p q W' :=
  ⟨rng_bel h.rd hb, rng_bel h.ro hb, rng_bel h.rl hb, h.tab.bel hb, h.bel.trans hb⟩

set_option maxRecDepth 100000 in
set_option maxHeartbeats 8000000 in
theorem known (w : World) (htab : Tab w) : Calls Tryd.prog 5 #[] w fun e w' => e = .returned (.bool true) ∧ Bel w w' := by
  obtain ⟨E, hE⟩ : ∃ E, E = recC dv := ⟨_, rfl⟩
  have HEl := Lib.hid (show E.length = 11 by rw [hE]; rfl)
  have EI := Lib.hid (show (Tryd.prog.info? 26).map (·.size) = some E.length by rw [hE]; exact info_rec)
  have EI2 := Lib.hid (show (Tryd.prog.info? 26).map (·.size) = some E.toArray.size by rw [hE]; exact info_rec)
  have EO := Lib.hid (all_oneCell_toArray (cs := E) (by rw [hE]; exact recC_cells _))
  have HE := Lib.hid hE
  have DF := Lib.hid (default_ w)
  unfold RecE at DF
  rw [← hE] at DF
  have HT := Lib.hid htab
  clear hE htab
  go_enter Tryd.func5, Tryd.ntmps5
  go_wp2_with fail
  refine DF.out.mono ?_
  rintro e w1 ⟨rfl, k1⟩
  have B1 : Hid (Bel w w1) := Lib.hid k1
  clear k1
  obtain ⟨t1, t2⟩ := store_rec (z := dv) (y := fun _ => 0) (Blk.new w1 _ _)
  rw [← HE.out] at t1 t2
  have T1 := Lib.hid t1
  obtain ⟨d, hd⟩ : ∃ d, w1.heap.size = d := ⟨_, rfl⟩
  obtain ⟨V, hV⟩ : ∃ V, (w1.alloc ZP).setCells d 0 E = V := ⟨_, rfl⟩
  have t2' : Blk ((w1.alloc ZP).setCells w1.heap.size 0 E) w1.heap.size E.toArray 26 := t2
  rw [hd, hV] at t2'
  have BV := Lib.hid (show Bel w1 V by rw [← hV]; exact bel_setCells ((Bel.refl w1).alloc _) (by rw [hd]; exact Nat.le_refl _) 0 E)
  have KV := Lib.hid t2'
  have HV := Lib.hid hV
  have HD := Lib.hid hd
  clear t1 t2 t2' hV hd
  go_upto_region 2 with (refine wpList_store_mid rfl 26 (.tmp 1) (.tmp 18) rfl w1.heap.size 0 E.toArray rfl rfl T1.out EI2.out EO.out ?_)
  rw [HD.out, HV.out]
  have S0d := rng_bel (rngB KV.out) (Bel.refl V).drew
  have uP := Tryd.underlying26
  have iP := EI.out
  refine wp_region_held_drew (S := fun V => V.rangeAt d 0 E) (by kernel_rfl) S0d (fun hS0 => ?_)
  obtain ⟨w6, hw6⟩ : ∃ w6, V.drew = w6 := ⟨_, rfl⟩
  have B6 := Lib.hid (show Bel V w6 by rw [← hw6]; exact (Bel.refl V).drew)
  have HDL := Lib.hid (show d < w6.heap.size from Nat.lt_of_lt_of_le KV.out.lt (Below.size B6.out))
  rw [hw6] at hS0 ⊢
  clear hw6 S0d
  refine wpAnyH_take (i := 0) (oi := { dst := some 19, op := .load 26 (.tmp 1), type := 26, pos := "outright.go:39", after := #[], guard := none }) (v := .agg E.toArray) rfl (by kernel_rfl) (by kernel_rfl) (by kernel_rfl) (fun _ _ _ h => h) (yieldsIf_load_mid (by rfl) _ _ rfl _ _ rfl _ _ (fun w h => h) uP rfl iP) hS0 ?_
  try simp only [Act.put, List.setIfInBounds_toArray, List.set_cons_zero, List.set_cons_succ]
  refine wpAnyH_take (i := 1) (oi := { dst := some 20, op := .load 26 (.tmp 1), type := 26, pos := "outright.go:39", after := #[{ on := 4, ground := .gcOnly .lateStores }], guard := none }) (v := .agg E.toArray) rfl (by kernel_rfl) (by kernel_rfl) (by kernel_rfl) (fun _ _ _ h => h) (yieldsIf_load_mid (by rfl) _ _ rfl _ _ rfl _ _ (fun w h => h) uP rfl iP) hS0 ?_
  try simp only [Act.put, List.setIfInBounds_toArray, List.set_cons_zero, List.set_cons_succ]
  refine wpAnyH_ready (rs := [2, 3]) (by kernel_rfl) (by simp) ?_
  refine AllReadyH.cons (o := { dst := some 2, op := .alloc 26, type := 0, pos := "outright.go:39", after := #[], guard := none }) rfl (fun K hK => ?_) (AllReadyH.cons (o := { dst := some 3, op := .alloc 26, type := 0, pos := "outright.go:39", after := #[], guard := none }) rfl (fun K hK => ?_) AllReadyH.nil)
  go_simp
  refine hK.out _ _ (rng_bel hS0 ((Bel.refl _).alloc _)) (fun hS1 => ?_)
  clear hK K
  try simp only [Act.put, List.setIfInBounds_toArray, List.set_cons_zero, List.set_cons_succ]
  refine wpAnyH_ready (rs := [3]) (by kernel_rfl) (by simp) ?_
  refine AllReadyH.cons (o := { dst := some 3, op := .alloc 26, type := 0, pos := "outright.go:39", after := #[], guard := none }) rfl (fun K hK => ?_) AllReadyH.nil
  go_simp
  refine hK.out _ _ (rng_bel hS1 ((Bel.refl _).alloc _)) (fun hS2 => ?_)
  clear hK K
  try simp only [Act.put, List.setIfInBounds_toArray, List.set_cons_zero, List.set_cons_succ]
  have NB := two_blk w6
  obtain ⟨p, hp⟩ : ∃ p, p = w6.heap.size := ⟨_, rfl⟩
  obtain ⟨q, hq⟩ : ∃ q, q = w6.heap.size + 1 := ⟨_, rfl⟩
  rw [← hq, ← hp] at NB ⊢
  have FP := Lib.hid (show p ≠ q ∧ d ≠ p ∧ d ≠ q ∧ w6.heap.size ≤ p ∧ w6.heap.size ≤ q by have := HDL.out; omega)
  have BP := Lib.hid NB.1
  have BQ := Lib.hid NB.2
  clear NB hp hq
  rotate_left
  go_simp
  refine hK.out _ _ (rng_bel hS0 ((Bel.refl _).alloc _)) (fun hS1 => ?_)
  clear hK K
  try simp only [Act.put, List.setIfInBounds_toArray, List.set_cons_zero, List.set_cons_succ]
  refine wpAnyH_ready (rs := [2]) (by kernel_rfl) (by simp) ?_
  refine AllReadyH.cons (o := { dst := some 2, op := .alloc 26, type := 0, pos := "outright.go:39", after := #[], guard := none }) rfl (fun K hK => ?_) AllReadyH.nil
  go_simp
  refine hK.out _ _ (rng_bel hS1 ((Bel.refl _).alloc _)) (fun hS2 => ?_)
  clear hK K
  try simp only [Act.put, List.setIfInBounds_toArray, List.set_cons_zero, List.set_cons_succ]
  have NB := two_blk w6
  obtain ⟨q, hq⟩ : ∃ q, q = w6.heap.size := ⟨_, rfl⟩
  obtain ⟨p, hp⟩ : ∃ p, p = w6.heap.size + 1 := ⟨_, rfl⟩
  rw [← hp, ← hq] at NB ⊢
  have FP := Lib.hid (show p ≠ q ∧ d ≠ p ∧ d ≠ q ∧ w6.heap.size ≤ p ∧ w6.heap.size ≤ q by have := HDL.out; omega)
  have BP := Lib.hid NB.2
  have BQ := Lib.hid NB.1
  clear NB hp hq
  all_goals
    have T1 := Lib.hid (bthere BP.out 0 E.toArray.size (by rw [List.size_toArray, HEl.out]; exact Nat.le_refl _))
    refine wpAnyH_ready (rs := [4]) (by kernel_rfl) (by simp) ?_
    refine AllReadyH.cons (o := { dst := none, op := .store 26 (.tmp 2) (.tmp 19), type := 0, pos := "outright.go:39", after := #[{ on := 2, ground := .data }, { on := 0, ground := .data }, { on := 0, ground := .phase }, { on := 1, ground := .textOnly .lateStores }, { on := 2, ground := .phase }, { on := 3, ground := .phase }], guard := none }) rfl (fun K hK => ?_) AllReadyH.nil
    rw [if_pos (by rfl)]
    refine wp_store_mid 26 (.tmp 2) (.tmp 19) rfl p 0 E.toArray rfl rfl T1.out EI2.out EO.out ?_
    refine hK.out _ _ (rng_kep hS2 (kep_setCells p _ 0 _) (by have := FP.out; omega)) (fun hS3 => ?_)
    clear hK K
    try simp only [Act.put]
    have BP1 := Lib.hid (bwhole (vs := E) BP.out (by rw [HEl.out]; rfl))
    have BQ1 := Lib.hid (BQ.out.kep (kep_setCells p E 0 _) (by have := FP.out; omega))
    have T2 := Lib.hid (bthere BQ1.out 0 E.toArray.size (by rw [List.size_toArray, HEl.out]; exact Nat.le_refl _))
    refine wpAnyH_ready (rs := [5]) (by kernel_rfl) (by simp) ?_
    refine AllReadyH.cons (o := { dst := none, op := .store 26 (.tmp 3) (.tmp 20), type := 0, pos := "outright.go:39", after := #[{ on := 3, ground := .data }, { on := 1, ground := .data }, { on := 4, ground := .chain }, { on := 0, ground := .phase }, { on := 1, ground := .phase }, { on := 2, ground := .phase }, { on := 3, ground := .phase }, { on := 4, ground := .phase }], guard := none }) rfl (fun K hK => ?_) AllReadyH.nil
    rw [if_pos (by rfl)]
    refine wp_store_mid 26 (.tmp 3) (.tmp 20) rfl q 0 E.toArray rfl rfl T2.out EI2.out EO.out ?_
    refine hK.out _ _ (rng_kep hS3 (kep_setCells q _ 0 _) (by have := FP.out; omega)) (fun hS4 => ?_)
    clear hK K
    try simp only [Act.put]
    refine wpAnyH_done (by kernel_rfl) ?_ _
  all_goals
    have BQ2 := bwhole (vs := E) BQ1.out (by rw [HEl.out]; rfl)
    have BP2 := BP1.out.kep (kep_setCells q E 0 _) (by have := FP.out; omega)
    have BW := bel_setCells (bel_setCells (((Bel.refl w6).alloc ZP).alloc ZP) FP.out.2.2.2.1 0 E) FP.out.2.2.2.2 0 E
    obtain ⟨V2, hV2⟩ : ∃ V2, (((w6.alloc ZP).alloc ZP).setCells p 0 E).setCells q 0 E = V2 := ⟨_, rfl⟩
    rw [hV2] at BQ2 BP2 BW hS4 ⊢
    have RD2 := Lib.hid hS4
    have BL2 := Lib.hid BW
    have Q2 := Lib.hid (show Blk V2 q (recC dv).toArray 26 by rw [← HE.out]; exact BQ2)
    have P2 := Lib.hid (show Blk V2 p (recC dv).toArray 26 by rw [← HE.out]; exact BP2)
    clear hV2 BQ2 BP2 BW hS0 hS1 hS2 hS3 hS4 uP iP T1 T2 BP BQ BP1 BQ1
    have c1 : V2.cell? ⟨p, 1, none⟩ = some (.int .i64 100) := P2.out.cell 1 rfl
    have f1 : V2.frozen? ⟨p, 1, none⟩ = false := P2.out.frozen 1
    go_upto_region 4 with fail
    obtain ⟨V3, hV3⟩ : ∃ V3, V2.setCell ⟨p, 1, none⟩ (.int .i64 101) = V3 := ⟨_, rfl⟩
    have P3 := Lib.hid (show Blk V3 p (recC old_).toArray 26 by
      have h := P2.out.set 1 (.int .i64 101)
      rw [hV3] at h
      have e := rec_upd dv 1 (by omega) 101
      exact e ▸ h)
    have Q3 := Lib.hid (show Blk V3 q (recC dv).toArray 26 by rw [← hV3]; exact Q2.out.other (by have := FP.out; omega) 1 _)
    have K3 := Lib.hid (show Kep (fun i => i = p) V2 V3 by rw [← hV3]; exact Kep.set_self (Kep.refl _ _) 1 _)
    rw [hV3]
    clear hV3 c1 f1
    have c1 : V3.cell? ⟨q, 0, none⟩ = some (.int .i64 100) := Q3.out.cell 0 rfl
    have f1 : V3.frozen? ⟨q, 0, none⟩ = false := Q3.out.frozen 0
    go_upto_region 5 with fail
    obtain ⟨V4, hV4⟩ : ∃ V4, V3.setCell ⟨q, 0, none⟩ (.int .i64 0) = V4 := ⟨_, rfl⟩
    have P4 := Lib.hid (show Blk V4 p (recC old_).toArray 26 by rw [← hV4]; exact P3.out.other (by have := FP.out; omega) 0 _)
    have Q4 := Lib.hid (show Blk V4 q (recC (upd dv 0 0)).toArray 26 by
      have h := Q3.out.set 0 (.int .i64 0)
      rw [hV4] at h
      have e := rec_upd dv 0 (by omega) 0
      exact e ▸ h)
    have K4 := Lib.hid (show Kep (fun i => i = q) V3 V4 by rw [← hV4]; exact Kep.set_self (Kep.refl _ _) 0 _)
    rw [hV4]
    clear hV4 c1 f1
    have c1 : V4.cell? ⟨q, 1, none⟩ = some (.int .i64 100) := Q4.out.cell 1 rfl
    have f1 : V4.frozen? ⟨q, 1, none⟩ = false := Q4.out.frozen 1
    go_upto_region 6 with fail
    obtain ⟨V5, hV5⟩ : ∃ V5, V4.setCell ⟨q, 1, none⟩ (.int .i64 (-1)) = V5 := ⟨_, rfl⟩
    have P5 := Lib.hid (show Blk V5 p (recC old_).toArray 26 by rw [← hV5]; exact P4.out.other (by have := FP.out; omega) 1 _)
    have Q5 := Lib.hid (show Blk V5 q (recC low_).toArray 26 by
      have h := Q4.out.set 1 (.int .i64 (-1))
      rw [hV5] at h
      have e := rec_upd (upd dv 0 0) 1 (by omega) (-1)
      exact e ▸ h)
    have K5 := Lib.hid (show Kep (fun i => i = q) V4 V5 by rw [← hV5]; exact Kep.set_self (Kep.refl _ _) 1 _)
    rw [hV5]
    clear hV5 c1 f1
    have X := Lib.hid (show Kw w d p q V5 from
      have r3 := rng_kep RD2.out K3.out FP.out.2.1
      have r4 := rng_kep r3 K4.out FP.out.2.2.1
      have r5 := rng_kep r4 K5.out FP.out.2.2.1
      have b3 := Kep.bel BL2.out K3.out (fun i hi => by have := FP.out; omega)
      have b4 := Kep.bel b3 K4.out (fun i hi => by have := FP.out; omega)
      have b5 := Kep.bel b4 K5.out (fun i hi => by have := FP.out; omega)
      have b := ((B1.out.trans BV.out).trans B6.out).trans b5
      ⟨by rw [← HE.out]; exact r5, rngB P5.out, rngB Q5.out, HT.out.bel b, b⟩)
    clear P2 P3 P4 P5 Q2 Q3 Q4 Q5 K3 K4 K5 RD2 BL2 B1 BV KV HV HD HDL B6 DF HT FP
    obtain ⟨O, hO⟩ : ∃ O, recC old_ = O := ⟨_, rfl⟩
    obtain ⟨L, hL⟩ : ∃ L, recC low_ = L := ⟨_, rfl⟩
    have OI := Lib.hid (show (Tryd.prog.info? 26).map (·.size) = some O.length by rw [← hO]; exact info_rec)
    have LI := Lib.hid (show (Tryd.prog.info? 26).map (·.size) = some L.length by rw [← hL]; exact info_rec)
    have CO := Lib.hid (checksT old_ kinds_old 9 1 chk_old)
    have CL := Lib.hid (checksT low_ kinds_low 3 0 chk_low)
    have RO := Lib.hid (show ∀ W, Kw w d p q W → W.rangeAt p 0 O from fun W h => by rw [← hO]; exact h.ro)
    have RL := Lib.hid (show ∀ W, Kw w d p q W → W.rangeAt q 0 L from fun W h => by rw [← hL]; exact h.rl)
    have RE := Lib.hid (show ∀ W, Kw w d p q W → W.rangeAt d 0 E from fun W h => by rw [HE.out]; exact h.rd)
    rw [hO] at CO
    rw [hL] at CL
    clear hO hL
    go_wp2_with (refine wpList_load_mid rfl 26 (.tmp 2) rfl p 0 rfl O _ (RO.out _ X.out) Tryd.underlying26 rfl OI.out ?_)
    refine (CO.out V5).mono ?_
    rintro e v1 ⟨rfl, k1⟩
    have X := Lib.hid (X.out.up k1)
    clear k1
    go_wp2_with (refine wpl_guarded rfl 26 (.tmp 3) rfl q 0 rfl L _ (RL.out _ X.out) Tryd.underlying26 rfl LI.out ?_)
    refine (CL.out v1).mono ?_
    rintro e v2 ⟨rfl, k1⟩
    have X := Lib.hid (X.out.up k1)
    clear k1 CO CL RO RL OI LI
    have GT := Lib.hid (get dv kinds_dv ⟨#[66, 97, 115, 101]⟩)
    rw [← HE.out] at GT
    go_wp2_with (refine wpList_load_mid rfl 26 (.tmp 1) rfl d 0 rfl E _ (RE.out _ X.out) Tryd.underlying26 rfl EI.out ?_)
    refine (GT.out v2).mono ?_
    rintro e v3 ⟨n, a, rfl, hg, k1⟩
    obtain ⟨rfl, rfl⟩ := gt_Base hg
    have X := Lib.hid (X.out.up k1)
    clear k1 hg GT
    have ST := Lib.hid (set dv kinds_dv ⟨#[117, 110, 98, 111, 110, 100, 105, 110, 103]⟩ 99 (by decide) (by decide))
    rw [← HE.out] at ST
    go_wp2_with (refine wpList_load_mid rfl 26 (.tmp 1) rfl d 0 rfl E _ (RE.out _ X.out) Tryd.underlying26 rfl EI.out ?_)
    refine (ST.out v3).mono ?_
    rintro e u1 ⟨y, a, rfl, hg, k1⟩
    obtain ⟨rfl, rfl⟩ := st_1 hg
    have X := Lib.hid (X.out.up k1)
    clear k1 hg ST
    obtain ⟨Y, hY⟩ : ∃ Y, recC zr = Y := ⟨_, rfl⟩
    have YI2 := Lib.hid (show (Tryd.prog.info? 26).map (·.size) = some Y.toArray.size by rw [← hY]; exact info_rec)
    have YO := Lib.hid (all_oneCell_toArray (cs := Y) (by rw [← hY]; exact recC_cells _))
    obtain ⟨t1, t2⟩ := store_rec (z := zr) (y := fun _ => 0) (Blk.new u1 _ _)
    rw [hY] at t1 t2 ⊢
    have HY := Lib.hid hY
    have T1 := Lib.hid t1
    have t2' : Blk ((u1.alloc ZP).setCells u1.heap.size 0 Y) u1.heap.size Y.toArray 26 := t2
    have b1 := bel_setCells ((Bel.refl u1).alloc ZP) (Nat.le_refl u1.heap.size) 0 Y
    go_upto_region 9 with (refine wpList_store_mid rfl 26 (.tmp 7) (.tmp 38) rfl u1.heap.size 0 Y.toArray rfl rfl T1.out YI2.out YO.out ?_)
    obtain ⟨x1, hx⟩ : ∃ x, (u1.alloc ZP).setCells u1.heap.size 0 Y = x := ⟨_, rfl⟩
    rw [hx] at t2' b1 ⊢
    have X := Lib.hid (X.out.up b1)
    clear hY HY
    clear t1 t2 t2' b1 hx T1 YI2 YO
    have ST := Lib.hid (set dv kinds_dv ⟨#[109, 117, 108, 116]⟩ 1001 (by decide) (by decide))
    rw [← HE.out] at ST
    go_wp2_with (refine wpList_load_mid rfl 26 (.tmp 1) rfl d 0 rfl E _ (RE.out _ X.out) Tryd.underlying26 rfl EI.out ?_)
    refine (ST.out x1).mono ?_
    rintro e u2 ⟨y, a, rfl, hg, k1⟩
    obtain ⟨rfl, rfl⟩ := st_2 hg
    have X := Lib.hid (X.out.up k1)
    clear k1 hg ST
    obtain ⟨Y, hY⟩ : ∃ Y, recC zr = Y := ⟨_, rfl⟩
    have YI2 := Lib.hid (show (Tryd.prog.info? 26).map (·.size) = some Y.toArray.size by rw [← hY]; exact info_rec)
    have YO := Lib.hid (all_oneCell_toArray (cs := Y) (by rw [← hY]; exact recC_cells _))
    obtain ⟨t1, t2⟩ := store_rec (z := zr) (y := fun _ => 0) (Blk.new u2 _ _)
    rw [hY] at t1 t2 ⊢
    have HY := Lib.hid hY
    have T1 := Lib.hid t1
    have t2' : Blk ((u2.alloc ZP).setCells u2.heap.size 0 Y) u2.heap.size Y.toArray 26 := t2
    have b1 := bel_setCells ((Bel.refl u2).alloc ZP) (Nat.le_refl u2.heap.size) 0 Y
    go_upto_region 10 with (refine wpList_store_mid rfl 26 (.tmp 9) (.tmp 43) rfl u2.heap.size 0 Y.toArray rfl rfl T1.out YI2.out YO.out ?_)
    obtain ⟨x2, hx⟩ : ∃ x, (u2.alloc ZP).setCells u2.heap.size 0 Y = x := ⟨_, rfl⟩
    rw [hx] at t2' b1 ⊢
    have X := Lib.hid (X.out.up b1)
    clear hY HY
    clear t1 t2 t2' b1 hx T1 YI2 YO
    have ST := Lib.hid (set dv kinds_dv ⟨#[114, 101, 119, 97, 114, 100]⟩ 0 (by decide) (by decide))
    rw [← HE.out] at ST
    go_wp2_with (refine wpList_load_mid rfl 26 (.tmp 1) rfl d 0 rfl E _ (RE.out _ X.out) Tryd.underlying26 rfl EI.out ?_)
    refine (ST.out x2).mono ?_
    rintro e u3 ⟨y, a, rfl, hg, k1⟩
    obtain ⟨rfl, rfl⟩ := st_3 hg
    have X := Lib.hid (X.out.up k1)
    clear k1 hg ST
    obtain ⟨Y, hY⟩ : ∃ Y, recC (upd dv 10 0) = Y := ⟨_, rfl⟩
    have YI2 := Lib.hid (show (Tryd.prog.info? 26).map (·.size) = some Y.toArray.size by rw [← hY]; exact info_rec)
    have YO := Lib.hid (all_oneCell_toArray (cs := Y) (by rw [← hY]; exact recC_cells _))
    obtain ⟨t1, t2⟩ := store_rec (z := (upd dv 10 0)) (y := fun _ => 0) (Blk.new u3 _ _)
    rw [hY] at t1 t2 ⊢
    have HY := Lib.hid hY
    have T1 := Lib.hid t1
    have t2' : Blk ((u3.alloc ZP).setCells u3.heap.size 0 Y) u3.heap.size Y.toArray 26 := t2
    have b1 := bel_setCells ((Bel.refl u3).alloc ZP) (Nat.le_refl u3.heap.size) 0 Y
    go_upto_region 11 with (refine wpList_store_mid rfl 26 (.tmp 11) (.tmp 48) rfl u3.heap.size 0 Y.toArray rfl rfl T1.out YI2.out YO.out ?_)
    obtain ⟨x3, hx⟩ : ∃ x, (u3.alloc ZP).setCells u3.heap.size 0 Y = x := ⟨_, rfl⟩
    rw [hx] at t2' b1 ⊢
    have X := Lib.hid (X.out.up b1)
    obtain ⟨r, hr⟩ : ∃ r, u3.heap.size = r := ⟨_, rfl⟩
    rw [hr] at t2' ⊢
    have c10 : x3.cell? ⟨r, 10, none⟩ = some (.int .u64 0) := t2'.cell 10 (by rw [← hY]; rfl)
    have c7 : x3.cell? ⟨r, 7, none⟩ = some (.int .u64 50000000) := t2'.cell 7 (by rw [← hY]; rfl)
    have d7 : x3.cell? ⟨d, 7, none⟩ = some (.int .u64 50000000) := by have := (RE.out _ X.out) 7 (.int .u64 50000000) (by rw [HE.out]; rfl); rwa [Nat.zero_add] at this
    clear hY HY hr
    clear t1 t2 t2' b1 hx T1 YI2 YO
    go_upto_region 12 with fail
    have TX := Lib.hid (text dv kinds_dv)
    rw [← HE.out] at TX
    clear c10 c7 d7
    go_wp2_with (refine wpList_load_mid rfl 26 (.tmp 1) rfl d 0 rfl E _ (RE.out _ X.out) Tryd.underlying26 rfl EI.out ?_)
    refine (TX.out x3 X.out.tab).mono ?_
    rintro e v4 ⟨s, a, rfl, hs, k1⟩
    obtain ⟨hs1, rfl⟩ := txt_dv2 hs
    have X := Lib.hid (X.out.up k1)
    have hsz : s.size = 132 := by rw [hs1]; rfl
    have hszi : (s.size : Int) = 132 := by omega
    have hcut : s.extract 14 25 = ⟨#[109, 97, 120, 97, 103, 101, 32, 49, 48, 48, 10]⟩ := by rw [hs1]; rfl
    have P1 := Lib.hid (show ∀ W : World, Calls Tryd.prog 20 #[.string (s.extract 0 131)] W fun e w' => e = .returned (.agg #[.int .i64 6, .int .i64 10]) ∧ Bel W w' from fun W => by
      rw [show s.extract 0 131 = ⟨(TD.take 131).toArray⟩ by rw [hs1]; rfl]
      exact parses_lit (TD.take 131) 131 rfl (by decide) 6 10 prs_short W)
    have P2 := Lib.hid (show ∀ W : World, Calls Tryd.prog 20 #[.string (s ++ ⟨#[120]⟩)] W fun e w' => e = .returned (.agg #[.int .i64 4, .int .i64 11]) ∧ Bel W w' from fun W => by
      rw [show s ++ ⟨#[120]⟩ = ⟨(TD ++ [120]).toArray⟩ by rw [hs1]; rfl]
      exact parses_lit (TD ++ [120]) 133 rfl (by decide) 4 11 prs_long W)
    have P3 := Lib.hid (fun W => parses_lit [117, 110, 98, 111, 110, 100, 105, 110, 103, 32, 48, 49, 48, 48, 10] 15 rfl (by decide) 5 0 prs_form W)
    have P4 := Lib.hid (fun W => parses_lit [117, 110, 98, 111, 110, 100, 105, 110, 103, 32, 48, 10] 12 rfl (by decide) 3 0 prs_range W)
    clear k1 hs hs1 TX
    go_wp2_with fail
    refine (P1.out v4).mono ?_
    rintro e v5 ⟨rfl, k1⟩
    have X := Lib.hid (X.out.up k1)
    clear k1
    go_wp2_with fail
    refine (P2.out v5).mono ?_
    rintro e v6 ⟨rfl, k1⟩
    have X := Lib.hid (X.out.up k1)
    clear k1
    go_wp2_with fail
    refine (P3.out v6).mono ?_
    rintro e v7 ⟨rfl, k1⟩
    have X := Lib.hid (X.out.up k1)
    clear k1
    go_wp2_with fail
    refine (P4.out v7).mono ?_
    rintro e v8 ⟨rfl, k1⟩
    have X := Lib.hid (X.out.up k1)
    clear k1 P1 P2 P3 P4 hsz hszi hcut
    go_wp2_with fail
    refine (reads_none v8).mono ?_
    rintro e v9 ⟨rfl, k1⟩
    have X := Lib.hid (X.out.up k1)
    clear k1
    go_wp2_with fail
    refine (reads_56 v9 _).mono ?_
    rintro e v10 ⟨rfl, k1⟩
    have X := Lib.hid (X.out.up k1)
    clear k1
    go_wp2_with fail
    refine (reads_0 v10 _).mono ?_
    rintro e v11 ⟨rfl, k1⟩
    have X := Lib.hid (X.out.up k1)
    clear k1
    go_wp2_with fail
    refine (awake v11 X.out.tab).mono ?_
    rintro e v12 ⟨rfl, k1⟩
    have X := Lib.hid (X.out.up k1)
    clear k1
    go_wp2_with fail
    go_ret
    exact ⟨rfl, X.out.bel⟩
end Pm
end Go.Proofs.YtkblbcdinibncaaDoor
