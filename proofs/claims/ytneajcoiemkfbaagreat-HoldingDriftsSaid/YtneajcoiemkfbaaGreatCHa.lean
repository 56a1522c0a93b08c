/-
  What slices.DeleteFunc makes of a list of one's own, of classes and of positions. Conditions: at most a billion rows; the function value tells what q tells, whatever the list's own block holds.
-/
import Derived.Test.YtneajcoiemkfbaaGreatCGa
namespace Go.Proofs.YtneajcoiemkfbaaGreat
open Go.RowKit Go.Shelf
set_option linter.unusedVariables false
set_option linter.unusedSimpArgs false
namespace Ho
open Kk Pm

theorem flat_put {k : R6 → List Value} (K : C6 k) (l : List R6) (i : Nat) (r : R6) (h : i < l.length) : flat k (l.set i r) = (flat k l).take (i * 6) ++ k r ++ (flat k l).drop (i * 6 + 6) := by
  rw [List.set_eq_take_append_cons_drop, if_pos h, flat_app, flat_take K, show i * 6 + 6 = (i + 1) * 6 by omega, flat_drop K, List.append_assoc]
  rfl
/-- A whole row stored anew. -/
theorem RB.put {k : R6 → List Value} (K : C6 k) {t : TypeId} {w : World} {g cap i : Nat} {l : List R6} (h : RB k t w g l cap) (hi : i < l.length) (r : R6) : RB k t (w.setCells g (i * 6) (k r)) g (l.set i r) cap := by
  obtain ⟨sp, hb, hsp⟩ := rb_list K h
  have hl := flat_len K l
  have hsplit : flat k l ++ sp = (flat k l).take (i * 6) ++ (((flat k l).drop (i * 6)).take 6 ++ ((flat k l).drop (i * 6 + 6) ++ sp)) := by
    have e1 : ((flat k l).drop (i * 6)).take 6 ++ (flat k l).drop (i * 6 + 6) = (flat k l).drop (i * 6) := by rw [← List.drop_drop, List.take_append_drop]
    rw [← List.append_assoc (((flat k l).drop (i * 6)).take 6), e1, ← List.append_assoc, List.take_append_drop]
  rw [hsplit] at hb
  have h2 := Pm.bmid (vs := k r) hb (by rw [K.len, List.length_take, List.length_drop, hl]; omega)
  rw [List.length_take, hl, Nat.min_eq_left (by omega)] at h2
  refine rb_mk K (sp := sp) ?_ (by rw [List.length_set]; exact hsp) (by rw [List.length_set]; exact h.cap)
  rw [flat_put K l i r hi]
  simpa [List.append_assoc] using h2
theorem run_clearN {P : Program} (w : World) (t e ty : TypeId) (z : Value) (ht : P.underlying t = some (.slice e)) (hv : ∀ w, (zeroValue e).run P w = .ok z w) (h6 : z.cells.size = 6) (h1 : ∀ v ∈ z.cells.toList, v.oneCell' = true) (g o m c : Nat) (cur : List Value) (tt : TypeId) (hm : 0 < m)
    (hg : Blk w g cur.toArray tt) (hfit : o + m * 6 ≤ cur.length) :
    ∃ zs : List Value, zs.length = m * 6 ∧ (Builtin.clear_ #[t] ty #[.slice (some ⟨g, o, none⟩) m c]).run P w = .ok (.tuple #[]) (w.setRow g (cur.take o ++ zs ++ cur.drop (o + m * 6)).toArray) := by
  refine ⟨(Builtin.zeroCells z.cells m).toList, by rw [Array.length_toList, size_zeroCells, h6], ?_⟩
  have hst := run_storeCells_at P g o tt (Builtin.zeroCells z.cells m).toList 0 cur.toArray w hg (by simpa [size_zeroCells, h6] using hfit) (fun v hv' => by
    have hv2 := Array.mem_toList_iff.1 hv'
    simp [Builtin.zeroCells] at hv2
    obtain ⟨i, hi, rfl⟩ := hv2
    have : i % z.cells.size < z.cells.size := Nat.mod_lt _ (by omega)
    refine h1 _ ?_
    simp [this])
  simp only [Nat.add_zero, Array.length_toList, size_zeroCells, h6] at hst
  obtain ⟨m', rfl⟩ : ∃ m', m = m' + 1 := ⟨m - 1, by omega⟩
  simp [Builtin.clear_, run_underlying ht, hv, hst]

set_option maxRecDepth 100000 in
set_option maxHeartbeats 8000000 in
/-- Rows of which q tells true are taken out. -/
theorem deleteFuncC (q : R6 → Bool) (F : Nat) (lb : Array Value) (v : Value) (base : Nat) (l : List R6) (w : World) (h : OwnR cC 90 w base v l) (hn : l.length ≤ 1000000000) (eg : ∀ args w, (callFunc F args).run Tryz.prog w = .ok (.enter F args) w)
    (hF : ∀ r W, Kep (fun b => v.ownBlock = some b) w W → Calls Tryz.prog F (#[.agg (cC r).toArray] ++ lb) W fun e W' => e = .returned (.bool (q r)) ∧ Bel W W') :
    Calls Tryz.prog 204 #[v, .func (.func F) #[] lb] w fun e w' => ∃ v', e = .returned v' ∧ OwnR cC 90 w' base v' (l.filter (fun r => !q r)) ∧ Kep (fun b => v.ownBlock = some b) w w' := by
  obtain ⟨A, c, rfl, hrs, hcm, _⟩ := h.rs c6C
  obtain ⟨n, hnl⟩ : ∃ n, l.length = n := ⟨_, rfl⟩
  rw [hnl] at hrs hn hF ⊢
  have HNL := Lib.hid hnl
  have HO := Lib.hid h
  have HF := Lib.hid hF
  have IX := Lib.hid (indexFuncC q F lb A n c l w hrs (by omega) eg (fun r W hW => hF r W (Kep.of_bel hW)))
  obtain ⟨x, hx⟩ : ∃ x, idxB q l 0 = x := ⟨_, rfl⟩
  have HX := Lib.hid hx
  rw [hx] at IX
  have hway : (x = -1 ∧ l.filter (fun r => !q r) = l) ∨ ∃ i : Nat, x = i ∧ i < n ∧ (∃ r, l[i]? = some r ∧ q r = true) ∧ (l.take (i + 1)).filter (fun r => !q r) = l.take i := by
    by_cases hany : ∃ (i : Nat) (r : R6), l[i]? = some r ∧ q r = true
    · -- the first one
      have : ∀ (m : Nat), (∀ j, j < m → ∀ r, l[j]? = some r → q r = false) ∨ ∃ i, i < m ∧ (∃ r, l[i]? = some r ∧ q r = true) ∧ ∀ j, j < i → ∀ r, l[j]? = some r → q r = false := by
        intro m
        induction m with
        | zero => exact .inl fun j hj => absurd hj (by omega)
        | succ m ih =>
          rcases ih with h1 | ⟨i, h1, h2, h3⟩
          · by_cases hm : ∃ r, l[m]? = some r ∧ q r = true
            · exact .inr ⟨m, by omega, hm, h1⟩
            · refine .inl fun j hj r hr => ?_
              rcases Nat.lt_or_ge j m with hh | hh
              · exact h1 j hh r hr
              · obtain rfl : j = m := by omega
                cases hq : q r
                · rfl
                · exact absurd ⟨r, hr, hq⟩ hm
          · exact .inr ⟨i, by omega, h2, h3⟩
      obtain ⟨i0, r0, hr0, hq0⟩ := hany
      rcases this (i0 + 1) with h1 | ⟨i, h1, ⟨r, hr, hq⟩, h3⟩
      · rw [h1 i0 (by omega) r0 hr0] at hq0; cases hq0
      · refine .inr ⟨i, ?_, ?_, ⟨r, hr, hq⟩, ?_⟩
        · rw [← hx, idxB_at q l i 0 r hr hq (fun j y hj hy => h3 j hj y hy), Nat.zero_add]
        · have := (List.getElem?_eq_some_iff.1 hr).1; omega
        · rw [List.take_add_one, hr, List.filter_append]
          have e1 : (l.take i).filter (fun r => !q r) = l.take i := by
            refine List.filter_eq_self.2 fun y hy => ?_
            obtain ⟨j, hj, rfl⟩ := List.getElem_of_mem hy
            have hj2 : j < i := by rw [List.length_take] at hj; omega
            have hj3 : j < l.length := by rw [List.length_take] at hj; omega
            have := h3 j hj2 l[j] (List.getElem?_eq_getElem hj3)
            rw [List.getElem_take, this]; rfl
          rw [e1]
          simp [hq]
    · refine .inl ⟨?_, ?_⟩
      · rw [← hx]
        exact idxB_no q l 0 (fun j y hy => by
          cases hq : q y
          · rfl
          · exact absurd ⟨j, y, hy, hq⟩ hany)
      · refine List.filter_eq_self.2 fun y hy => ?_
        obtain ⟨j, hj, rfl⟩ := List.getElem_of_mem hy
        cases hq : q l[j]
        · rfl
        · exact absurd ⟨j, _, List.getElem?_eq_getElem hj, hq⟩ hany
  clear hF h hrs hnl hx
  rcases hway with ⟨rfl, hfl⟩ | ⟨i0, rfl, hi0, ⟨r0, hr0, hq0⟩, hf0⟩
  · rw [hfl]
    clear hfl
    go_enter Tryz.func204, Tryz.ntmps204
    go_wp2_with fail
    refine IX.out.mono ?_
    rintro e w1 ⟨rfl, kb⟩
    have KB := Lib.hid kb
    clear kb
    go_wp2_with fail
    go_ret
    refine ⟨_, rfl, ?_, Kep.of_bel KB.out⟩
    have := HO.out.bel KB.out
    rwa [HNL.out] at this
  · obtain ⟨g, cap, e3, hg, hrb, hcap⟩ := rb_own c6C HO.out (by rw [HNL.out]; omega)
    rw [HNL.out] at e3
    injection e3 with e1 e2 e3
    subst e1 e3
    have HRB := Lib.hid hrb
    have hnc := hrb.cap
    rw [HNL.out] at hnc
    have HR0 := Lib.hid hr0
    have HQ0 := Lib.hid hq0
    have HF0 := Lib.hid hf0
    have HF := Lib.hid (show ∀ r W, Kep (fun b => b = g) w W → Calls Tryz.prog F (#[.agg (cC r).toArray] ++ lb) W fun e W' => e = .returned (.bool (q r)) ∧ Bel W W' from fun r W hW => HF.out r W (hW.mono (fun k _ e => by rw [e]; rfl)))
    have hne1 : ((i0 : Int) == -1) = false := by rw [beq_eq_false_iff_ne]; omega
    clear hrb hr0 hq0 hf0 HO
    go_enter Tryz.func204, Tryz.ntmps204
    go_wp2_with fail
    refine IX.out.mono ?_
    rintro e w1 ⟨rfl, kb⟩
    have KB := Lib.hid kb
    clear kb IX
    have hi3 : (i0 : Int) + 1 ≤ n := by omega
    go_wp2_with fail
    go_loopw [5, 6] (fun s5 s6 wr => ∃ (i j : Nat) (L : List R6), s5 = .int .i64 i ∧ s6 = .int .i64 j ∧ i < j ∧ j ≤ n ∧ L.length = n ∧ Hid (L.take i = (l.take j).filter (fun r => !q r) ∧ L.drop j = l.drop j) ∧ Hid (RB cC 90 wr g L c) ∧ Hid (Kep (fun b => b = g) w wr)) (fun _ s6 _ => n - (intOf s6).toNat)
    case atStart => exact ⟨i0, i0 + 1, l, rfl, by go_num, by omega, by omega, HNL.out, Lib.hid ⟨HF0.out.symm, rfl⟩, Lib.hid (HRB.out.bel KB.out), Lib.hid (Kep.of_bel KB.out)⟩
    case round =>
      obtain ⟨i, j, L, rfl, rfl, hij, hjn, hLn, hL, hRB, hK⟩ := hrel
      have HLN := Lib.hid hLn
      clear hLn
      by_cases hlt : j < n
      · obtain ⟨r, hr⟩ : ∃ r, L[j]? = some r := ⟨L[j]'(by rw [HLN.out]; exact hlt), List.getElem?_eq_getElem _⟩
        have hrl : l[j]? = some r := by
          have h1 : (L.drop j)[0]? = some r := by rw [List.getElem?_drop]; exact hr
          rw [hL.out.2, List.getElem?_drop] at h1
          exact h1
        have hnx : (l.take (j + 1)).filter (fun r => !q r) = (l.take j).filter (fun r => !q r) ++ (if q r then [] else [r]) := by
          rw [List.take_add_one, hrl, List.filter_append]
          congr 1
          show List.filter _ [r] = _
          cases hq : q r <;> simp [hq]
        obtain ⟨bb, oo, he, _, hrow⟩ := (hRB.out.rs c6C).at (by rw [HLN.out]; exact hlt) hr
        injection he with he
        injection he with he1 he2
        subst he1 he2
        have HDN := Lib.hid (show L.drop (j + 1) = l.drop (j + 1) by rw [← List.drop_drop, hL.out.2, List.drop_drop])
        have HNX := Lib.hid hnx
        have HRJ := Lib.hid hr
        obtain ⟨r1, r2, r3, r4, r5, r6⟩ := r
        have HC := Lib.hid (fun W hW => HF.out (r1, r2, r3, r4, r5, r6) W hW)
        obtain ⟨y, hy⟩ : ∃ y, q (r1, r2, r3, r4, r5, r6) = y := ⟨_, rfl⟩
        rw [hy] at HC HNX
        have hlt3 : (j : Int) < n := by omega
        have hi4 : (i : Int) < n := by omega
        rw [Nat.zero_add] at hrow
        obtain ⟨c0, c1, c2, c3, c4, c5⟩ := rng6 (rowC hrow)
        clear hr hrl hnx hrow hy
        obtain ⟨V, hV⟩ : ∃ V, wr.alloc (.cells #[.int .i64 r1, .int .i64 r2, .int .i64 r3, .int .i64 r4, .int .u64 r5, .int .u64 r6] 90) = V := ⟨_, rfl⟩
        have BV := Lib.hid (show Bel wr V by rw [← hV]; exact (Bel.refl _).alloc _)
        have P0 := Lib.hid (show Blk V wr.heap.size #[.int .i64 r1, .int .i64 r2, .int .i64 r3, .int .i64 r4, .int .u64 r5, .int .u64 r6] 90 by rw [← hV]; exact Blk.new _ _ _)
        obtain ⟨d0, d1, d2, d3, d4, d5⟩ := rng6 (rngB (C := [.int .i64 r1, .int .i64 r2, .int .i64 r3, .int .i64 r4, .int .u64 r5, .int .u64 r6]) P0.out)
        rw [Nat.zero_add] at d1 d2 d3 d4 d5
        go_wp2_with fail
        refine (HC.out _ (hK.out.trans (Kep.of_bel BV.out))).mono ?_
        rintro e V2 ⟨rfl, kb⟩
        have K2 := Lib.hid (hK.out.trans (Kep.of_bel (BV.out.trans kb)))
        have RB2 := Lib.hid (hRB.out.bel (BV.out.trans kb))
        have P2 := Lib.hid (P0.out.bel kb)
        clear kb c0 c1 c2 c3 c4 c5 d0 d1 d2 d3 d4 d5 hV HC hK hRB
        obtain ⟨g2, hg2⟩ : ∃ g2, wr.heap.size = g2 := ⟨_, rfl⟩
        rw [hg2] at P2 ⊢
        clear hg2 P0
        cases y
        · obtain ⟨d0, d1, d2, d3, d4, d5⟩ := rng6 (rngB (C := [.int .i64 r1, .int .i64 r2, .int .i64 r3, .int .i64 r4, .int .u64 r5, .int .u64 r6]) P2.out)
          rw [Nat.zero_add] at d1 d2 d3 d4 d5
          have HTH := Lib.hid (show V2.there g (i * 6) 6 from fun t ht => by
            obtain ⟨sp, hb, hsp⟩ := rb_list c6C RB2.out
            refine ⟨?_, hb.frozen _⟩
            have hlen : i * 6 + t < (flat cC L ++ sp).length := by rw [List.length_append, flat_len c6C, HLN.out]; omega
            rw [hb.cell (i * 6 + t) (by rw [List.getElem?_toArray]; exact List.getElem?_eq_getElem hlen)]
            rfl)
          go_upto_region 9 with fail
          have HONE := Lib.hid (show (#[.int .i64 r1, .int .i64 r2, .int .i64 r3, .int .i64 r4, .int .u64 r5, .int .u64 r6] : Array Value).all (·.oneCell') = true from all_oneCell_toArray (c6C.one (r1, r2, r3, r4, r5, r6)))
          iterate 13 (first | go_values | go_skip | go_guarded | go_step | go_upon | go_back)
          refine wpList_store_mid ?hgd 90 (.tmp 33) (.tmp 32) ?ho g (i * 6) #[.int .i64 r1, .int .i64 r2, .int .i64 r3, .int .i64 r4, .int .u64 r5, .int .u64 r6] ?hx ?hy ?ht ?hi ?h1 ?h
          case hgd => rfl
          case ho => rfl
          case hx => rfl
          case hy => rfl
          case ht => exact HTH.out
          case hi => exact info_c
          case h1 => exact HONE.out
          go_wp2_with fail
          go_roundw
          case rel =>
            refine ⟨i + 1, j + 1, L.set i (r1, r2, r3, r4, r5, r6), by go_num, by go_num, by omega, by omega, by rw [List.length_set]; exact HLN.out, Lib.hid ⟨?_, ?_⟩, Lib.hid (RB2.out.put c6C (by rw [HLN.out]; omega) (r1, r2, r3, r4, r5, r6)), Lib.hid (K2.out.trans (kep_setCells g _ _ _))⟩
            · rw [HNX.out, ← hL.out.1, List.take_add_one, List.getElem?_set_self (by rw [HLN.out]; omega), List.take_set_of_le (Nat.le_refl _)]
              rfl
            · rw [List.drop_set_of_lt (by omega)]; exact HDN.out
          case measure => simp [intOf]; omega
        · go_wp2_with fail
          go_roundw
          case rel => exact ⟨i, j + 1, L, rfl, by go_num, by omega, by omega, HLN.out, Lib.hid ⟨by rw [HNX.out, ← hL.out.1]; simp, HDN.out⟩, RB2, K2⟩
          case measure => simp [intOf]; omega
      · obtain rfl : j = n := by omega
        have hfin : L.take i = l.filter (fun r => !q r) := by rw [hL.out.1, List.take_of_length_le (by rw [HNL.out]; exact Nat.le_refl _)]
        obtain ⟨sp, hb, hsp⟩ := rb_list c6C hRB.out
        rw [HLN.out] at hsp
        have hYl : (flat cC L ++ sp).length = c * 6 := by rw [List.length_append, flat_len c6C, HLN.out, hsp]; omega
        obtain ⟨Y, hY⟩ : ∃ Y, flat cC L ++ sp = Y := ⟨_, rfl⟩
        rw [hY] at hb hYl
        obtain ⟨zs, hzl, hcl⟩ : ∃ zs : List Value, zs.length = (j - i) * 6 ∧ ∀ ty, (Builtin.clear_ #[22] ty #[.slice (some ⟨g, i * 6, none⟩) (j - i) (c - i)]).run Tryz.prog wr = .ok (.tuple #[]) (wr.setRow g (Y.take (i * 6) ++ zs ++ Y.drop (i * 6 + (j - i) * 6)).toArray) := by
          obtain ⟨zs, h1, h2⟩ := run_clearN wr 22 90 0 _ Tryz.underlying22 zero_vC (by show (cC (0, 0, 0, 0, 0, 0)).toArray.size = 6; rw [List.size_toArray]; exact c6C.len _) (fun v hv => c6C.one (0, 0, 0, 0, 0, 0) v hv) g (i * 6) (j - i) (c - i) Y _ (by omega) hb (by rw [hYl]; omega)
          exact ⟨zs, h1, fun ty => by simpa [Builtin.clear_] using h2⟩
        obtain ⟨Y2, hY2⟩ : ∃ Y2, Y.take (i * 6) ++ zs ++ Y.drop (i * 6 + (j - i) * 6) = Y2 := ⟨_, rfl⟩
        rw [hY2] at hcl
        have HCL := Lib.hid hcl
        have hs1 := fun W => slice_ltC g j c i W (by omega) (by omega)
        have hs2 := fun W => slice_hrC g j c i W (by omega)
        have HOW := Lib.hid (show OwnR cC 90 (wr.setRow g Y2.toArray) base (.slice (some ⟨g, 0, none⟩) i c) (l.filter (fun r => !q r)) by
          have hli : (l.filter (fun r => !q r)).length = i := by rw [← hfin, List.length_take, HLN.out]; omega
          have hYi : Y.take (i * 6) = flat cC (L.take i) := by rw [← hY, ← flat_take c6C]; exact List.take_append_of_le_length (by rw [flat_len c6C, HLN.out]; omega)
          refine ⟨by rw [flat_len c6C], .inr ⟨g, c, Y2.toArray, by rw [hli], hg, blk_setRow hb Y2.toArray, by rw [hli]; omega, hcap, ?_, ?_⟩⟩
          · rw [List.size_toArray, ← hY2, List.length_append, List.length_append, List.length_take, List.length_drop, hYl, hzl, Nat.min_eq_left (by omega)]; omega
          · rw [hli, ← hfin, ← hYi]
            show Y2.take (i * 6) = _
            rw [← hY2, List.append_assoc]
            exact List.take_left' (by rw [List.length_take, hYl]; omega))
        have HKE := Lib.hid (hK.out.trans (kep_setRow wr g Y2.toArray))
        clear hcl hY2 hzl hY hYl hb hsp hfin
        go_wp2_with ((with_reducible refine wpList_clear_run rfl _ 22 rfl _ rfl (HCL.out _) ?_))
        go_ret
        exact ⟨_, rfl, HOW.out, HKE.out.mono (fun k _ e => by rw [e]; rfl)⟩

set_option maxRecDepth 10000 in
set_option maxHeartbeats 2000000 in
theorem indexFuncP (q : R6 → Bool) (F : Nat) (lb : Array Value) (A : Option Addr) (n c : Nat) (l : List R6) (w : World) (hi : RS cP w A n c l) (hn : n ≤ 1000000000) (eg : ∀ args w, (callFunc F args).run Tryz.prog w = .ok (.enter F args) w)
    (hF : ∀ r W, Bel w W → Calls Tryz.prog F (#[.agg (cP r).toArray] ++ lb) W fun e W' => e = .returned (.bool (q r)) ∧ Bel W W') :
    Calls Tryz.prog 220 #[.slice A n c, .func (.func F) #[] lb] w fun e w' => e = .returned (.int .i64 (idxB q l 0)) ∧ Bel w w' := by
  have HR := Lib.hid hi
  have HF := Lib.hid hF
  clear hi hF
  go_enter Tryz.func220, Tryz.ntmps220
  go_wp2_with fail
  go_loopw [8] (fun i wr => ∃ k : Nat, k ≤ n ∧ i = .int .i64 k ∧ Hid ((∀ (j : Nat) (x : R6), j < k → l[j]? = some x → q x = false) ∧ Bel w wr)) (fun i _ => n - (intOf i).toNat)
  case atStart => exact ⟨0, Nat.zero_le _, rfl, Lib.hid ⟨fun j x hj => absurd hj (by omega), Bel.refl _⟩⟩
  case round =>
    obtain ⟨k, hk, rfl, hh⟩ := hrel
    by_cases hlt : k < n
    · obtain ⟨⟨r1, r2, r3, r4, r5, r6⟩, hr⟩ := HR.out.get hlt
      obtain ⟨b, o, rfl, hb, hrow⟩ := (HR.out.bel hh.out.2).at hlt hr
      have HRR := Lib.hid hr
      have HC := Lib.hid (fun W hW => HF.out (r1, r2, r3, r4, r5, r6) W hW)
      have hlt3 : (k : Int) < n := by omega
      obtain ⟨c0, c1, c2, c3, c4, c5⟩ := rng6 (rowP hrow)
      obtain ⟨y, hy⟩ : ∃ y, q (r1, r2, r3, r4, r5, r6) = y := ⟨_, rfl⟩
      have HY := Lib.hid hy
      rw [hy] at HC
      clear hr hrow hy
      go_wp2_with fail
      refine (HC.out _ hh.out.2).mono ?_
      rintro e V2 ⟨rfl, kb⟩
      have B2 := Lib.hid (hh.out.2.trans kb)
      clear kb c0 c1 c2 c3 c4 c5
      cases y
      · go_wp2_with fail
        go_roundw
        case rel =>
          refine ⟨k + 1, by omega, by go_num, Lib.hid ⟨fun j x hj hx => ?_, B2.out⟩⟩
          rcases Nat.lt_or_ge j k with h' | h'
          · exact hh.out.1 j x h' hx
          · obtain rfl : j = k := by omega
            have := HRR.out.symm.trans hx
            injection this with this
            rw [← this]; exact HY.out
        case measure => simp [intOf]; omega
      · go_wp2_with fail
        go_ret
        exact ⟨by rw [idxB_at q l k 0 _ HRR.out HY.out (fun j x hj hx => hh.out.1 j x hj hx), Nat.zero_add]; rfl, B2.out⟩
    · obtain rfl : k = n := by omega
      go_wp2_with fail
      go_ret
      exact ⟨by rw [idxB_no q l 0 (fun j x hx => hh.out.1 j x (by have := (List.getElem?_eq_some_iff.1 hx).1; have := HR.out.len; omega) hx)]; rfl, hh.out.2⟩
set_option maxRecDepth 100000 in
set_option maxHeartbeats 8000000 in
/-- Rows of which q tells true are taken out. -/
theorem deleteFuncP (q : R6 → Bool) (F : Nat) (lb : Array Value) (v : Value) (base : Nat) (l : List R6) (w : World) (h : OwnR cP 93 w base v l) (hn : l.length ≤ 1000000000) (eg : ∀ args w, (callFunc F args).run Tryz.prog w = .ok (.enter F args) w)
    (hF : ∀ r W, Kep (fun b => v.ownBlock = some b) w W → Calls Tryz.prog F (#[.agg (cP r).toArray] ++ lb) W fun e W' => e = .returned (.bool (q r)) ∧ Bel W W') :
    Calls Tryz.prog 202 #[v, .func (.func F) #[] lb] w fun e w' => ∃ v', e = .returned v' ∧ OwnR cP 93 w' base v' (l.filter (fun r => !q r)) ∧ Kep (fun b => v.ownBlock = some b) w w' := by
  obtain ⟨A, c, rfl, hrs, hcm, _⟩ := h.rs c6P
  obtain ⟨n, hnl⟩ : ∃ n, l.length = n := ⟨_, rfl⟩
  rw [hnl] at hrs hn hF ⊢
  have HNL := Lib.hid hnl
  have HO := Lib.hid h
  have HF := Lib.hid hF
  have IX := Lib.hid (indexFuncP q F lb A n c l w hrs (by omega) eg (fun r W hW => hF r W (Kep.of_bel hW)))
  obtain ⟨x, hx⟩ : ∃ x, idxB q l 0 = x := ⟨_, rfl⟩
  have HX := Lib.hid hx
  rw [hx] at IX
  have hway : (x = -1 ∧ l.filter (fun r => !q r) = l) ∨ ∃ i : Nat, x = i ∧ i < n ∧ (∃ r, l[i]? = some r ∧ q r = true) ∧ (l.take (i + 1)).filter (fun r => !q r) = l.take i := by
    by_cases hany : ∃ (i : Nat) (r : R6), l[i]? = some r ∧ q r = true
    · -- the first one
      have : ∀ (m : Nat), (∀ j, j < m → ∀ r, l[j]? = some r → q r = false) ∨ ∃ i, i < m ∧ (∃ r, l[i]? = some r ∧ q r = true) ∧ ∀ j, j < i → ∀ r, l[j]? = some r → q r = false := by
        intro m
        induction m with
        | zero => exact .inl fun j hj => absurd hj (by omega)
        | succ m ih =>
          rcases ih with h1 | ⟨i, h1, h2, h3⟩
          · by_cases hm : ∃ r, l[m]? = some r ∧ q r = true
            · exact .inr ⟨m, by omega, hm, h1⟩
            · refine .inl fun j hj r hr => ?_
              rcases Nat.lt_or_ge j m with hh | hh
              · exact h1 j hh r hr
              · obtain rfl : j = m := by omega
                cases hq : q r
                · rfl
                · exact absurd ⟨r, hr, hq⟩ hm
          · exact .inr ⟨i, by omega, h2, h3⟩
      obtain ⟨i0, r0, hr0, hq0⟩ := hany
      rcases this (i0 + 1) with h1 | ⟨i, h1, ⟨r, hr, hq⟩, h3⟩
      · rw [h1 i0 (by omega) r0 hr0] at hq0; cases hq0
      · refine .inr ⟨i, ?_, ?_, ⟨r, hr, hq⟩, ?_⟩
        · rw [← hx, idxB_at q l i 0 r hr hq (fun j y hj hy => h3 j hj y hy), Nat.zero_add]
        · have := (List.getElem?_eq_some_iff.1 hr).1; omega
        · rw [List.take_add_one, hr, List.filter_append]
          have e1 : (l.take i).filter (fun r => !q r) = l.take i := by
            refine List.filter_eq_self.2 fun y hy => ?_
            obtain ⟨j, hj, rfl⟩ := List.getElem_of_mem hy
            have hj2 : j < i := by rw [List.length_take] at hj; omega
            have hj3 : j < l.length := by rw [List.length_take] at hj; omega
            have := h3 j hj2 l[j] (List.getElem?_eq_getElem hj3)
            rw [List.getElem_take, this]; rfl
          rw [e1]
          simp [hq]
    · refine .inl ⟨?_, ?_⟩
      · rw [← hx]
        exact idxB_no q l 0 (fun j y hy => by
          cases hq : q y
          · rfl
          · exact absurd ⟨j, y, hy, hq⟩ hany)
      · refine List.filter_eq_self.2 fun y hy => ?_
        obtain ⟨j, hj, rfl⟩ := List.getElem_of_mem hy
        cases hq : q l[j]
        · rfl
        · exact absurd ⟨j, _, List.getElem?_eq_getElem hj, hq⟩ hany
  clear hF h hrs hnl hx
  rcases hway with ⟨rfl, hfl⟩ | ⟨i0, rfl, hi0, ⟨r0, hr0, hq0⟩, hf0⟩
  · rw [hfl]
    clear hfl
    go_enter Tryz.func202, Tryz.ntmps202
    go_wp2_with fail
    refine IX.out.mono ?_
    rintro e w1 ⟨rfl, kb⟩
    have KB := Lib.hid kb
    clear kb
    go_wp2_with fail
    go_ret
    refine ⟨_, rfl, ?_, Kep.of_bel KB.out⟩
    have := HO.out.bel KB.out
    rwa [HNL.out] at this
  · obtain ⟨g, cap, e3, hg, hrb, hcap⟩ := rb_own c6P HO.out (by rw [HNL.out]; omega)
    rw [HNL.out] at e3
    injection e3 with e1 e2 e3
    subst e1 e3
    have HRB := Lib.hid hrb
    have hnc := hrb.cap
    rw [HNL.out] at hnc
    have HR0 := Lib.hid hr0
    have HQ0 := Lib.hid hq0
    have HF0 := Lib.hid hf0
    have HF := Lib.hid (show ∀ r W, Kep (fun b => b = g) w W → Calls Tryz.prog F (#[.agg (cP r).toArray] ++ lb) W fun e W' => e = .returned (.bool (q r)) ∧ Bel W W' from fun r W hW => HF.out r W (hW.mono (fun k _ e => by rw [e]; rfl)))
    have hne1 : ((i0 : Int) == -1) = false := by rw [beq_eq_false_iff_ne]; omega
    clear hrb hr0 hq0 hf0 HO
    go_enter Tryz.func202, Tryz.ntmps202
    go_wp2_with fail
    refine IX.out.mono ?_
    rintro e w1 ⟨rfl, kb⟩
    have KB := Lib.hid kb
    clear kb IX
    have hi3 : (i0 : Int) + 1 ≤ n := by omega
    go_wp2_with fail
    go_loopw [5, 6] (fun s5 s6 wr => ∃ (i j : Nat) (L : List R6), s5 = .int .i64 i ∧ s6 = .int .i64 j ∧ i < j ∧ j ≤ n ∧ L.length = n ∧ Hid (L.take i = (l.take j).filter (fun r => !q r) ∧ L.drop j = l.drop j) ∧ Hid (RB cP 93 wr g L c) ∧ Hid (Kep (fun b => b = g) w wr)) (fun _ s6 _ => n - (intOf s6).toNat)
    case atStart => exact ⟨i0, i0 + 1, l, rfl, by go_num, by omega, by omega, HNL.out, Lib.hid ⟨HF0.out.symm, rfl⟩, Lib.hid (HRB.out.bel KB.out), Lib.hid (Kep.of_bel KB.out)⟩
    case round =>
      obtain ⟨i, j, L, rfl, rfl, hij, hjn, hLn, hL, hRB, hK⟩ := hrel
      have HLN := Lib.hid hLn
      clear hLn
      by_cases hlt : j < n
      · obtain ⟨r, hr⟩ : ∃ r, L[j]? = some r := ⟨L[j]'(by rw [HLN.out]; exact hlt), List.getElem?_eq_getElem _⟩
        have hrl : l[j]? = some r := by
          have h1 : (L.drop j)[0]? = some r := by rw [List.getElem?_drop]; exact hr
          rw [hL.out.2, List.getElem?_drop] at h1
          exact h1
        have hnx : (l.take (j + 1)).filter (fun r => !q r) = (l.take j).filter (fun r => !q r) ++ (if q r then [] else [r]) := by
          rw [List.take_add_one, hrl, List.filter_append]
          congr 1
          show List.filter _ [r] = _
          cases hq : q r <;> simp [hq]
        obtain ⟨bb, oo, he, _, hrow⟩ := (hRB.out.rs c6P).at (by rw [HLN.out]; exact hlt) hr
        injection he with he
        injection he with he1 he2
        subst he1 he2
        have HDN := Lib.hid (show L.drop (j + 1) = l.drop (j + 1) by rw [← List.drop_drop, hL.out.2, List.drop_drop])
        have HNX := Lib.hid hnx
        have HRJ := Lib.hid hr
        obtain ⟨r1, r2, r3, r4, r5, r6⟩ := r
        have HC := Lib.hid (fun W hW => HF.out (r1, r2, r3, r4, r5, r6) W hW)
        obtain ⟨y, hy⟩ : ∃ y, q (r1, r2, r3, r4, r5, r6) = y := ⟨_, rfl⟩
        rw [hy] at HC HNX
        have hlt3 : (j : Int) < n := by omega
        have hi4 : (i : Int) < n := by omega
        rw [Nat.zero_add] at hrow
        obtain ⟨c0, c1, c2, c3, c4, c5⟩ := rng6 (rowP hrow)
        clear hr hrl hnx hrow hy
        obtain ⟨V, hV⟩ : ∃ V, wr.alloc (.cells #[.int .i64 r1, .int .i64 r2, .int .i64 r3, .int .i64 r4, .int .i64 r5, .int .u64 r6] 93) = V := ⟨_, rfl⟩
        have BV := Lib.hid (show Bel wr V by rw [← hV]; exact (Bel.refl _).alloc _)
        have P0 := Lib.hid (show Blk V wr.heap.size #[.int .i64 r1, .int .i64 r2, .int .i64 r3, .int .i64 r4, .int .i64 r5, .int .u64 r6] 93 by rw [← hV]; exact Blk.new _ _ _)
        obtain ⟨d0, d1, d2, d3, d4, d5⟩ := rng6 (rngB (C := [.int .i64 r1, .int .i64 r2, .int .i64 r3, .int .i64 r4, .int .i64 r5, .int .u64 r6]) P0.out)
        rw [Nat.zero_add] at d1 d2 d3 d4 d5
        go_wp2_with fail
        refine (HC.out _ (hK.out.trans (Kep.of_bel BV.out))).mono ?_
        rintro e V2 ⟨rfl, kb⟩
        have K2 := Lib.hid (hK.out.trans (Kep.of_bel (BV.out.trans kb)))
        have RB2 := Lib.hid (hRB.out.bel (BV.out.trans kb))
        have P2 := Lib.hid (P0.out.bel kb)
        clear kb c0 c1 c2 c3 c4 c5 d0 d1 d2 d3 d4 d5 hV HC hK hRB
        obtain ⟨g2, hg2⟩ : ∃ g2, wr.heap.size = g2 := ⟨_, rfl⟩
        rw [hg2] at P2 ⊢
        clear hg2 P0
        cases y
        · obtain ⟨d0, d1, d2, d3, d4, d5⟩ := rng6 (rngB (C := [.int .i64 r1, .int .i64 r2, .int .i64 r3, .int .i64 r4, .int .i64 r5, .int .u64 r6]) P2.out)
          rw [Nat.zero_add] at d1 d2 d3 d4 d5
          have HTH := Lib.hid (show V2.there g (i * 6) 6 from fun t ht => by
            obtain ⟨sp, hb, hsp⟩ := rb_list c6P RB2.out
            refine ⟨?_, hb.frozen _⟩
            have hlen : i * 6 + t < (flat cP L ++ sp).length := by rw [List.length_append, flat_len c6P, HLN.out]; omega
            rw [hb.cell (i * 6 + t) (by rw [List.getElem?_toArray]; exact List.getElem?_eq_getElem hlen)]
            rfl)
          go_upto_region 9 with fail
          have HONE := Lib.hid (show (#[.int .i64 r1, .int .i64 r2, .int .i64 r3, .int .i64 r4, .int .i64 r5, .int .u64 r6] : Array Value).all (·.oneCell') = true from all_oneCell_toArray (c6P.one (r1, r2, r3, r4, r5, r6)))
          iterate 13 (first | go_values | go_skip | go_guarded | go_step | go_upon | go_back)
          refine wpList_store_mid ?hgd 93 (.tmp 33) (.tmp 32) ?ho g (i * 6) #[.int .i64 r1, .int .i64 r2, .int .i64 r3, .int .i64 r4, .int .i64 r5, .int .u64 r6] ?hx ?hy ?ht ?hi ?h1 ?h
          case hgd => rfl
          case ho => rfl
          case hx => rfl
          case hy => rfl
          case ht => exact HTH.out
          case hi => exact info_p
          case h1 => exact HONE.out
          go_wp2_with fail
          go_roundw
          case rel =>
            refine ⟨i + 1, j + 1, L.set i (r1, r2, r3, r4, r5, r6), by go_num, by go_num, by omega, by omega, by rw [List.length_set]; exact HLN.out, Lib.hid ⟨?_, ?_⟩, Lib.hid (RB2.out.put c6P (by rw [HLN.out]; omega) (r1, r2, r3, r4, r5, r6)), Lib.hid (K2.out.trans (kep_setCells g _ _ _))⟩
            · rw [HNX.out, ← hL.out.1, List.take_add_one, List.getElem?_set_self (by rw [HLN.out]; omega), List.take_set_of_le (Nat.le_refl _)]
              rfl
            · rw [List.drop_set_of_lt (by omega)]; exact HDN.out
          case measure => simp [intOf]; omega
        · go_wp2_with fail
          go_roundw
          case rel => exact ⟨i, j + 1, L, rfl, by go_num, by omega, by omega, HLN.out, Lib.hid ⟨by rw [HNX.out, ← hL.out.1]; simp, HDN.out⟩, RB2, K2⟩
          case measure => simp [intOf]; omega
      · obtain rfl : j = n := by omega
        have hfin : L.take i = l.filter (fun r => !q r) := by rw [hL.out.1, List.take_of_length_le (by rw [HNL.out]; exact Nat.le_refl _)]
        obtain ⟨sp, hb, hsp⟩ := rb_list c6P hRB.out
        rw [HLN.out] at hsp
        have hYl : (flat cP L ++ sp).length = c * 6 := by rw [List.length_append, flat_len c6P, HLN.out, hsp]; omega
        obtain ⟨Y, hY⟩ : ∃ Y, flat cP L ++ sp = Y := ⟨_, rfl⟩
        rw [hY] at hb hYl
        obtain ⟨zs, hzl, hcl⟩ : ∃ zs : List Value, zs.length = (j - i) * 6 ∧ ∀ ty, (Builtin.clear_ #[23] ty #[.slice (some ⟨g, i * 6, none⟩) (j - i) (c - i)]).run Tryz.prog wr = .ok (.tuple #[]) (wr.setRow g (Y.take (i * 6) ++ zs ++ Y.drop (i * 6 + (j - i) * 6)).toArray) := by
          obtain ⟨zs, h1, h2⟩ := run_clearN wr 23 93 0 _ Tryz.underlying23 zero_vP (by show (cP (0, 0, 0, 0, 0, 0)).toArray.size = 6; rw [List.size_toArray]; exact c6P.len _) (fun v hv => c6P.one (0, 0, 0, 0, 0, 0) v hv) g (i * 6) (j - i) (c - i) Y _ (by omega) hb (by rw [hYl]; omega)
          exact ⟨zs, h1, fun ty => by simpa [Builtin.clear_] using h2⟩
        obtain ⟨Y2, hY2⟩ : ∃ Y2, Y.take (i * 6) ++ zs ++ Y.drop (i * 6 + (j - i) * 6) = Y2 := ⟨_, rfl⟩
        rw [hY2] at hcl
        have HCL := Lib.hid hcl
        have hs1 := fun W => slice_ltP g j c i W (by omega) (by omega)
        have hs2 := fun W => slice_hrP g j c i W (by omega)
        have HOW := Lib.hid (show OwnR cP 93 (wr.setRow g Y2.toArray) base (.slice (some ⟨g, 0, none⟩) i c) (l.filter (fun r => !q r)) by
          have hli : (l.filter (fun r => !q r)).length = i := by rw [← hfin, List.length_take, HLN.out]; omega
          have hYi : Y.take (i * 6) = flat cP (L.take i) := by rw [← hY, ← flat_take c6P]; exact List.take_append_of_le_length (by rw [flat_len c6P, HLN.out]; omega)
          refine ⟨by rw [flat_len c6P], .inr ⟨g, c, Y2.toArray, by rw [hli], hg, blk_setRow hb Y2.toArray, by rw [hli]; omega, hcap, ?_, ?_⟩⟩
          · rw [List.size_toArray, ← hY2, List.length_append, List.length_append, List.length_take, List.length_drop, hYl, hzl, Nat.min_eq_left (by omega)]; omega
          · rw [hli, ← hfin, ← hYi]
            show Y2.take (i * 6) = _
            rw [← hY2, List.append_assoc]
            exact List.take_left' (by rw [List.length_take, hYl]; omega))
        have HKE := Lib.hid (hK.out.trans (kep_setRow wr g Y2.toArray))
        clear hcl hY2 hzl hY hYl hb hsp hfin
        go_wp2_with ((with_reducible refine wpList_clear_run rfl _ 23 rfl _ rfl (HCL.out _) ?_))
        go_ret
        exact ⟨_, rfl, HOW.out, HKE.out.mono (fun k _ e => by rw [e]; rfl)⟩
end Ho
end Go.Proofs.YtneajcoiemkfbaaGreat
