/-
  The walk of the law ActiveStays: whoever is in, and gets more, stays in; by what Diff tells one comes from one set to the next. Conditions: the arguments read as words and bools.
-/
import Derived.Test.YtmbodfmdaocppaaAcM6
import Derived.Deep.OwnRows
namespace Go.Proofs.Ytmbodfmdaocppaa
open Go.RowKit Go.Shelf
set_option linter.unusedVariables false
set_option linter.unusedSimpArgs false
namespace Ac
open Kk Pm Ro

theorem pick_a (x n : Int) (w : World) (x0 : -9223372036854775808 ≤ x) (x1 : x ≤ 9223372036854775807) (n0 : 0 < n) (n1 : n ≤ 4611686018427387904) :
    Calls Try.prog 27 #[.int .i64 x, .int .i64 n] w fun e w' => e = .returned (.int .i64 (x % n)) ∧ w = w' := by
  have t0 := Int.emod_nonneg x (b := n) (by omega)
  have t1 := Int.emod_lt_of_pos x n0
  have hb : (x.tmod n = x % n ∨ (x.tmod n < 0 ∧ x.tmod n + n = x % n)) ∧ -n < x.tmod n ∧ x.tmod n < n := by
    rw [Int.tmod_eq_emod]
    split <;> rename_i h
    · exact ⟨.inl (by omega), by omega, by omega⟩
    · have hne : x % n ≠ 0 := fun e => h (.inr (Int.dvd_of_emod_eq_zero e))
      exact ⟨.inr ⟨by omega, by omega⟩, by omega, by omega⟩
  obtain ⟨ht, b0⟩ := hb
  obtain ⟨T, hT⟩ : ∃ T, x.tmod n = T := ⟨_, rfl⟩
  have hw : IntKind.i64.wrap T = T := IntWalk.i64_in _ (by omega)
  rw [hT] at ht b0
  obtain ⟨E, hE⟩ : ∃ E, x % n = E := ⟨_, rfl⟩
  rw [hE] at ht t0 t1 ⊢
  clear hE
  rcases ht with h | ⟨h1, h2⟩
  · subst h
    go_enter Try.func27, Try.ntmps27
    go_wp2
    go_ret
    exact ⟨rfl, rfl⟩
  · have H2 := Lib.hid h2
    clear h2
    go_enter Try.func27, Try.ntmps27
    go_wp2
    go_ret
    exact ⟨by rw [← H2.out]; rfl, rfl⟩

theorem made_w (N : Nat) (hN : N ≤ 1000000) (W : World) : (Instr.makeSlice 22 (.int .i64 (N : Int)) (.int .i64 (N : Int))).run Try.prog W = .ok (.slice (some ⟨W.heap.size, 0, none⟩) N N) (W.alloc (.cells (madeCells #[Value.int .u64 0] N) 36)) := by
  obtain ⟨i0, h1, hz0, hz1, hz2⟩ := info_parts1 info_u
  exact run_make_row (P := Try.prog) 22 36 i0 (.int .u64 0) Try.underlying22 h1 hz0 hz1 rfl .i64 .i64 N (by rw [hz2]; omega) (by omega) W
theorem flat_u : ∀ l : List Int, Rw.flat uR l = l.map (Value.int .u64)
  | [] => rfl
  | x :: l => by
    show [Value.int .u64 x] ++ Rw.flat uR l = _
    rw [flat_u l]; rfl
theorem made_rb {W : World} {g N : Nat} (h : Blk W g (madeCells #[Value.int .u64 0] N) 36) : Rw.RB uR 36 W g (List.replicate N 0) N := by
  refine ⟨⟨_, h, ?_, ?_⟩, by simp⟩
  · rw [flat_u]
    apply List.ext_getElem?
    intro i
    simp [madeCells, List.getElem?_map, List.getElem?_replicate, List.getElem?_take, uR]
    try split <;> simp_all [Nat.mod_one]
  · simp [madeCells, uR]
theorem blk_setRow {w : World} {g : Nat} {cur : Array Value} {t : TypeId} (h : Blk w g cur t) (X : Array Value) : Blk (w.setRow g X) g X t := setRow_heap w g cur X t (0, 0) h
theorem kep_setRow (w : World) (g : Nat) (X : Array Value) : Kep (fun b => b = g) w (w.setRow g X) :=
  ⟨rfl, rfl, rfl, by simp [World.setRow], fun k _ hk => setRow_other w g k X hk⟩
/-- copy(more, tokens) -/
theorem copy_run {w : World} {g N : Nat} {T : Option Addr} {tn tc : Nat} {t : List Int} (hrb : Rw.RB uR 36 w g (List.replicate N 0) N) (ht : Rw.RS uR w T tn tc t) (hN : tn ≤ N) (ty : TypeId) :
    ∃ W, (Builtin.copy_ #[22, 22] ty #[.slice (some ⟨g, 0, none⟩) N N, .slice T tn tc]).run Try.prog w = .ok (goInt tn) W ∧ Rw.RB uR 36 W g (t ++ List.replicate (N - tn) 0) N ∧ Kep (fun b => b = g) w W := by
  have hsz : (Try.prog.info? 36).map (·.size) = some 1 := by kernel_rfl
  rcases Nat.eq_zero_or_pos tn with h0 | h0
  · subst h0
    have ht0 : t = [] := List.length_eq_zero_iff.1 ht.len
    subst ht0
    refine ⟨w, run_copy_none (P := Try.prog) w _ _ ty 36 (some ⟨g, 0, none⟩) T N N 0 tc Try.underlying22 hsz (Nat.zero_min _), ?_, Kep.refl _ _⟩
    simpa using hrb
  · obtain ⟨b, o, rfl, _, _⟩ := ht.row h0
    obtain ⟨cur, hc, htk, hcs⟩ := hrb.blk
    have hl : (Rw.flat uR t).length = tn := by rw [Rw.flat_len, ht.len]; exact Nat.mul_one _
    have hcz : cur.size = N := by rw [hcs]; exact Nat.mul_one _
    have hrun := run_copy_row (P := Try.prog) w 22 22 ty 36 g 0 N N ⟨b, o, none⟩ tn tc cur 36 (Rw.flat uR t) Try.underlying22 hsz hc (by rw [hl]; exact (Nat.min_eq_left hN).symm) (Rw.rs_news uR ht) (by rw [hl, hcz]; omega) (Rw.flat_one uR t)
    rw [hl] at hrun
    refine ⟨_, hrun, ⟨⟨_, blk_setRow hc _, ?_, ?_⟩, ?_⟩, kep_setRow _ _ _⟩
    · have hcur : cur.toList = Rw.flat uR (List.replicate N 0) := by
        rw [← htk, List.length_replicate]
        exact (List.take_of_length_le (by rw [Array.length_toList, hcs]; exact Nat.le_refl _)).symm
      rw [List.take_zero, List.nil_append, hcur, flat_u, flat_u, flat_u]
      rw [List.length_append, ht.len, List.length_replicate]
      show List.take ((tn + (N - tn)) * 1) (t.map (Value.int .u64) ++ List.drop (0 + tn) ((List.replicate N 0).map (Value.int .u64))) = _
      rw [← List.map_drop, ← List.map_append, ← List.map_take]
      congr 1
      rw [List.drop_replicate, List.take_of_length_le (by rw [List.length_append, ht.len, List.length_replicate]; omega), Nat.zero_add]
    · rw [List.size_toArray, List.take_zero, List.nil_append, List.length_append, hl, List.length_drop, Array.length_toList, hcz]
      show _ = N * 1
      omega
    · rw [List.length_append, ht.len, List.length_replicate]; omega

set_option maxRecDepth 100000 in
set_option maxHeartbeats 32000000 in
theorem staysLaw (T : Option Addr) (tn tc : Nat) (t : List Int) (M : Option Addr) (mn mc : Nat) (m : List Bool) (most up dw byy : Int) (w : World) (ht : Rw.RS uR w T tn tc t) (hm : Rw.RS bR w M mn mc m) (hwt : Wds t) (h1 : tn ≤ 9223372036854775807) (h2 : mn ≤ 9223372036854775807) (m0 : -9223372036854775808 ≤ most) (m1 : most ≤ 9223372036854775807) (u0 : -9223372036854775808 ≤ up) (u1 : up ≤ 9223372036854775807) (d0 : -9223372036854775808 ≤ dw) (d1 : dw ≤ 9223372036854775807) (b0 : 0 ≤ byy) (b1 : byy ≤ 18446744073709551615) :
    Calls Try.prog 6 #[.slice T tn tc, .slice M mn mc, .int .i64 most, .int .i64 up, .int .i64 dw, .int .u64 byy] w fun e w' => e = .returned (.bool true) ∧ Kk.Bel w w' := by
  have KN := Lib.hid (known w)
  have HT := Lib.hid ht
  have HM := Lib.hid hm
  have HLT := Lib.hid ht.len
  have HLM := Lib.hid hm.len
  have HW := Lib.hid hwt
  clear ht hm hwt
  go_enter Try.func6, Try.ntmps6
  go_wp2_with fail
  refine KN.out.mono ?_
  rintro e w1 ⟨rfl, kb⟩
  have K1 := Lib.hid kb
  clear kb KN
  by_cases hb : tn ≤ 30 ∧ mn ≤ 30 ∧ 2 ≤ mn
  case neg =>
    by_cases h3 : (30 : Int) < tn
    · go_wp2_with fail
      go_ret
      exact ⟨rfl, K1.out⟩
    · by_cases h4 : (30 : Int) < mn
      · go_wp2_with fail
        go_ret
        exact ⟨rfl, K1.out⟩
      · have h5 : (mn : Int) < 2 := by omega
        go_wp2_with fail
        go_ret
        exact ⟨rfl, K1.out⟩
  obtain ⟨hb1, hb2, hb3⟩ := hb
  have h3 : ¬ (30 : Int) < tn := by omega
  have h4 : ¬ (30 : Int) < mn := by omega
  have h5 : ¬ (mn : Int) < 2 := by omega
  obtain ⟨N, hN⟩ : ∃ N, max tn mn = N := ⟨_, rfl⟩
  have hNi := fun V => max_run (tn : Int) (mn : Int) V
  rw [show max (tn : Int) (mn : Int) = (N : Int) by omega] at hNi
  have hNb : N ≤ 30 := by omega
  have hNm : mn ≤ N := by omega
  have hNt : tn ≤ N := by omega
  have HNA := Lib.hid (show all t m = N by unfold all; rw [HLT.out, HLM.out, hN])
  obtain ⟨C, hC⟩ : ∃ C, ch t m most = C := ⟨_, rfl⟩
  have HC := Lib.hid hC
  have HCL := Lib.hid (show C.length = N by rw [← hC]; unfold ch; rw [List.length_map, List.length_range, HNA.out])
  have C1 := Lib.hid (Ac.choose T tn tc t M mn mc m most w1 (HT.out.bel K1.out) (HM.out.bel K1.out) (by omega) (by omega) m0 m1)
  rw [hC] at C1
  clear hN h1 h2 hC
  go_wp2_with fail
  refine C1.out.mono ?_
  rintro e w2 ⟨v2, rfl, ho2, kb⟩
  obtain ⟨Ai, ci, rfl, hr2, _⟩ := ho2.rs bR
  rw [HCL.out] at hr2 ⊢
  have K2 := Lib.hid (K1.out.trans kb)
  have HI := Lib.hid hr2
  clear kb ho2 hr2 C1 K1
  have hne : ((N : Int) != N) = false := by simp
  obtain ⟨u, hu⟩ : ∃ u : Nat, up % (mn : Int) = u := ⟨(up % (mn : Int)).toNat, by have := Int.emod_nonneg up (b := (mn : Int)) (by omega); omega⟩
  obtain ⟨d, hd⟩ : ∃ d : Nat, dw % (mn : Int) = d := ⟨(dw % (mn : Int)).toNat, by have := Int.emod_nonneg dw (b := (mn : Int)) (by omega); omega⟩
  have hub : u < mn := by have := Int.emod_lt_of_pos up (b := (mn : Int)) (by omega); omega
  have hdb : d < mn := by have := Int.emod_lt_of_pos dw (b := (mn : Int)) (by omega); omega
  have P1 := Lib.hid (fun V => pick_a up mn V u0 u1 (by omega) (by omega))
  have P2 := Lib.hid (fun V => pick_a dw mn V d0 d1 (by omega) (by omega))
  rw [hu] at P1
  rw [hd] at P2
  clear hu hd u0 u1 d0 d1
  go_wp2_with fail
  refine (P1.out _).mono ?_
  rintro e wa ⟨rfl, rfl⟩
  go_wp2_with fail
  refine (P2.out _).mono ?_
  rintro e wa ⟨rfl, rfl⟩
  clear P1 P2
  by_cases hud : u = d
  · subst hud
    have hee : ((u : Int) == u) = true := by simp
    go_wp2_with fail
    go_ret
    exact ⟨rfl, K2.out⟩
  have hee : ((u : Int) == d) = false := by simp; omega
  have hmk := made_w N (by omega)
  have CB := Lib.hid (fun V (hV : Kk.Bel w2 V) => copy_b M mn mc m V ((HM.out.bel K2.out).bel hV) (by omega))
  go_upto_region 10 with fail
  have HRM := Lib.hid (show ∀ (W : World), Kk.Bel w2 W → OwnB W w2.heap.size (.slice none 0 0) [] from fun W _ => Rw.OwnR.nil_ _ _ _ _)
  go_cut [17, 18] (fun s17 s18 wx => ∃ gm gf cf : Nat, s17 = .slice (some ⟨gm, 0, none⟩) N N ∧ s18 = .slice (some ⟨gf, 0, none⟩) mn cf ∧ Hid (Rw.RB uR 36 wx gm (List.replicate N 0) N ∧ Rw.RB bR 4 wx gf m cf ∧ w2.heap.size ≤ gm ∧ w2.heap.size ≤ gf ∧ Kk.Bel w2 wx))
  case first =>
    refine wp_region_held_drew (S := fun Vx => Kk.Bel w2 Vx) (by kernel_rfl) (Kk.Bel.refl _).drew (fun hS0 => ?_)
    obtain ⟨w6, hw6⟩ : ∃ w6, World.drew w2 = w6 := ⟨_, rfl⟩
    rw [hw6] at hS0 ⊢
    clear hw6
    refine wpAnyH_take (i := 0) (oi := { dst := some 64, op := .move (.tmp 0), type := 22, pos := "outright.go:105", after := #[], guard := none }) (v := .slice T tn tc) rfl (by kernel_rfl) (by kernel_rfl) (by kernel_rfl) (fun _ _ _ h => h) (Or.inl ⟨by rfl, by intro w hSw; clear hSw; go_simp⟩) hS0 ?_
    try simp only [Act.put, List.setIfInBounds_toArray, List.set_cons_zero, List.set_cons_succ]
    refine wpAnyH_take (i := 1) (oi := { dst := some 65, op := .call { callee := .builtin .len, args := #[.tmp 64], argTypes := #[22] }, type := 3, pos := "outright.go:105", after := #[{ on := 0, ground := .data }], guard := none }) (v := .int .i64 tn) rfl (by kernel_rfl) (by kernel_rfl) (by kernel_rfl) (fun _ _ _ h => h) (Or.inl ⟨by rfl, by intro w hSw; clear hSw; go_simp⟩) hS0 ?_
    try simp only [Act.put, List.setIfInBounds_toArray, List.set_cons_zero, List.set_cons_succ]
    refine wpAnyH_take (i := 2) (oi := { dst := some 66, op := .move (.tmp 1), type := 23, pos := "outright.go:105", after := #[], guard := none }) (v := .slice M mn mc) rfl (by kernel_rfl) (by kernel_rfl) (by kernel_rfl) (fun _ _ _ h => h) (Or.inl ⟨by rfl, by intro w hSw; clear hSw; go_simp⟩) hS0 ?_
    try simp only [Act.put, List.setIfInBounds_toArray, List.set_cons_zero, List.set_cons_succ]
    refine wpAnyH_take (i := 3) (oi := { dst := some 67, op := .call { callee := .builtin .len, args := #[.tmp 66], argTypes := #[23] }, type := 3, pos := "outright.go:105", after := #[{ on := 2, ground := .data }], guard := none }) (v := .int .i64 mn) rfl (by kernel_rfl) (by kernel_rfl) (by kernel_rfl) (fun _ _ _ h => h) (Or.inl ⟨by rfl, by intro w hSw; clear hSw; go_simp⟩) hS0 ?_
    try simp only [Act.put, List.setIfInBounds_toArray, List.set_cons_zero, List.set_cons_succ]
    refine wpAnyH_take (i := 4) (oi := { dst := some 68, op := .call { callee := .builtin .max, args := #[.tmp 65, .tmp 67], argTypes := #[3, 3] }, type := 3, pos := "outright.go:105", after := #[{ on := 1, ground := .data }, { on := 3, ground := .data }], guard := none }) (v := .int .i64 N) rfl (by kernel_rfl) (by kernel_rfl) (by kernel_rfl) (fun _ _ _ h => h) (Or.inl ⟨by rfl, by intro w hSw; clear hSw; go_simp⟩) hS0 ?_
    try simp only [Act.put, List.setIfInBounds_toArray, List.set_cons_zero, List.set_cons_succ]
    refine wpAnyH_take (i := 6) (oi := { dst := some 70, op := .move (.tmp 1), type := 23, pos := "outright.go:105", after := #[], guard := none }) (v := .slice M mn mc) rfl (by kernel_rfl) (by kernel_rfl) (by kernel_rfl) (fun _ _ _ h => h) (Or.inl ⟨by rfl, by intro w hSw; clear hSw; go_simp⟩) hS0 ?_
    try simp only [Act.put, List.setIfInBounds_toArray, List.set_cons_zero, List.set_cons_succ]
    refine wpAnyH_ready (rs := [5, 7]) (by kernel_rfl) (by simp) ?_
    refine AllReadyH.cons (o := { dst := some 69, op := Op.makeSlice 22 (.tmp 68) (.tmp 68), type := 22, pos := "outright.go:105", after := #[{ on := 4, ground := .data }, { on := 4, ground := .data }], guard := none }) rfl (fun K hK => ?_) (AllReadyH.cons (o := { dst := some 71, op := .call { callee := .value (.func 10), args := #[.tmp 70], argTypes := #[23] }, type := 23, pos := "outright.go:105", after := #[{ on := 6, ground := .data }], guard := none }) rfl (fun K hK => ?_) AllReadyH.nil)
    · go_simp
      refine hK.out _ _ (hS0.alloc _) (fun hS1 => ?_)
      clear hK K
      try simp only [Act.put, List.setIfInBounds_toArray, List.set_cons_zero, List.set_cons_succ]
      have gmb := Blk.new w6 (madeCells #[Value.int .u64 0] N) 36
      have gml := Lib.hid (Below.size hS0)
      generalize hvq : World.alloc w6 (Obj.cells (madeCells #[Value.int .u64 0] N) 36) = v1 at gmb hS1 ⊢
      have gmk : Bel w6 v1 := by rw [← hvq]; exact (Bel.refl _).alloc _
      clear hvq
      obtain ⟨gm, hgq⟩ : ∃ g, (World.heap w6).size = g := ⟨_, rfl⟩
      rw [hgq] at gmb gml ⊢
      clear hgq
      have gmb := Lib.hid gmb
      refine wpAnyH_ready (rs := [7]) (by kernel_rfl) (by simp) ?_
      refine AllReadyH.cons (o := { dst := some 71, op := .call { callee := .value (.func 10), args := #[.tmp 70], argTypes := #[23] }, type := 23, pos := "outright.go:105", after := #[{ on := 6, ground := .data }], guard := none }) rfl (fun K hK => ?_) AllReadyH.nil
      go_simp
      refine (CB.out _ hS1).mono ?_
      rintro e v2 ⟨vf, rfl, hof, kbf⟩
      go_wp2_with fail
      refine hK.out _ _ (hS1.trans kbf) (fun hS2 => ?_)
      clear hK K
      try simp only [Act.put, List.setIfInBounds_toArray, List.set_cons_zero, List.set_cons_succ]
      refine wpAnyH_take (i := 8) (oi := { dst := some 17, op := .assign (.tmp 69), type := 22, pos := "outright.go:105", after := #[{ on := 5, ground := .data }, { on := 7, ground := .chain }, { on := 0, ground := .phase }, { on := 1, ground := .phase }, { on := 2, ground := .phase }, { on := 3, ground := .phase }, { on := 4, ground := .phase }, { on := 5, ground := .phase }, { on := 6, ground := .textOnly .lateStores }, { on := 7, ground := .textOnly .lateStoresUnsure }], guard := none }) (v := .slice (some ⟨gm, 0, none⟩) N N) rfl (by kernel_rfl) (by kernel_rfl) (by kernel_rfl) (fun _ _ _ h => h) (Or.inl ⟨by rfl, by intro w hSw; clear hSw; go_simp⟩) hS2 ?_
      try simp only [Act.put, List.setIfInBounds_toArray, List.set_cons_zero, List.set_cons_succ]
      refine wpAnyH_take (i := 9) (oi := { dst := some 18, op := .assign (.tmp 71), type := 23, pos := "outright.go:105", after := #[{ on := 7, ground := .data }, { on := 8, ground := .chain }, { on := 0, ground := .phase }, { on := 1, ground := .phase }, { on := 2, ground := .phase }, { on := 3, ground := .phase }, { on := 4, ground := .phase }, { on := 5, ground := .phase }, { on := 6, ground := .phase }, { on := 7, ground := .phase }, { on := 8, ground := .phase }], guard := none }) (v := vf) rfl (by kernel_rfl) (by kernel_rfl) (by kernel_rfl) (fun _ _ _ h => h) (Or.inl ⟨by rfl, by intro w hSw; clear hSw; go_simp⟩) hS2 ?_
      try simp only [Act.put, List.setIfInBounds_toArray, List.set_cons_zero, List.set_cons_succ]
      obtain ⟨w7, hw7⟩ : ∃ w7, v2 = w7 := ⟨_, rfl⟩
      have GM7 := Lib.hid (show Blk w7 gm (madeCells #[Value.int .u64 0] N) 36 from by rw [← hw7]; first | exact gmb.out | exact gmb.out.bel kbf)
      have FW7 := Lib.hid (show OwnB w7 w2.heap.size vf m from by rw [← hw7]; first | exact (hof.bel gmk).mono (by first | exact Nat.le_refl _ | exact gml.out | exact Below.size (by assumption)) | exact hof.mono (by first | exact Nat.le_refl _ | exact gml.out | exact Nat.le_trans gml.out (Below.size gmk) | exact Below.size (by assumption)))
      have GL7 := Lib.hid (show w2.heap.size ≤ gm from by first | exact gml.out | exact Nat.le_trans (Below.size (by assumption)) gml.out)
      have K7 := Lib.hid (show Kk.Bel w2 w7 from by rw [← hw7]; exact hS2)
      obtain ⟨gf, cf, hvf, hgf, hrbf, _⟩ := Rw.rb_own bR FW7.out (by rw [HLM.out]; omega)
      rw [HLM.out] at hvf
      subst hvf
      have HRF := Lib.hid hrbf
      have HGF := Lib.hid hgf
      refine wpAnyH_done (by kernel_rfl) ?_ _
      try rw [hw7]
      go_wp2_with fail
      go_meet
      exact ⟨gm, gf, cf, rfl, rfl, Lib.hid ⟨made_rb GM7.out, HRF.out, GL7.out, HGF.out, K7.out⟩⟩
    · go_simp
      refine (CB.out _ hS0).mono ?_
      rintro e v1 ⟨vf, rfl, hof, kbf⟩
      go_wp2_with fail
      refine hK.out _ _ (hS0.trans kbf) (fun hS1 => ?_)
      clear hK K
      try simp only [Act.put, List.setIfInBounds_toArray, List.set_cons_zero, List.set_cons_succ]
      refine wpAnyH_ready (rs := [5]) (by kernel_rfl) (by simp) ?_
      refine AllReadyH.cons (o := { dst := some 69, op := Op.makeSlice 22 (.tmp 68) (.tmp 68), type := 22, pos := "outright.go:105", after := #[{ on := 4, ground := .data }, { on := 4, ground := .data }], guard := none }) rfl (fun K hK => ?_) AllReadyH.nil
      go_simp
      refine hK.out _ _ (hS1.alloc _) (fun hS2 => ?_)
      clear hK K
      try simp only [Act.put, List.setIfInBounds_toArray, List.set_cons_zero, List.set_cons_succ]
      have gmb := Blk.new v1 (madeCells #[Value.int .u64 0] N) 36
      have gml := Lib.hid (Below.size hS1)
      generalize hvq : World.alloc v1 (Obj.cells (madeCells #[Value.int .u64 0] N) 36) = v2 at gmb hS2 ⊢
      have gmk : Bel v1 v2 := by rw [← hvq]; exact (Bel.refl _).alloc _
      clear hvq
      obtain ⟨gm, hgq⟩ : ∃ g, (World.heap v1).size = g := ⟨_, rfl⟩
      rw [hgq] at gmb gml ⊢
      clear hgq
      have gmb := Lib.hid gmb
      refine wpAnyH_take (i := 8) (oi := { dst := some 17, op := .assign (.tmp 69), type := 22, pos := "outright.go:105", after := #[{ on := 5, ground := .data }, { on := 7, ground := .chain }, { on := 0, ground := .phase }, { on := 1, ground := .phase }, { on := 2, ground := .phase }, { on := 3, ground := .phase }, { on := 4, ground := .phase }, { on := 5, ground := .phase }, { on := 6, ground := .textOnly .lateStores }, { on := 7, ground := .textOnly .lateStoresUnsure }], guard := none }) (v := .slice (some ⟨gm, 0, none⟩) N N) rfl (by kernel_rfl) (by kernel_rfl) (by kernel_rfl) (fun _ _ _ h => h) (Or.inl ⟨by rfl, by intro w hSw; clear hSw; go_simp⟩) hS2 ?_
      try simp only [Act.put, List.setIfInBounds_toArray, List.set_cons_zero, List.set_cons_succ]
      refine wpAnyH_take (i := 9) (oi := { dst := some 18, op := .assign (.tmp 71), type := 23, pos := "outright.go:105", after := #[{ on := 7, ground := .data }, { on := 8, ground := .chain }, { on := 0, ground := .phase }, { on := 1, ground := .phase }, { on := 2, ground := .phase }, { on := 3, ground := .phase }, { on := 4, ground := .phase }, { on := 5, ground := .phase }, { on := 6, ground := .phase }, { on := 7, ground := .phase }, { on := 8, ground := .phase }], guard := none }) (v := vf) rfl (by kernel_rfl) (by kernel_rfl) (by kernel_rfl) (fun _ _ _ h => h) (Or.inl ⟨by rfl, by intro w hSw; clear hSw; go_simp⟩) hS2 ?_
      try simp only [Act.put, List.setIfInBounds_toArray, List.set_cons_zero, List.set_cons_succ]
      obtain ⟨w7, hw7⟩ : ∃ w7, v2 = w7 := ⟨_, rfl⟩
      have GM7 := Lib.hid (show Blk w7 gm (madeCells #[Value.int .u64 0] N) 36 from by rw [← hw7]; first | exact gmb.out | exact gmb.out.bel kbf)
      have FW7 := Lib.hid (show OwnB w7 w2.heap.size vf m from by rw [← hw7]; first | exact (hof.bel gmk).mono (by first | exact Nat.le_refl _ | exact gml.out | exact Below.size (by assumption)) | exact hof.mono (by first | exact Nat.le_refl _ | exact gml.out | exact Nat.le_trans gml.out (Below.size gmk) | exact Below.size (by assumption)))
      have GL7 := Lib.hid (show w2.heap.size ≤ gm from by first | exact gml.out | exact Nat.le_trans (Below.size (by assumption)) gml.out)
      have K7 := Lib.hid (show Kk.Bel w2 w7 from by rw [← hw7]; exact hS2)
      obtain ⟨gf, cf, hvf, hgf, hrbf, _⟩ := Rw.rb_own bR FW7.out (by rw [HLM.out]; omega)
      rw [HLM.out] at hvf
      subst hvf
      have HRF := Lib.hid hrbf
      have HGF := Lib.hid hgf
      refine wpAnyH_done (by kernel_rfl) ?_ _
      try rw [hw7]
      go_wp2_with fail
      go_meet
      exact ⟨gm, gf, cf, rfl, rfl, Lib.hid ⟨made_rb GM7.out, HRF.out, GL7.out, HGF.out, K7.out⟩⟩
  case rest =>
    obtain ⟨gm, gf, cf, rfl, rfl, hh⟩ := hcut
    obtain ⟨hrm, hrf, hgm, hgf, hk7⟩ := hh.out
    have HRF := Lib.hid hrf
    have HGM := Lib.hid hgm
    have HGF := Lib.hid hgf
    have K7 := Lib.hid hk7
    have hmf : gm ≠ gf := fun e => by
      obtain ⟨c1, q1, _⟩ := hrm.blk
      obtain ⟨c2, q2, _⟩ := hrf.blk
      subst e
      exact absurd (Rw.blk_ty q1 q2) (by decide)
    obtain ⟨w8, hcp, hrb8, hk8⟩ := copy_run hrm ((HT.out.bel K2.out).bel hk7) hNt 3
    obtain ⟨L0, hL0⟩ : ∃ L0, t ++ List.replicate (N - tn) 0 = L0 := ⟨_, rfl⟩
    have HL0 := Lib.hid (show L0.length = N ∧ ∀ k, tk L0 k = tk t k from ⟨by rw [← hL0, List.length_append, HLT.out, List.length_replicate]; omega, fun k => by rw [← hL0]; exact tk_pad t _ k⟩)
    rw [hL0] at hrb8
    have K8 := Lib.hid (show Kk.Bel w2 w8 from Kep.bel hk7 hk8 (fun i h => by rw [h]; exact hgm))
    have HRM8 := Lib.hid hrb8
    have HRF8 := Lib.hid (HRF.out.kep hk8 (fun e => hmf e.symm))
    have huN : u < N := by omega
    have hrs8 := hrb8.rs
    rw [HL0.out.1] at hrs8
    obtain ⟨bb, oo, hbo, _, cy⟩ := word_at hrs8 huN
    injection hbo with hbo
    injection hbo with e1 e2
    subst e1 e2
    rw [Nat.zero_add, HL0.out.2] at cy
    have hyb := HW.out u
    obtain ⟨y, hy⟩ : ∃ y, tk t u = y := ⟨_, rfl⟩
    have HY := Lib.hid hy
    rw [hy] at cy hyb
    have hsub : IntKind.u64.wrap (18446744073709551615 - byy) = 18446744073709551615 - byy := IntWalk.u64_in _ (by omega)
    have hu3 : (u : Int) < N := by omega
    have hu0 : (0 : Int) ≤ u := by omega
    clear hh hrm hrf hgm hgf hk7 hk8 hL0 hrs8 hy HRF hrb8 HRM
    go_upto_if 81 with fail
    clear hcp
    go_cut [5] (fun s5 wx => ∃ b2 : Int, s5 = .int .u64 b2 ∧ w8 = wx ∧ Hid (0 ≤ b2 ∧ y + b2 ≤ 18446744073709551615))
    case first =>
      by_cases hov : 18446744073709551615 - byy < y
      · go_wp2_with fail
        go_meet
        exact ⟨0, rfl, by first | rfl | trivial, Lib.hid ⟨by omega, by omega⟩⟩
      · go_wp2_with fail
        go_meet
        exact ⟨byy, rfl, by first | rfl | trivial, Lib.hid ⟨by omega, by omega⟩⟩
    case rest =>
      obtain ⟨b2, rfl, rfl, hh⟩ := hcut
      obtain ⟨hb20, hb21⟩ := hh.out
      obtain ⟨Y, hY⟩ : ∃ Y, y + b2 = Y := ⟨_, rfl⟩
      have hadd : IntKind.u64.wrap (y + b2) = Y := by rw [hY]; exact IntWalk.u64_in _ (by omega)
      have hfz := HRM8.out.frozen u
      have hLu : L0[u]? = some y := by
        obtain ⟨x, hx⟩ : ∃ x, L0[u]? = some x := ⟨_, List.getElem?_eq_getElem (by have := HL0.out.1; omega)⟩
        have h := HL0.out.2 u
        rw [HY.out] at h
        unfold tk at h
        rw [List.getD_eq_getElem?_getD, hx] at h
        rw [hx, ← h]; rfl
      have hrb9 := HRM8.out.set (i := u) (o := 0) (r' := Y) (v := .int .u64 Y) (by decide) hLu rfl
      have hk9 : Kep (fun b => b = gm) w8 (w8.setCell ⟨gm, u, none⟩ (.int .u64 Y)) := Kep.set_self (Kep.refl _ _) _ _
      have hrf9 := HRF8.out.kep hk9 (fun e => hmf e.symm)
      have hdm : d < m.length := by rw [HLM.out]; exact hdb
      obtain ⟨z, hz⟩ : ∃ z, m[d]? = some z := ⟨_, List.getElem?_eq_getElem hdm⟩
      obtain ⟨w9, hw9⟩ : ∃ w9, w8.setCell ⟨gm, u, none⟩ (.int .u64 Y) = w9 := ⟨_, rfl⟩
      rw [show (⟨gm, u * uR.z + 0, none⟩ : Addr) = ⟨gm, u, none⟩ by simp [uR], hw9] at hrb9
      rw [hw9] at hk9 hrf9
      have hrsf := hrf9.rs
      rw [HLM.out] at hrsf
      obtain ⟨bb, oo, z', hbo, _, _, cz⟩ := bool_at hrsf hdb
      injection hbo with hbo
      injection hbo with e1 e2
      subst e1 e2
      rw [Nat.zero_add] at cz
      have hfd := hrf9.frozen d
      have hrf10 := hrf9.set (i := d) (o := 0) (r' := false) (v := .bool false) (by decide) hz rfl
      obtain ⟨w10, hw10⟩ : ∃ w10, w9.setCell ⟨gf, d, none⟩ (.bool false) = w10 := ⟨_, rfl⟩
      rw [show (⟨gf, d * bR.z + 0, none⟩ : Addr) = ⟨gf, d, none⟩ by simp [bR], hw10] at hrf10
      have hk10 : Kep (fun b => b = gf) w9 w10 := by rw [← hw10]; exact Kep.set_self (Kep.refl _ _) _ _
      have hrb10 := hrb9.kep hk10 hmf
      have K10 := Lib.hid (show Kk.Bel w2 w10 from Kep.bel (Kep.bel K8.out hk9 (fun i h => by rw [h]; exact HGM.out)) hk10 (fun i h => by rw [h]; exact HGF.out))
      have hrs1 := hrb10.rs
      rw [List.length_set, HL0.out.1] at hrs1
      have hrs2 := hrf10.rs
      rw [List.length_set, HLM.out] at hrs2
      obtain ⟨L1, hL1⟩ : ∃ L1, L0.set u Y = L1 := ⟨_, rfl⟩
      obtain ⟨M1, hM1⟩ : ∃ M1, m.set d false = M1 := ⟨_, rfl⟩
      have HALL := Lib.hid (show all L1 M1 = N by unfold all; rw [← hL1, ← hM1, List.length_set, List.length_set, HL0.out.1, HLM.out]; omega)
      have HSTAY := Lib.hid (show isb C u = true → isb (ch L1 M1 most) u = true from fun h => by
        rw [← HC.out, isb_ch (by rw [HNA.out]; exact huN)] at h
        rw [isb_ch (by rw [HALL.out]; exact huN)]
        refine stay (t := t) (m := m) (by rw [HALL.out, HNA.out]) (fun k hk => ?_) ?_ (fun k hk => ?_) ?_ h
        · rw [← hL1, tk_set (by rw [HL0.out.1]; exact huN), if_neg hk, HL0.out.2]
        · rw [← hL1, tk_set (by rw [HL0.out.1]; exact huN), if_pos rfl, HY.out]; omega
        · rw [← hM1, isb_set, Bool.and_eq_true] at hk
          exact hk.1
        · rw [← hM1, isb_set]; simp [hud])
      have HGONE := Lib.hid (show isb (ch L1 M1 most) d = false from by
        rw [isb_ch (by rw [HALL.out]; omega)]
        have : cn L1 M1 d = false := by unfold cn; rw [← hM1, isb_set]; simp
        rw [this]; rfl)
      rw [hL1] at hrs1
      rw [hM1] at hrs2
      have C2 := Lib.hid (Ac.choose _ N N L1 _ mn cf M1 most w10 hrs1 hrs2 (by omega) (by omega) m0 m1)
      obtain ⟨D, hD⟩ : ∃ D, ch L1 M1 most = D := ⟨_, rfl⟩
      have HDL := Lib.hid (show D.length = N by rw [← hD]; unfold ch; rw [List.length_map, List.length_range, HALL.out])
      rw [hD] at C2 HSTAY HGONE
      have hd3 : (d : Int) < mn := by omega
      have hd0 : (0 : Int) ≤ d := by omega
      clear hh hb20 hb21 hY hrb9 hk9 hrf9 hrsf hrf10 hk10 hrb10 hrs1 hrs2 hL1 hM1 hD hz hLu HRM8 HRF8 hdm
      go_wp2_with fail
      clear hadd hfz cz hfd cy hw9 hw10
      refine C2.out.mono ?_
      rintro e w11 ⟨v11, rfl, ho11, kb⟩
      obtain ⟨An, cn2, rfl, hr11, _⟩ := ho11.rs bR
      rw [HDL.out] at hr11 ⊢
      have K11 := Lib.hid (show Kk.Bel w2 w11 from K10.out.trans kb)
      have HN11 := Lib.hid hr11
      have HI11 := Lib.hid (HI.out.bel K11.out)
      clear kb ho11 hr11 C2 K10
      obtain ⟨bi, oi, hAi, _, ci1⟩ := flag_at HI11.out huN
      obtain ⟨bn, on, hAn, _, cn1⟩ := flag_at HN11.out huN
      obtain ⟨bn', on', hAn', _, cd1⟩ := flag_at HN11.out (show d < N by omega)
      rw [hAn] at hAn'
      injection hAn' with hAn'
      injection hAn' with e1 e2
      subst e1 e2
      subst hAi hAn
      rw [HGONE.out] at cd1
      have hdn3 : (d : Int) < N := by omega
      obtain ⟨yi, hyi⟩ : ∃ yi, isb C u = yi := ⟨_, rfl⟩
      obtain ⟨yn, hyn⟩ : ∃ yn, isb D u = yn := ⟨_, rfl⟩
      rw [hyi] at ci1 HSTAY
      rw [hyn] at cn1 HSTAY
      clear hyi hyn
      go_upto_region 17 with fail
      go_cut [121] (fun s121 wx => s121 = .bool false ∧ w11 = wx)
      case first =>
        cases yi with
        | false =>
          go_wp2_with fail
          go_meet
          exact ⟨rfl, by first | rfl | trivial⟩
        | true =>
          obtain rfl : yn = true := HSTAY.out rfl
          go_wp2_with fail
          go_meet
          exact ⟨rfl, by first | rfl | trivial⟩
      case rest =>
        obtain ⟨rfl, rfl⟩ := hcut
        have CD := Lib.hid (diff_ _ N ci C _ N cn2 D w11 HI11.out HN11.out (by omega) (by omega))
        rw [show max N N = N by omega] at CD
        clear ci1 cn1 cd1 HSTAY HGONE
        go_wp2_with fail
        refine CD.out.mono ?_
        rintro e w12 ⟨vi, vo, rfl, htw⟩
        obtain ⟨Ac1, cc1, rfl, hq1, _⟩ := htw.o1.rs iR
        obtain ⟨Ac2, cc2, rfl, hq2, _⟩ := htw.o2.rs iR
        obtain ⟨n1, hn1⟩ : ∃ n1, (dfL (isb D) (isb C) N).length = n1 := ⟨_, rfl⟩
        obtain ⟨n2, hn2⟩ : ∃ n2, (dfL (isb C) (isb D) N).length = n2 := ⟨_, rfl⟩
        have hn1b : n1 ≤ N := by rw [← hn1]; exact dfL_len _ _ _
        have hn2b : n2 ≤ N := by rw [← hn2]; exact dfL_len _ _ _
        rw [hn1] at hq1 ⊢
        rw [hn2] at hq2 ⊢
        have HQ1 := Lib.hid hq1
        have HQ2 := Lib.hid hq2
        have K12 := Lib.hid (show Kk.Bel w11 w12 from htw.bel)
        have HN1 := Lib.hid hn1
        have HN2 := Lib.hid hn2
        clear htw hq1 hq2 CD hn1 hn2
        have CC := Lib.hid (copy_b _ N ci C w12 (HI11.out.bel K12.out) (by omega))
        go_wp2_with fail
        refine CC.out.mono ?_
        rintro e w13 ⟨vb, rfl, hob, kb⟩
        obtain ⟨gb, cb, hvb, hgb, hrbb, _⟩ := Rw.rb_own bR hob (by rw [HCL.out]; omega)
        rw [HCL.out] at hvb
        subst hvb
        have K13 := Lib.hid kb
        have HGB := Lib.hid hgb
        have H0 := Lib.hid (show Rw.RB bR 4 w13 gb (bkA (isb C) [] N) cb from by rw [← isb_all C HCL.out]; exact hrbb)
        have Q13 := Lib.hid (HQ1.out.bel kb)
        clear kb hob hgb hrbb CC
        go_wp2_with fail
        go_loopw [23] (fun s23 wr => ∃ k : Nat, s23 = .int .i64 k ∧ k ≤ n1 ∧ Hid (Rw.RB bR 4 wr gb (bkA (isb C) ((dfL (isb D) (isb C) N).take k) N) cb ∧ Kk.Bel w12 wr)) (fun s23 _ => n1 - (intOf s23).toNat)
        case atStart => exact ⟨0, rfl, Nat.zero_le _, Lib.hid ⟨by rw [List.take_zero]; exact H0.out, K13.out⟩⟩
        case round =>
          obtain ⟨k, rfl, hk, hh⟩ := hrel
          obtain ⟨hrb, hbe⟩ := hh.out
          clear H0 hh
          by_cases hlk : k < n1
          · have hlk3 : (k : Int) < n1 := by omega
            have hlk0 : (0 : Int) ≤ k := by omega
            have hwk : IntKind.i64.wrap ((k : Int) + 1) = ((k + 1 : Nat) : Int) := by rw [IntWalk.i64_in _ (by omega)]; omega
            obtain ⟨bx, ox, x, rfl, _, hx, cx⟩ := iat (HQ1.out.bel hbe) hlk
            obtain ⟨⟨hxN, hxp, hxq⟩, hxn⟩ := dfL_at hx
            have hrs := hrb.rs
            rw [bkA_len] at hrs
            obtain ⟨bb, oo, z, hbo, _, hz, cz⟩ := bool_at hrs hxN
            injection hbo with hbo
            injection hbo with e1 e2
            subst e1 e2
            rw [Nat.zero_add] at cz
            obtain rfl : z = false := by
              rw [bkA_at _ _ hxN, hxq] at hz
              simp [hxn] at hz
              first | exact hz | exact hz.symm
            have hst := hrb.set (i := x) (o := 0) (r' := true) (v := .bool true) (by decide) hz rfl
            rw [bkA_set _ _ hxN, show (⟨gb, x * bR.z + 0, none⟩ : Addr) = ⟨gb, x, none⟩ by simp [bR]] at hst
            have hfz := hrb.frozen x
            have HF := Lib.hid (show Rw.RB bR 4 (wr.setCell ⟨gb, x, none⟩ (.bool true)) gb (bkA (isb C) ((dfL (isb D) (isb C) N).take (k + 1)) N) cb ∧ Kk.Bel w12 (wr.setCell ⟨gb, x, none⟩ (.bool true)) from ⟨by rw [List.take_add_one, hx]; exact hst, hbe.set (p := ⟨gb, x, none⟩) HGB.out _⟩)
            have hx0 : ¬ (x : Int) < 0 := by omega
            have hx00 : (0 : Int) ≤ x := by omega
            have hx1 : ¬ (N : Int) ≤ x := by omega
            have hx2 : (x : Int) < N := by omega
            clear hrb hbe hrs hst hz hx hxp hxq hxn
            go_wp2_with fail
            refine ⟨?_, ?measure⟩
            iterate 190 (first | refine Exists.intro (k + 1) ?_ | apply Exists.intro | skip)
            exact ⟨rfl, by omega, HF⟩
            case measure => simp [intOf]; omega
            all_goals (first | exact undef | skip)
          · obtain rfl : k = n1 := by omega
            have H1 := Lib.hid (show Rw.RB bR 4 wr gb (bkB (fun i => isb C i || isb D i) [] N) cb from by
              rw [← back_mid]
              rwa [List.take_of_length_le (by rw [HN1.out]; exact Nat.le_refl _)] at hrb)
            have KB := Lib.hid hbe
            clear hrb hbe
            go_wp2_with fail
            go_loopw [24] (fun s24 wr => ∃ k : Nat, s24 = .int .i64 k ∧ k ≤ n2 ∧ Hid (Rw.RB bR 4 wr gb (bkB (fun i => isb C i || isb D i) ((dfL (isb C) (isb D) N).take k) N) cb ∧ Kk.Bel w12 wr)) (fun s24 _ => n2 - (intOf s24).toNat)
            case atStart => exact ⟨0, rfl, Nat.zero_le _, Lib.hid ⟨by rw [List.take_zero]; exact H1.out, KB.out⟩⟩
            case round =>
              obtain ⟨j, rfl, hj, hh⟩ := hrel
              obtain ⟨hrb, hbe⟩ := hh.out
              clear H1 hh
              by_cases hlj : j < n2
              · have hlj3 : (j : Int) < n2 := by omega
                have hlj0 : (0 : Int) ≤ j := by omega
                have hwj : IntKind.i64.wrap ((j : Int) + 1) = ((j + 1 : Nat) : Int) := by rw [IntWalk.i64_in _ (by omega)]; omega
                obtain ⟨bx, ox, x, rfl, _, hx, cx⟩ := iat (HQ2.out.bel hbe) hlj
                obtain ⟨⟨hxN, hxp, hxq⟩, hxn⟩ := dfL_at hx
                have hrs := hrb.rs
                rw [bkB_len] at hrs
                obtain ⟨bb, oo, z, hbo, _, hz, cz⟩ := bool_at hrs hxN
                injection hbo with hbo
                injection hbo with e1 e2
                subst e1 e2
                rw [Nat.zero_add] at cz
                obtain rfl : z = true := by
                  rw [bkB_at _ _ hxN] at hz
                  simp [hxn, hxp, hxq] at hz
                  first | exact hz | exact hz.symm
                have hst := hrb.set (i := x) (o := 0) (r' := false) (v := .bool false) (by decide) hz rfl
                rw [bkB_set _ _ hxN, show (⟨gb, x * bR.z + 0, none⟩ : Addr) = ⟨gb, x, none⟩ by simp [bR]] at hst
                have hfz := hrb.frozen x
                have HF := Lib.hid (show Rw.RB bR 4 (wr.setCell ⟨gb, x, none⟩ (.bool false)) gb (bkB (fun i => isb C i || isb D i) ((dfL (isb C) (isb D) N).take (j + 1)) N) cb ∧ Kk.Bel w12 (wr.setCell ⟨gb, x, none⟩ (.bool false)) from ⟨by rw [List.take_add_one, hx]; exact hst, hbe.set (p := ⟨gb, x, none⟩) HGB.out _⟩)
                have hx0 : ¬ (x : Int) < 0 := by omega
                have hx00 : (0 : Int) ≤ x := by omega
                have hx1 : ¬ (N : Int) ≤ x := by omega
                have hx2 : (x : Int) < N := by omega
                clear hrb hbe hrs hst hz hx hxp hxq hxn
                go_wp2_with fail
                refine ⟨?_, ?measure⟩
                iterate 190 (first | refine Exists.intro (j + 1) ?_ | apply Exists.intro | skip)
                exact ⟨rfl, by omega, HF⟩
                case measure => simp [intOf]; omega
                all_goals (first | exact undef | skip)
              · obtain rfl : j = n2 := by omega
                have HE := Lib.hid (show Rw.RB bR 4 wr gb D cb from by
                  rw [List.take_of_length_le (by rw [HN2.out]; exact Nat.le_refl _), back_end _ _ HDL.out] at hrb
                  exact hrb)
                have hrs := HE.out.rs
                rw [HDL.out] at hrs
                have CS := Lib.hid (same_bc hrs ((HN11.out.bel K12.out).bel hbe) (by omega) (by omega) rfl)
                have KZ := Lib.hid ((K2.out.trans K11.out).trans (K12.out.trans hbe))
                clear hrb hbe hrs
                go_wp2_with fail
                refine CS.out.mono ?_
                rintro e wz ⟨rfl, kb⟩
                have KY := Lib.hid (KZ.out.trans kb)
                clear kb
                go_wp2_with fail
                go_ret
                exact ⟨rfl, KY.out⟩
/-- ActiveStays, as its arguments come in. -/
theorem staysW (T : Option Addr) (tn tc : Nat) (M : Option Addr) (mn mc : Nat) (most up dw byy : Int) (w : World) (h1 : tn ≤ 9223372036854775807) (i0 : Wrds w T tn tc) (h2 : mn ≤ 9223372036854775807) (i1 : Bols w M mn mc) (m0 : -9223372036854775808 ≤ most) (m1 : most ≤ 9223372036854775807) (u0 : -9223372036854775808 ≤ up) (u1 : up ≤ 9223372036854775807) (d0 : -9223372036854775808 ≤ dw) (d1 : dw ≤ 9223372036854775807) (b0 : 0 ≤ byy) (b1 : byy ≤ 18446744073709551615) :
    Calls Try.prog 6 #[.slice T tn tc, .slice M mn mc, .int .i64 most, .int .i64 up, .int .i64 dw, .int .u64 byy] w fun e w' => e = .returned (.bool true) ∧ Kk.Bel w w' := by
  obtain ⟨t, ht, hw⟩ := wrds_rs i0
  obtain ⟨m, hm⟩ := bols_rs i1
  exact staysLaw T tn tc t M mn mc m most up dw byy w ht hm (wds_of hw) h1 h2 m0 m1 u0 u1 d0 d1 b0 b1
end Ac
end Go.Proofs.Ytmbodfmdaocppaa
