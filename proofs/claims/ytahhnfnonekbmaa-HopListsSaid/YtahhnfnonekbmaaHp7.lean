/-
  What hop.Next and hop.Add answer of any list of hops. Conditions: at most a million hops; the numbers are ints.
-/
import Derived.Test.YtahhnfnonekbmaaHp6
namespace Go.Proofs.Ytahhnfnonekbmaa
open Go.RowKit Go.Shelf
set_option linter.unusedVariables false
set_option linter.unusedSimpArgs false
namespace Hp
open Kk Pm

theorem nxt_ways (l : List R4) (u : Int) : (¬ ((chk l).1 = 0 ∧ 0 < l.length ∧ 1 ≤ u ∧ u ≤ 1048576) → nxt l u = (0, false)) ∧ (∀ r, (chk l).1 = 0 → l[0]? = some r → 1 ≤ u → u ≤ 1048576 → nxt l u = (cr r + u, true)) := by
  unfold nxt
  refine ⟨fun h => if_neg h, fun r h1 h2 h3 h4 => ?_⟩
  rw [if_pos ⟨h1, (List.getElem?_eq_some_iff.1 h2).1, h3, h4⟩, h2]
  rfl
set_option maxRecDepth 100000 in
set_option maxHeartbeats 4000000 in
theorem next (A : Option Addr) (n c : Nat) (l : List R4) (u : Int) (w : World) (hi : Rw.RS hR w A n c l) (hn : n ≤ 1000000) :
    Calls Try.prog 13 #[.slice A n c, .int .i64 u] w fun e w' => e = .returned (.tuple #[.int .i64 (nxt l u).1, .bool (nxt l u).2]) ∧ Bel w w' := by
  have HI := Lib.hid hi
  have HLN := Lib.hid hi.len
  have CK := Lib.hid (check A n c l w hi (by omega))
  have HP := Lib.hid (fun V => isPeriod u V)
  have NW := Lib.hid (nxt_ways l u)
  obtain ⟨e1, he1⟩ : ∃ e, (chk l).1 = e := ⟨_, rfl⟩
  obtain ⟨e2, he2⟩ : ∃ e, (chk l).2 = e := ⟨_, rfl⟩
  have HE1 := Lib.hid he1
  obtain ⟨R, hR⟩ : ∃ R, nxt l u = R := ⟨_, rfl⟩
  rw [he1, he2] at CK
  rw [hR]
  rw [he1, hR] at NW
  clear hi he1 he2 hR
  go_enter Try.func13, Try.ntmps13
  go_wp2_with fail
  refine CK.out.mono ?_
  rintro e w1 ⟨rfl, kb⟩
  have K1 := Lib.hid kb
  clear kb CK
  by_cases h0 : e1 = 0
  · subst h0
    by_cases hn0 : n = 0
    · obtain rfl : R = (0, false) := NW.out.1 (fun h => by have := h.2.1; have := HLN.out; omega)
      subst hn0
      clear NW
      go_wp2_with fail
      go_ret2
      exact ⟨rfl, K1.out⟩
    · obtain ⟨⟨r1, r2, r3, r4⟩, hr⟩ := HI.out.get (show 0 < n by omega)
      have hn1 : ((n : Int) == 0) = false := by simp; exact hn0
      by_cases hp : 1 ≤ u ∧ u ≤ 1048576
      · have ip := HP.out w1
        rw [decide_eq_true hp] at ip
        obtain rfl : R = (r4 + u, true) := NW.out.2 _ rfl hr hp.1 hp.2
        have HB := Lib.hid (show 1 ≤ r4 ∧ r4 ≤ 4294967296 from may_cr (srt_le l 0 (chk_ok.1 HE1.out).2 _ (List.mem_of_getElem? hr)).1)
        have hwr : IntKind.i64.wrap (r4 + u) = r4 + u := IntWalk.i64_in _ (by have := HB.out; omega)
        obtain ⟨b, o, rfl, hb, hrow⟩ := (HI.out.bel K1.out).at (show 0 < n by omega) hr
        rw [Nat.zero_mul, Nat.add_zero] at hrow
        obtain ⟨c0, c1, c2, c3⟩ := rng4 (show w1.rangeAt b o [.int .i64 r1, .int .i64 r2, .int .i64 r3, .int .i64 r4] from hrow)
        have hn2 : (0 : Int) < n := by omega
        clear hrow hr NW hp c0 c1 c2 hn0
        go_wp2_with fail
        refine ip.mono ?_
        rintro e w2 ⟨rfl, rfl⟩
        clear ip
        go_wp2_with fail
        go_ret2
        exact ⟨rfl, K1.out⟩
      · have ip := HP.out w1
        rw [decide_eq_false hp] at ip
        obtain rfl : R = (0, false) := NW.out.1 (fun h => hp h.2.2)
        clear hr NW hp hn0
        go_wp2_with fail
        refine ip.mono ?_
        rintro e w2 ⟨rfl, rfl⟩
        clear ip
        go_wp2_with fail
        go_ret2
        exact ⟨rfl, K1.out⟩
  · obtain rfl : R = (0, false) := NW.out.1 (fun h => h0 h.1)
    have hne : (e1 != 0) = true := by rw [bne_iff_ne]; exact h0
    clear h0 NW
    go_wp2_with fail
    go_ret2
    exact ⟨rfl, K1.out⟩
theorem bef_last {l : List R4} {n : Nat} {r : R4} (hl : l.length = n + 1) (hr : l[n]? = some r) : bef 0 l l.length = cr r := by rw [hl]; exact bef_succ hr
/-- What Add tells. -/
def AddR (w w' : World) (l : List R4) (x : R4) (m : Int) (e : Ending) : Prop :=
  ∃ v, e = .returned (.tuple #[v, .int .i64 (addE l x m)]) ∧ OwnH w' w.heap.size v (addL l x m) ∧ Bel w w'
set_option maxRecDepth 100000 in
set_option maxHeartbeats 8000000 in
theorem add (A : Option Addr) (n c : Nat) (l : List R4) (x1 x2 x3 x4 m : Int) (w : World) (hi : Rw.RS hR w A n c l) (hn : n ≤ 1000000) (h3 : ∀ r ∈ l, W3 r) :
    Calls Try.prog 17 #[.slice A n c, .agg #[.int .i64 x1, .int .i64 x2, .int .i64 x3, .int .i64 x4], .int .i64 m] w fun e w' => AddR w w' l (x1, x2, x3, x4) m e := by
  have HI := Lib.hid hi
  have HLN := Lib.hid hi.len
  have P0 := Lib.hid (Blk.new w #[.int .i64 x1, .int .i64 x2, .int .i64 x3, .int .i64 x4] 24)
  obtain ⟨W, hW⟩ : ∃ W, w.alloc (.cells #[.int .i64 x1, .int .i64 x2, .int .i64 x3, .int .i64 x4] 24) = W := ⟨_, rfl⟩
  have BW := Lib.hid (show Bel w W by rw [← hW]; exact (Bel.refl w).alloc _)
  rw [hW] at P0
  have CK := Lib.hid (check A n c l W (hi.bel BW.out) (by omega))
  have IH := Lib.hid (fun V => isHop x1 x2 x3 x4 V)
  have CN := Lib.hid (fun V (hv : Bel w V) (h1 : I64 x1) (h2 : I64 x2) (h4 : I64 x3) => count A n c l x1 x2 x3 V (hi.bel hv) (by omega) h3 h1 h2 h4)
  have AW := Lib.hid (add_ways l (x1, x2, x3, x4) m)
  obtain ⟨e1, he1⟩ : ∃ e, (chk l).1 = e := ⟨_, rfl⟩
  obtain ⟨e2, he2⟩ : ∃ e, (chk l).2 = e := ⟨_, rfl⟩
  have HE1 := Lib.hid he1
  rw [he1, he2] at CK
  rw [he1] at AW
  clear hi he1 he2 h3
  have FIN : ∀ (V : World) (x : Int), Bel w V → addE l (x1, x2, x3, x4) m = x → x ≠ 0 → AddR w V l (x1, x2, x3, x4) m (.returned (.tuple #[.slice none 0 0, .int .i64 x])) := fun V x hb he hx =>
    ⟨_, by rw [he], by rw [addL_ne (by rw [he]; exact hx)]; exact Rw.OwnR.nil_ _ _ _ _, hb⟩
  have FIN := Lib.hid FIN
  go_enter Try.func17, Try.ntmps17
  go_upto_region 1 with fail
  try rw [hW]
  have HG := Lib.hid (show w.heap.size ≤ w.heap.size from Nat.le_refl _)
  obtain ⟨g, hg⟩ : ∃ g, w.heap.size = g := ⟨_, rfl⟩
  rw [hg] at P0 ⊢
  have HGG := Lib.hid hg
  clear hW hg
  go_wp2_with fail
  refine CK.out.mono ?_
  rintro e w1 ⟨rfl, kb⟩
  have K1 := Lib.hid (BW.out.trans kb)
  have P1 := Lib.hid (P0.out.bel kb)
  clear kb CK P0
  have g0 := P1.out.cell 0 rfl
  have g1 := P1.out.cell 1 rfl
  have g2 := P1.out.cell 2 rfl
  have g3 := P1.out.cell 3 rfl
  by_cases h0 : e1 = 0
  · subst h0
    have AW2 := Lib.hid (show _ from AW.out.2)
    obtain ⟨y, hy⟩ : ∃ y, may (x1, x2, x3, x4) = y := ⟨_, rfl⟩
    have ih := IH.out w1
    rw [hy] at ih AW2
    have HY := Lib.hid hy
    clear hy AW
    cases y
    · have HE := Lib.hid (AW2.out.1 (by simp) (.inl rfl))
      clear AW2
      go_wp2_with fail
      refine ih.mono ?_
      rintro e w2 ⟨rfl, kb⟩
      have K2 := Lib.hid (K1.out.trans kb)
      clear kb ih g0 g1 g2 g3
      go_wp2_with fail
      go_ret2
      exact FIN.out _ 3 K2.out HE.out (by decide)
    · have HX := Lib.hid ((may_iff _ _ _ _).1 HY.out)
      go_wp2_with fail
      refine ih.mono ?_
      rintro e w2 ⟨rfl, kb⟩
      have K2 := Lib.hid (K1.out.trans kb)
      have P2 := Lib.hid (P1.out.bel kb)
      clear kb ih g0 g1 g2 g3 P1
      by_cases hm1 : m < 1
      · have HE := Lib.hid (AW2.out.1 (by simp) (.inr (.inl hm1)))
        clear AW2
        go_wp2_with fail
        go_ret2
        exact FIN.out _ 3 K2.out HE.out (by decide)
      · by_cases hm2 : 16 < m
        · have HE := Lib.hid (AW2.out.1 (by simp) (.inr (.inr hm2)))
          clear AW2
          go_wp2_with fail
          go_ret2
          exact FIN.out _ 3 K2.out HE.out (by decide)
        · have hno : ¬ (true = false ∨ m < 1 ∨ 16 < m) := by simp; omega
          have AW3 := Lib.hid (⟨AW2.out.2.1 (by simp) hno, AW2.out.2.2.1 (by simp) hno, AW2.out.2.2.2.1 (by simp) hno, AW2.out.2.2.2.2 (by simp) hno⟩ : _ ∧ _ ∧ _ ∧ _)
          clear AW2 hno
          have g3 := P2.out.cell 3 rfl
          have CNT := Lib.hid (fun V (hv : Bel w V) => CN.out V hv ⟨by have := HX.out; omega, by have := HX.out; omega⟩ ⟨by have := HX.out; omega, by have := HX.out; omega⟩ ⟨by have := HX.out; omega, by have := HX.out; omega⟩)
          by_cases hn0 : n = 0
          · have HB := Lib.hid (show ¬ cr (x1, x2, x3, x4) < bef 0 l l.length from by
              rw [HLN.out, hn0]
              have := (may_cr HY.out).1
              show ¬ _ < (0 : Int)
              omega)
            have hnn : decide ((0 : Int) < (n : Int)) = false := decide_eq_false (by omega)
            subst hn0
            go_upto_region 8 with fail
            go_quiet (fail)
            have K3 := Lib.hid (K2.out.trans (bel_drewN w2 nq))
            have P3 := Lib.hid (P2.out.bel (bel_drewN w2 nq))
            generalize hV : World.drewN w2 nq = V at K3 P3 ⊢
            clear hV
            have g0 := P3.out.cell 0 rfl
            have g1 := P3.out.cell 1 rfl
            have g2 := P3.out.cell 2 rfl
            have CT := Lib.hid (CNT.out V K3.out)
            obtain ⟨C, hC⟩ : ∃ C, cnt l x1 x2 x3 = C := ⟨_, rfl⟩
            rw [hC] at CT
            have HC := Lib.hid hC
            clear hC CNT
            go_wp2_with fail
            refine CT.out.mono ?_
            rintro e w4 ⟨rfl, kb⟩
            have K4 := Lib.hid (K3.out.trans kb)
            have P4 := Lib.hid (P3.out.bel kb)
            clear kb CT g0 g1 g2 P3
            by_cases hc : m ≤ (C : Int)
            · have HE := Lib.hid (AW3.out.2.1 HB.out (by show m ≤ (cnt l x1 x2 x3 : Int); rw [HC.out]; exact hc))
              clear AW3
              go_wp2_with fail
              go_ret2
              exact FIN.out _ 22 K4.out HE.out (by decide)
            · have hcn : ¬ m ≤ ((cnt l (x1, x2, x3, x4).1 (x1, x2, x3, x4).2.1 (x1, x2, x3, x4).2.2.1 : Nat) : Int) := by show ¬ m ≤ (cnt l x1 x2 x3 : Int); rw [HC.out]; exact hc
              · have HE := Lib.hid (AW3.out.2.2.2 HB.out (by first | exact hcn | exact Int.not_le.1 hcn) (by rw [HLN.out]; decide))
                have hsl := fun V => show (Instr.slice 22 (.slice A 0 c) none (some (.int .i64 0)) (some (.int .i64 0))).run Try.prog V = .ok (.slice A 0 0) V from slice_full A 0 c HI.out.cap V
                clear AW3 hcn
                go_upto_region 14 with fail
                refine wp_region_held_drew (S := fun Vx => Bel w4 Vx) (by kernel_rfl) (Bel.refl _).drew (fun hS0 => ?_)
                have HS6 := Lib.hid hS0
                obtain ⟨w6, hw6⟩ : ∃ w6, World.drew w4 = w6 := ⟨_, rfl⟩
                rw [hw6] at hS0 HS6 ⊢
                clear hw6
                have HX := Lib.hid (Rw.rs_one hR (r := (x1, x2, x3, x4)) (Blk.new w6 #[.int .i64 x1, .int .i64 x2, .int .i64 x3, .int .i64 x4] 24))
                have HS7 := Lib.hid ((HI.out.cut (c' := 0) (Nat.le_refl _) (fun h => by have := HI.out.nil h; have := HI.out.cap; omega)).bel ((K4.out.trans HS6.out).alloc (.cells #[.int .i64 x1, .int .i64 x2, .int .i64 x3, .int .i64 x4] 24)))
                obtain ⟨cap, W9, hAP, hRB, hOW, hB9⟩ := Rw.run_append_full hR 22 22 24 underH zero_h rfl (by decide) HS7.out HX.out (by omega) (by omega)
                obtain ⟨W7, hW7⟩ : ∃ W7, w6.alloc (.cells #[.int .i64 x1, .int .i64 x2, .int .i64 x3, .int .i64 x4] 24) = W7 := ⟨_, rfl⟩
                have H7 := Lib.hid (show Bel w4 W7 by rw [← hW7]; exact HS6.out.alloc _)
                have H67 := Lib.hid hW7
                rw [hW7] at hAP hOW hB9
                have HAP := Lib.hid hAP
                have HOW := Lib.hid hOW
                have HB9 := Lib.hid hB9
                clear hAP hRB hOW hB9 hW7 HX HS7
                refine wpAnyH_take (i := 0) (oi := { dst := some 57, op := .move (.tmp 0), type := 22, pos := "hop.go:51", after := #[], guard := none }) (v := .slice A 0 c) rfl (by kernel_rfl) (by kernel_rfl) (by kernel_rfl) (fun _ _ _ h => h) (Or.inl ⟨by rfl, by intro w hSw; clear hSw; go_simp⟩) hS0 ?_
                try simp only [Act.put, List.setIfInBounds_toArray, List.set_cons_zero, List.set_cons_succ]
                refine wpAnyH_take (i := 1) (oi := { dst := some 58, op := .move (.tmp 0), type := 22, pos := "hop.go:51", after := #[], guard := none }) (v := .slice A 0 c) rfl (by kernel_rfl) (by kernel_rfl) (by kernel_rfl) (fun _ _ _ h => h) (Or.inl ⟨by rfl, by intro w hSw; clear hSw; go_simp⟩) hS0 ?_
                try simp only [Act.put, List.setIfInBounds_toArray, List.set_cons_zero, List.set_cons_succ]
                refine wpAnyH_take (i := 2) (oi := { dst := some 59, op := .call { callee := .builtin .len, args := #[.tmp 58], argTypes := #[22] }, type := 3, pos := "hop.go:51", after := #[{ on := 1, ground := .data }], guard := none }) (v := .int .i64 0) rfl (by kernel_rfl) (by kernel_rfl) (by kernel_rfl) (fun _ _ _ h => h) (Or.inl ⟨by rfl, by intro w hSw; clear hSw; go_simp⟩) hS0 ?_
                try simp only [Act.put, List.setIfInBounds_toArray, List.set_cons_zero, List.set_cons_succ]
                refine wpAnyH_take (i := 3) (oi := { dst := some 60, op := .move (.tmp 0), type := 22, pos := "hop.go:51", after := #[], guard := none }) (v := .slice A 0 c) rfl (by kernel_rfl) (by kernel_rfl) (by kernel_rfl) (fun _ _ _ h => h) (Or.inl ⟨by rfl, by intro w hSw; clear hSw; go_simp⟩) hS0 ?_
                try simp only [Act.put, List.setIfInBounds_toArray, List.set_cons_zero, List.set_cons_succ]
                refine wpAnyH_take (i := 4) (oi := { dst := some 61, op := .call { callee := .builtin .len, args := #[.tmp 60], argTypes := #[22] }, type := 3, pos := "hop.go:51", after := #[{ on := 3, ground := .data }], guard := none }) (v := .int .i64 0) rfl (by kernel_rfl) (by kernel_rfl) (by kernel_rfl) (fun _ _ _ h => h) (Or.inl ⟨by rfl, by intro w hSw; clear hSw; go_simp⟩) hS0 ?_
                try simp only [Act.put, List.setIfInBounds_toArray, List.set_cons_zero, List.set_cons_succ]
                refine wpAnyH_take (i := 5) (oi := { dst := some 62, op := .slice 22 (.tmp 57) none (some (.tmp 59)) (some (.tmp 61)), type := 22, pos := "hop.go:51", after := #[{ on := 0, ground := .data }, { on := 2, ground := .data }, { on := 4, ground := .data }], guard := none }) (v := .slice A 0 0) rfl (by kernel_rfl) (by kernel_rfl) (by kernel_rfl) (fun _ _ _ h => h) (Or.inl ⟨by rfl, by intro w hSw; clear hSw; go_simp⟩) hS0 ?_
                try simp only [Act.put, List.setIfInBounds_toArray, List.set_cons_zero, List.set_cons_succ]
                refine wpAnyH_take (i := 6) (oi := { dst := some 63, op := .load 24 (.tmp 4), type := 24, pos := "hop.go:51", after := #[], guard := none }) (v := .agg #[.int .i64 x1, .int .i64 x2, .int .i64 x3, .int .i64 x4]) rfl (by kernel_rfl) (by kernel_rfl) (by kernel_rfl) (fun _ _ _ h => h) (yieldsIf_load_mid (by rfl) _ _ rfl _ _ rfl _ _ (fun w h => rng_bel (rngB (C := [.int .i64 x1, .int .i64 x2, .int .i64 x3, .int .i64 x4]) P4.out) h) Try.underlying24 rfl info_h) hS0 ?_
                try simp only [Act.put, List.setIfInBounds_toArray, List.set_cons_zero, List.set_cons_succ]
                refine wpAnyH_ready (rs := [7]) (by kernel_rfl) (by simp) ?_
                refine AllReadyH.cons (o := { dst := some 64, op := .buildSlice 22 1 #[(0, .tmp 63)], type := 22, pos := "hop.go:51", after := #[{ on := 6, ground := .data }], guard := none }) rfl (fun K hK => ?_) AllReadyH.nil
                go_simp
                refine hK.out _ _ (HS6.out.alloc _) (fun hS1 => ?_)
                clear hK K
                try simp only [Act.put, List.setIfInBounds_toArray, List.set_cons_zero, List.set_cons_succ]
                refine wpAnyH_ready (rs := [8]) (by kernel_rfl) (by simp) ?_
                refine AllReadyH.cons (o := { dst := some 65, op := .call { callee := .builtin .append, args := #[.tmp 62, .tmp 64], argTypes := #[22, 22] }, type := 22, pos := "hop.go:51", after := #[{ on := 5, ground := .data }, { on := 7, ground := .data }], guard := none }) rfl (fun K hK => ?_) AllReadyH.nil
                rw [H67.out]
                refine Rw.step_append_run rfl (.tmp 62) (.tmp 64) 22 22 rfl _ _ (by simp [Act.eval, Act.put]) (by simp [Act.eval, Act.put]) HAP.out ?_
                refine hK.out _ _ (H7.out.trans HB9.out) (fun hS2 => ?_)
                clear hK K
                try simp only [Act.put, List.setIfInBounds_toArray, List.set_cons_zero, List.set_cons_succ]
                refine wpAnyH_take (i := 9) (oi := { dst := some 6, op := .assign (.tmp 65), type := 22, pos := "hop.go:51", after := #[{ on := 8, ground := .data }, { on := 8, ground := .chain }, { on := 0, ground := .phase }, { on := 1, ground := .phase }, { on := 2, ground := .phase }, { on := 3, ground := .phase }, { on := 4, ground := .phase }, { on := 5, ground := .phase }, { on := 6, ground := .phase }, { on := 7, ground := .phase }, { on := 8, ground := .phase }], guard := none }) (v := .slice (some ⟨(World.heap W7).size, 0, none⟩) (0 + 1) cap) rfl (by kernel_rfl) (by kernel_rfl) (by kernel_rfl) (fun _ _ _ h => h) (Or.inl ⟨by rfl, by intro w hSw; clear hSw; go_simp⟩) hS2 ?_
                try simp only [Act.put, List.setIfInBounds_toArray, List.set_cons_zero, List.set_cons_succ]
                refine wpAnyH_take (i := 10) (oi := { dst := some 7, op := .assign (.const (Value.int IntKind.i64 0)), type := 27, pos := "hop.go:51", after := #[{ on := 9, ground := .chain }, { on := 0, ground := .phase }, { on := 1, ground := .phase }, { on := 2, ground := .phase }, { on := 3, ground := .phase }, { on := 4, ground := .phase }, { on := 5, ground := .phase }, { on := 6, ground := .phase }, { on := 7, ground := .phase }, { on := 8, ground := .phase }, { on := 9, ground := .phase }], guard := none }) (v := .int .i64 0) rfl (by kernel_rfl) (by kernel_rfl) (by kernel_rfl) (fun _ _ _ h => h) (Or.inl ⟨by rfl, by intro w hSw; clear hSw; go_simp⟩) hS2 ?_
                try simp only [Act.put, List.setIfInBounds_toArray, List.set_cons_zero, List.set_cons_succ]
                refine wpAnyH_done (by kernel_rfl) ?_ _
                go_wp2_with fail
                go_ret2
                refine ⟨_, by rw [HE.out]; rfl, ?_, (K4.out.trans H7.out).trans HB9.out⟩
                rw [addL_eq HE.out]
                exact HOW.out.mono (Nat.le_trans (Below.size K4.out) (Below.size H7.out))
          · obtain ⟨⟨p1, p2, p3, p4⟩, hp⟩ := HI.out.get (show n - 1 < n by omega)
            obtain ⟨b, o, rfl, hb, hrow⟩ := (HI.out.bel K2.out).at (show n - 1 < n by omega) hp
            obtain ⟨d0, d1, d2, d3⟩ := rng4 (show w2.rangeAt b (o + (n - 1) * 4) [.int .i64 p1, .int .i64 p2, .int .i64 p3, .int .i64 p4] from hrow)
            obtain ⟨j, hj⟩ : ∃ j, n = j + 1 := ⟨n - 1, by omega⟩
            rw [show n - 1 = j by omega] at d3 hp
            have HBF := Lib.hid (show bef 0 l l.length = p4 from bef_last (HLN.out.trans hj) hp)
            have hs : IntKind.i64.wrap ((n : Int) - 1) = (j : Int) := by rw [IntWalk.i64_in _ (by omega)]; omega
            have hj3 : (j : Int) < (n : Int) := by omega
            have hj0 : (0 : Int) < (n : Int) := by omega
            have hjn : 0 < n := by omega
            clear hrow hp hn0 d0 d1 d2 hj
            by_cases h6 : x4 < p4
            · have HE := Lib.hid (AW3.out.1 (by rw [HBF.out]; exact h6))
              clear AW3
              go_upto_region 8 with fail
              go_quiet (fail)
              go_wp2_with fail
              go_ret2
              exact FIN.out _ 9 (K2.out.trans (by first | exact Bel.refl _ | exact bel_drewN _ _)) HE.out (by decide)
            · have HB := Lib.hid (show ¬ cr (x1, x2, x3, x4) < bef 0 l l.length by rw [HBF.out]; exact h6)
              go_upto_region 8 with fail
              go_quiet (fail)
              have K3 := Lib.hid (K2.out.trans (bel_drewN w2 nq))
              have P3 := Lib.hid (P2.out.bel (bel_drewN w2 nq))
              generalize hV : World.drewN w2 nq = V at K3 P3 ⊢
              clear hV
              have g0 := P3.out.cell 0 rfl
              have g1 := P3.out.cell 1 rfl
              have g2 := P3.out.cell 2 rfl
              have CT := Lib.hid (CNT.out V K3.out)
              obtain ⟨C, hC⟩ : ∃ C, cnt l x1 x2 x3 = C := ⟨_, rfl⟩
              rw [hC] at CT
              have HC := Lib.hid hC
              clear hC CNT
              go_wp2_with fail
              refine CT.out.mono ?_
              rintro e w4 ⟨rfl, kb⟩
              have K4 := Lib.hid (K3.out.trans kb)
              have P4 := Lib.hid (P3.out.bel kb)
              clear kb CT g0 g1 g2 P3
              by_cases hc : m ≤ (C : Int)
              · have HE := Lib.hid (AW3.out.2.1 HB.out (by show m ≤ (cnt l x1 x2 x3 : Int); rw [HC.out]; exact hc))
                clear AW3
                go_wp2_with fail
                go_ret2
                exact FIN.out _ 22 K4.out HE.out (by decide)
              · have hcn : ¬ m ≤ ((cnt l (x1, x2, x3, x4).1 (x1, x2, x3, x4).2.1 (x1, x2, x3, x4).2.2.1 : Nat) : Int) := by show ¬ m ≤ (cnt l x1 x2 x3 : Int); rw [HC.out]; exact hc
                by_cases hl : n = 4096
                · have HE := Lib.hid (AW3.out.2.2.1 HB.out (by first | exact hcn | exact Int.not_le.1 hcn) (HLN.out.trans hl))
                  have hl3 : ((n : Int) == 4096) = true := by rw [hl]; rfl
                  clear AW3 hcn
                  go_wp2_with fail
                  go_ret2
                  exact FIN.out _ 4 K4.out HE.out (by decide)
                · have HE := Lib.hid (AW3.out.2.2.2 HB.out (by first | exact hcn | exact Int.not_le.1 hcn) (by rw [HLN.out]; exact hl))
                  have hl3 : ((n : Int) == 4096) = false := by simp; omega
                  have hsl := fun V => slice_full (some ⟨b, o, none⟩) n c HI.out.cap V
                  clear AW3 hcn
                  go_upto_region 14 with fail
                  refine wp_region_held_drew (S := fun Vx => Bel w4 Vx) (by kernel_rfl) (Bel.refl _).drew (fun hS0 => ?_)
                  have HS6 := Lib.hid hS0
                  obtain ⟨w6, hw6⟩ : ∃ w6, World.drew w4 = w6 := ⟨_, rfl⟩
                  rw [hw6] at hS0 HS6 ⊢
                  clear hw6
                  have HX := Lib.hid (Rw.rs_one hR (r := (x1, x2, x3, x4)) (Blk.new w6 #[.int .i64 x1, .int .i64 x2, .int .i64 x3, .int .i64 x4] 24))
                  have HS7 := Lib.hid ((HI.out.cut (c' := n) (Nat.le_refl _) (fun h => by have := HI.out.nil h; have := HI.out.cap; omega)).bel ((K4.out.trans HS6.out).alloc (.cells #[.int .i64 x1, .int .i64 x2, .int .i64 x3, .int .i64 x4] 24)))
                  obtain ⟨cap, W9, hAP, hRB, hOW, hB9⟩ := Rw.run_append_full hR 22 22 24 underH zero_h rfl (by decide) HS7.out HX.out (by omega) (by omega)
                  obtain ⟨W7, hW7⟩ : ∃ W7, w6.alloc (.cells #[.int .i64 x1, .int .i64 x2, .int .i64 x3, .int .i64 x4] 24) = W7 := ⟨_, rfl⟩
                  have H7 := Lib.hid (show Bel w4 W7 by rw [← hW7]; exact HS6.out.alloc _)
                  have H67 := Lib.hid hW7
                  rw [hW7] at hAP hOW hB9
                  have HAP := Lib.hid hAP
                  have HOW := Lib.hid hOW
                  have HB9 := Lib.hid hB9
                  clear hAP hRB hOW hB9 hW7 HX HS7
                  refine wpAnyH_take (i := 0) (oi := { dst := some 57, op := .move (.tmp 0), type := 22, pos := "hop.go:51", after := #[], guard := none }) (v := .slice (some ⟨b, o, none⟩) n c) rfl (by kernel_rfl) (by kernel_rfl) (by kernel_rfl) (fun _ _ _ h => h) (Or.inl ⟨by rfl, by intro w hSw; clear hSw; go_simp⟩) hS0 ?_
                  try simp only [Act.put, List.setIfInBounds_toArray, List.set_cons_zero, List.set_cons_succ]
                  refine wpAnyH_take (i := 1) (oi := { dst := some 58, op := .move (.tmp 0), type := 22, pos := "hop.go:51", after := #[], guard := none }) (v := .slice (some ⟨b, o, none⟩) n c) rfl (by kernel_rfl) (by kernel_rfl) (by kernel_rfl) (fun _ _ _ h => h) (Or.inl ⟨by rfl, by intro w hSw; clear hSw; go_simp⟩) hS0 ?_
                  try simp only [Act.put, List.setIfInBounds_toArray, List.set_cons_zero, List.set_cons_succ]
                  refine wpAnyH_take (i := 2) (oi := { dst := some 59, op := .call { callee := .builtin .len, args := #[.tmp 58], argTypes := #[22] }, type := 3, pos := "hop.go:51", after := #[{ on := 1, ground := .data }], guard := none }) (v := .int .i64 n) rfl (by kernel_rfl) (by kernel_rfl) (by kernel_rfl) (fun _ _ _ h => h) (Or.inl ⟨by rfl, by intro w hSw; clear hSw; go_simp⟩) hS0 ?_
                  try simp only [Act.put, List.setIfInBounds_toArray, List.set_cons_zero, List.set_cons_succ]
                  refine wpAnyH_take (i := 3) (oi := { dst := some 60, op := .move (.tmp 0), type := 22, pos := "hop.go:51", after := #[], guard := none }) (v := .slice (some ⟨b, o, none⟩) n c) rfl (by kernel_rfl) (by kernel_rfl) (by kernel_rfl) (fun _ _ _ h => h) (Or.inl ⟨by rfl, by intro w hSw; clear hSw; go_simp⟩) hS0 ?_
                  try simp only [Act.put, List.setIfInBounds_toArray, List.set_cons_zero, List.set_cons_succ]
                  refine wpAnyH_take (i := 4) (oi := { dst := some 61, op := .call { callee := .builtin .len, args := #[.tmp 60], argTypes := #[22] }, type := 3, pos := "hop.go:51", after := #[{ on := 3, ground := .data }], guard := none }) (v := .int .i64 n) rfl (by kernel_rfl) (by kernel_rfl) (by kernel_rfl) (fun _ _ _ h => h) (Or.inl ⟨by rfl, by intro w hSw; clear hSw; go_simp⟩) hS0 ?_
                  try simp only [Act.put, List.setIfInBounds_toArray, List.set_cons_zero, List.set_cons_succ]
                  refine wpAnyH_take (i := 5) (oi := { dst := some 62, op := .slice 22 (.tmp 57) none (some (.tmp 59)) (some (.tmp 61)), type := 22, pos := "hop.go:51", after := #[{ on := 0, ground := .data }, { on := 2, ground := .data }, { on := 4, ground := .data }], guard := none }) (v := .slice (some ⟨b, o, none⟩) n n) rfl (by kernel_rfl) (by kernel_rfl) (by kernel_rfl) (fun _ _ _ h => h) (Or.inl ⟨by rfl, by intro w hSw; clear hSw; go_simp⟩) hS0 ?_
                  try simp only [Act.put, List.setIfInBounds_toArray, List.set_cons_zero, List.set_cons_succ]
                  refine wpAnyH_take (i := 6) (oi := { dst := some 63, op := .load 24 (.tmp 4), type := 24, pos := "hop.go:51", after := #[], guard := none }) (v := .agg #[.int .i64 x1, .int .i64 x2, .int .i64 x3, .int .i64 x4]) rfl (by kernel_rfl) (by kernel_rfl) (by kernel_rfl) (fun _ _ _ h => h) (yieldsIf_load_mid (by rfl) _ _ rfl _ _ rfl _ _ (fun w h => rng_bel (rngB (C := [.int .i64 x1, .int .i64 x2, .int .i64 x3, .int .i64 x4]) P4.out) h) Try.underlying24 rfl info_h) hS0 ?_
                  try simp only [Act.put, List.setIfInBounds_toArray, List.set_cons_zero, List.set_cons_succ]
                  refine wpAnyH_ready (rs := [7]) (by kernel_rfl) (by simp) ?_
                  refine AllReadyH.cons (o := { dst := some 64, op := .buildSlice 22 1 #[(0, .tmp 63)], type := 22, pos := "hop.go:51", after := #[{ on := 6, ground := .data }], guard := none }) rfl (fun K hK => ?_) AllReadyH.nil
                  go_simp
                  refine hK.out _ _ (HS6.out.alloc _) (fun hS1 => ?_)
                  clear hK K
                  try simp only [Act.put, List.setIfInBounds_toArray, List.set_cons_zero, List.set_cons_succ]
                  refine wpAnyH_ready (rs := [8]) (by kernel_rfl) (by simp) ?_
                  refine AllReadyH.cons (o := { dst := some 65, op := .call { callee := .builtin .append, args := #[.tmp 62, .tmp 64], argTypes := #[22, 22] }, type := 22, pos := "hop.go:51", after := #[{ on := 5, ground := .data }, { on := 7, ground := .data }], guard := none }) rfl (fun K hK => ?_) AllReadyH.nil
                  rw [H67.out]
                  refine Rw.step_append_run rfl (.tmp 62) (.tmp 64) 22 22 rfl _ _ (by simp [Act.eval, Act.put]) (by simp [Act.eval, Act.put]) HAP.out ?_
                  refine hK.out _ _ (H7.out.trans HB9.out) (fun hS2 => ?_)
                  clear hK K
                  try simp only [Act.put, List.setIfInBounds_toArray, List.set_cons_zero, List.set_cons_succ]
                  refine wpAnyH_take (i := 9) (oi := { dst := some 6, op := .assign (.tmp 65), type := 22, pos := "hop.go:51", after := #[{ on := 8, ground := .data }, { on := 8, ground := .chain }, { on := 0, ground := .phase }, { on := 1, ground := .phase }, { on := 2, ground := .phase }, { on := 3, ground := .phase }, { on := 4, ground := .phase }, { on := 5, ground := .phase }, { on := 6, ground := .phase }, { on := 7, ground := .phase }, { on := 8, ground := .phase }], guard := none }) (v := .slice (some ⟨(World.heap W7).size, 0, none⟩) (n + 1) cap) rfl (by kernel_rfl) (by kernel_rfl) (by kernel_rfl) (fun _ _ _ h => h) (Or.inl ⟨by rfl, by intro w hSw; clear hSw; go_simp⟩) hS2 ?_
                  try simp only [Act.put, List.setIfInBounds_toArray, List.set_cons_zero, List.set_cons_succ]
                  refine wpAnyH_take (i := 10) (oi := { dst := some 7, op := .assign (.const (Value.int IntKind.i64 0)), type := 27, pos := "hop.go:51", after := #[{ on := 9, ground := .chain }, { on := 0, ground := .phase }, { on := 1, ground := .phase }, { on := 2, ground := .phase }, { on := 3, ground := .phase }, { on := 4, ground := .phase }, { on := 5, ground := .phase }, { on := 6, ground := .phase }, { on := 7, ground := .phase }, { on := 8, ground := .phase }, { on := 9, ground := .phase }], guard := none }) (v := .int .i64 0) rfl (by kernel_rfl) (by kernel_rfl) (by kernel_rfl) (fun _ _ _ h => h) (Or.inl ⟨by rfl, by intro w hSw; clear hSw; go_simp⟩) hS2 ?_
                  try simp only [Act.put, List.setIfInBounds_toArray, List.set_cons_zero, List.set_cons_succ]
                  refine wpAnyH_done (by kernel_rfl) ?_ _
                  go_wp2_with fail
                  go_ret2
                  refine ⟨_, by rw [HE.out]; rfl, ?_, (K4.out.trans H7.out).trans HB9.out⟩
                  rw [addL_eq HE.out]
                  exact HOW.out.mono (Nat.le_trans (Below.size K4.out) (Below.size H7.out))
  · have HE := Lib.hid (AW.out.1 h0)
    have hne : (e1 != 0) = true := by rw [bne_iff_ne]; exact h0
    have H0 := Lib.hid h0
    clear h0
    go_wp2_with fail
    go_ret2
    exact FIN.out _ e1 K1.out HE.out H0.out
end Hp
end Go.Proofs.Ytahhnfnonekbmaa
