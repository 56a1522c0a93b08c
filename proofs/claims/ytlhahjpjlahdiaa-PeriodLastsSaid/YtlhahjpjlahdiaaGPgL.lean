/-
  What PeriodLasts answer. Conditions: the eleven numbers are of their kinds.
-/
import Derived.Test.YtlhahjpjlahdiaaGPdE
namespace Go.Proofs.Ytlhahjpjlahdiaa
open Go.RowKit Go.Shelf
set_option linter.unusedVariables false
namespace Pd
open Kk Pm

theorem load_guarded_at {ops : Array Oper} {rest : List Oper} {op : Oper} {a : Act} {w : World} {Q : Exit → Act → World → Prop} (k : Nat) (hk : op.dst = some k) (hw : Region.wanted op (yielded ops a.tmps) = true) (ty : TypeId) (x : Operand) (ho : op.op = .load ty x)
    (b o : Nat) (hx : a.eval x = .pointer (some ⟨b, o, none⟩)) (cs : List Value) (d : TypeDesc) (hc : w.rangeAt b o cs)
    (hu : Try.prog.underlying ty = some d) (hd : d.isRow = true) (hi : (Try.prog.info? ty).map (·.size) = some cs.length)
    (h : wpList Try.prog ops Q rest (a.put op.dst (.agg cs.toArray)) w) : wpList Try.prog ops Q (op :: rest) a w := load_guarded hw ty x ho b o hx cs d hc hu hd hi h
theorem tmod_in (b : Int) {n : Int} (hn : 0 < n) : -n < b.tmod n ∧ b.tmod n < n := by
  have h1 := Int.tmod_lt_of_pos b hn
  have h2 : -(b.tmod n) = (-b).tmod n := by rw [Int.neg_tmod]
  have h3 := Int.tmod_lt_of_pos (-b) hn
  omega

set_option maxRecDepth 100000 in
set_option maxHeartbeats 8000000 in
theorem lasts (x : Nat → Int) (hx : Kinds x) (g h b : Int) (hb1 : -9223372036854775808 ≤ b) (hb2 : b ≤ 9223372036854775807) (w : World) :
    Calls Try.prog 7 #[.agg (recC x).toArray, .int .i64 g, .int .i64 h, .int .i64 b] w fun r w' => r = .returned (.bool true) ∧ Bel w w' := by
  obtain ⟨D, hD⟩ : ∃ D, D = recC x := ⟨_, rfl⟩
  obtain ⟨v0, hW0⟩ : ∃ W0, w.alloc (.cells D.toArray 24) = W0 := ⟨_, rfl⟩
  have B0 := Lib.hid (show Bel w v0 by rw [← hW0]; exact (Bel.refl w).alloc _)
  have R0 := Lib.hid (show v0.rangeAt w.heap.size 0 D by rw [← hW0]; exact rngB (Blk.new w D.toArray 24))
  obtain ⟨p, hp⟩ : ∃ p, w.heap.size = p := ⟨_, rfl⟩
  rw [hp] at R0
  have hDl : D.length = 11 := by rw [hD]; rfl
  have iD : (Try.prog.info? 24).map (·.size) = some D.length := by rw [hDl]; exact info_rec
  obtain ⟨a, ha⟩ : ∃ a, agN x g h = a := ⟨_, rfl⟩
  obtain ⟨q, hq⟩ : ∃ q, e2 x g h = q := ⟨_, rfl⟩
  obtain ⟨rb, hr⟩ : ∃ rb, ripB x g h = rb := ⟨_, rfl⟩
  have K := Lib.hid (fun V => check x hx V)
  have C1 := Lib.hid (fun V => agedC x hx g h V)
  have C2 := Lib.hid (fun V => ripeC x hx g h V)
  have CR := Lib.hid (fun c' h' V => ripeC x hx c' h' V)
  have CA := Lib.hid (fun c' h' V => aliveC x hx c' h' V)
  rw [← hD] at K C1 C2 CR CA
  rw [ha] at C1
  rw [hq, hr] at C2
  have HA := Lib.hid ha
  have HQ := Lib.hid hq
  have HR := Lib.hid hr
  clear ha hq hr
  rw [← hD]
  have HX := Lib.hid hx
  have HP := Lib.hid hp
  have HW0 := Lib.hid hW0
  clear hx hp hD hW0 hDl
  go_enter Try.func7, Try.ntmps7
  go_upto_region 1 with fail
  rw [HW0.out, HP.out]
  go_wp2_with fail
  refine (known v0).mono ?_
  rintro r v1 ⟨rfl, k1⟩
  have B1 := Lib.hid (B0.out.trans k1)
  have R1 := Lib.hid (rng_bel R0.out k1)
  clear k1 R0 B0
  go_wp2_with ((with_reducible refine wpList_load_mid ?_ 24 (.tmp 4) ?_ p 0 ?_ D _ R1.out Try.underlying24 ?_ iD ?_); rfl; rfl; rfl; rfl)
  refine (K.out v1).mono ?_
  rintro r v2 ⟨ka, kb, rfl, hC, k2⟩
  have HC := Lib.hid (ce_of hC)
  have B2 := Lib.hid (B1.out.trans k2)
  have R2 := Lib.hid (rng_bel R1.out k2)
  clear hC k2 K R1 B1
  by_cases h0 : ka = 0
  · subst h0
    go_wp2_with ((with_reducible refine wpList_load_mid ?_ 24 (.tmp 4) ?_ p 0 ?_ D _ R2.out Try.underlying24 ?_ iD ?_); rfl; rfl; rfl; rfl)
    refine (C1.out v2).mono ?_
    rintro r v3 ⟨rfl, k3⟩
    have B3 := Lib.hid (B2.out.trans k3)
    have R3 := Lib.hid (rng_bel R2.out k3)
    clear k3 R2 B2
    by_cases h2 : a = 0
    · subst h2
      have FA := Lib.hid (ag_zero HA.out)
      obtain ⟨_, g1, g2, g3, g4⟩ := FA.out
      clear g4
      by_cases hgh : g < h
      · have e1 : IntKind.i64.wrap (h - g) = h - g := wrapI _ (by omega) (by omega)
        have e2 : IntKind.i64.wrap (h - g + 1) = h - g + 1 := wrapI _ (by omega) (by omega)
        obtain ⟨m, hm⟩ : ∃ m, b.tmod (h - g + 1) = m := ⟨_, rfl⟩
        have m1 : -(h - g + 1) < m ∧ m < h - g + 1 := by rw [← hm]; exact tmod_in b (by omega)
        have e3 : IntKind.i64.wrap (g + m) = g + m := wrapI _ (by omega) (by omega)
        have e4 : h - g + 1 ≠ 0 := by omega
        have e5 : ¬ h - g + 1 = -1 := by omega
        by_cases hcg : g + m < g
        · go_upto_region 9 with fail
          have hc1 : g ≤ g := by omega
          have hc2 : g ≤ h := by omega
          obtain ⟨p1, p2⟩ := has_past HX.out (HA.out) hc1 hc2
          have D4 := Lib.hid (CA.out (g) h)
          rw [p1, p2] at D4
          clear p1 p2
          have h1 : 1 < h := by omega
          obtain ⟨p3, p4⟩ := not_ripe HX.out (HA.out) hc1 hc2 h1
          have D3 := Lib.hid (CR.out (g) (h - 1))
          rw [p3, p4] at D3
          clear p3 p4
          have h1b : decide (1 < h) = true := decide_eq_true h1
          have x2 : IntKind.i64.wrap (h - 1) = h - 1 := wrapI _ (by omega) (by omega)
          go_wp2_with ((with_reducible refine load_guarded_at 54 ?_ ?_ 24 (.tmp 4) ?_ p 0 ?_ D _ R3.out Try.underlying24 ?_ iD ?_); rfl; rfl; rfl; rfl; rfl)
          refine (D3.out v3).mono ?_
          rintro r v4 ⟨rfl, k4⟩
          have B4 := Lib.hid (B3.out.trans k4)
          have R4 := Lib.hid (rng_bel R3.out k4)
          clear k4 R3 B3
          go_wp2_with fail
          refine (yes false 0 _ (by decide)).mono ?_
          rintro r x2 ⟨rfl, rfl⟩
          rw [show ye false 0 = 0 from rfl]
          go_wp2_with ((with_reducible refine load_guarded_at 65 ?_ ?_ 24 (.tmp 4) ?_ p 0 ?_ D _ R4.out Try.underlying24 ?_ iD ?_); rfl; rfl; rfl; rfl; rfl)
          refine (D4.out v4).mono ?_
          rintro r v5 ⟨rfl, k5⟩
          have B5 := Lib.hid (B4.out.trans k5)
          have R5 := Lib.hid (rng_bel R4.out k5)
          clear k5 R4 B4
          go_wp2_with fail
          refine (yes true 0 _ (by decide)).mono ?_
          rintro r x2 ⟨rfl, rfl⟩
          rw [show ye true 0 = 1 from rfl]
          have YR := Lib.hid (fun V => yes rb q V (by rw [← HQ.out]; have := e2_b x g h; omega))
          obtain ⟨y, hy⟩ : ∃ y, ye rb q = y := ⟨_, rfl⟩
          rw [hy] at YR
          have HY := Lib.hid hy
          clear hy
          go_wp2_with ((with_reducible refine wpList_load_mid ?_ 24 (.tmp 4) ?_ p 0 ?_ D _ R5.out Try.underlying24 ?_ iD ?_); rfl; rfl; rfl; rfl)
          refine (C2.out v5).mono ?_
          rintro r v6 ⟨rfl, k6⟩
          have B6 := Lib.hid (B5.out.trans k6)
          have R6 := Lib.hid (rng_bel R5.out k6)
          clear k6 R5 B5
          go_wp2_with fail
          refine (YR.out _).mono ?_
          rintro r x1 ⟨rfl, rfl⟩
          by_cases y1 : y = 1
          · subst y1
            by_cases hm : h < 4294967296
            · have hm2 : decide (h < 4294967296) = true := decide_eq_true hm
              obtain ⟨z1, z2⟩ := ye_ripe (x := x) (g := g) (h := h) (by rw [HR.out, HQ.out]; exact HY.out)
              obtain ⟨z3, z4, z5⟩ := stays HX.out z1 z2 hm
              have hz := e2_zero z1
              have hb0 : -9223372036854775808 ≤ h := by omega
              have D1 := Lib.hid (CR.out g (h + 1))
              rw [z3, z4] at D1
              have D2 := Lib.hid (CA.out g (h + 1))
              rw [z3, z5] at D2
              have x1 : IntKind.i64.wrap (h + 1) = h + 1 := wrapI _ (by omega) (by omega)
              clear hz z1 z2 z3 z4 z5
              go_wp2_with ((with_reducible refine load_guarded_at 87 ?_ ?_ 24 (.tmp 4) ?_ p 0 ?_ D _ R6.out Try.underlying24 ?_ iD ?_); rfl; rfl; rfl; rfl; rfl)
              refine (D1.out v6).mono ?_
              rintro r v7 ⟨rfl, k7⟩
              have B7 := Lib.hid (B6.out.trans k7)
              have R7 := Lib.hid (rng_bel R6.out k7)
              clear k7 R6 B6
              go_wp2_with fail
              refine (yes true 0 _ (by decide)).mono ?_
              rintro r x2 ⟨rfl, rfl⟩
              rw [show ye true 0 = 1 from rfl]
              go_wp2_with ((with_reducible refine load_guarded_at 97 ?_ ?_ 24 (.tmp 4) ?_ p 0 ?_ D _ R7.out Try.underlying24 ?_ iD ?_); rfl; rfl; rfl; rfl; rfl)
              refine (D2.out v7).mono ?_
              rintro r v8 ⟨rfl, k8⟩
              have B8 := Lib.hid (B7.out.trans k8)
              have R8 := Lib.hid (rng_bel R7.out k8)
              clear k8 R7 B7
              go_wp2_with fail
              refine (yes false 0 _ (by decide)).mono ?_
              rintro r x3 ⟨rfl, rfl⟩
              rw [show ye false 0 = 0 from rfl]
              go_wp2_with fail
              go_ret
              exact ⟨rfl, B8.out⟩
            · have hm2 : decide (h < 4294967296) = false := decide_eq_false hm
              go_wp2_with fail
              go_ret
              exact ⟨rfl, B6.out⟩
          · have yb : (y == 1) = false := by simpa using y1
            go_wp2_with fail
            go_ret
            exact ⟨rfl, B6.out⟩
        · go_upto_region 9 with fail
          have hc1 : g ≤ g + m := by omega
          have hc2 : g + m ≤ h := by omega
          obtain ⟨p1, p2⟩ := has_past HX.out (HA.out) hc1 hc2
          have D4 := Lib.hid (CA.out (g + m) h)
          rw [p1, p2] at D4
          clear p1 p2
          have h1 : 1 < h := by omega
          obtain ⟨p3, p4⟩ := not_ripe HX.out (HA.out) hc1 hc2 h1
          have D3 := Lib.hid (CR.out (g + m) (h - 1))
          rw [p3, p4] at D3
          clear p3 p4
          have h1b : decide (1 < h) = true := decide_eq_true h1
          have x2 : IntKind.i64.wrap (h - 1) = h - 1 := wrapI _ (by omega) (by omega)
          go_wp2_with ((with_reducible refine load_guarded_at 54 ?_ ?_ 24 (.tmp 4) ?_ p 0 ?_ D _ R3.out Try.underlying24 ?_ iD ?_); rfl; rfl; rfl; rfl; rfl)
          refine (D3.out v3).mono ?_
          rintro r v4 ⟨rfl, k4⟩
          have B4 := Lib.hid (B3.out.trans k4)
          have R4 := Lib.hid (rng_bel R3.out k4)
          clear k4 R3 B3
          go_wp2_with fail
          refine (yes false 0 _ (by decide)).mono ?_
          rintro r x2 ⟨rfl, rfl⟩
          rw [show ye false 0 = 0 from rfl]
          go_wp2_with ((with_reducible refine load_guarded_at 65 ?_ ?_ 24 (.tmp 4) ?_ p 0 ?_ D _ R4.out Try.underlying24 ?_ iD ?_); rfl; rfl; rfl; rfl; rfl)
          refine (D4.out v4).mono ?_
          rintro r v5 ⟨rfl, k5⟩
          have B5 := Lib.hid (B4.out.trans k5)
          have R5 := Lib.hid (rng_bel R4.out k5)
          clear k5 R4 B4
          go_wp2_with fail
          refine (yes true 0 _ (by decide)).mono ?_
          rintro r x2 ⟨rfl, rfl⟩
          rw [show ye true 0 = 1 from rfl]
          have YR := Lib.hid (fun V => yes rb q V (by rw [← HQ.out]; have := e2_b x g h; omega))
          obtain ⟨y, hy⟩ : ∃ y, ye rb q = y := ⟨_, rfl⟩
          rw [hy] at YR
          have HY := Lib.hid hy
          clear hy
          go_wp2_with ((with_reducible refine wpList_load_mid ?_ 24 (.tmp 4) ?_ p 0 ?_ D _ R5.out Try.underlying24 ?_ iD ?_); rfl; rfl; rfl; rfl)
          refine (C2.out v5).mono ?_
          rintro r v6 ⟨rfl, k6⟩
          have B6 := Lib.hid (B5.out.trans k6)
          have R6 := Lib.hid (rng_bel R5.out k6)
          clear k6 R5 B5
          go_wp2_with fail
          refine (YR.out _).mono ?_
          rintro r x1 ⟨rfl, rfl⟩
          by_cases y1 : y = 1
          · subst y1
            by_cases hm : h < 4294967296
            · have hm2 : decide (h < 4294967296) = true := decide_eq_true hm
              obtain ⟨z1, z2⟩ := ye_ripe (x := x) (g := g) (h := h) (by rw [HR.out, HQ.out]; exact HY.out)
              obtain ⟨z3, z4, z5⟩ := stays HX.out z1 z2 hm
              have hz := e2_zero z1
              have hb0 : -9223372036854775808 ≤ h := by omega
              have D1 := Lib.hid (CR.out g (h + 1))
              rw [z3, z4] at D1
              have D2 := Lib.hid (CA.out g (h + 1))
              rw [z3, z5] at D2
              have x1 : IntKind.i64.wrap (h + 1) = h + 1 := wrapI _ (by omega) (by omega)
              clear hz z1 z2 z3 z4 z5
              go_wp2_with ((with_reducible refine load_guarded_at 87 ?_ ?_ 24 (.tmp 4) ?_ p 0 ?_ D _ R6.out Try.underlying24 ?_ iD ?_); rfl; rfl; rfl; rfl; rfl)
              refine (D1.out v6).mono ?_
              rintro r v7 ⟨rfl, k7⟩
              have B7 := Lib.hid (B6.out.trans k7)
              have R7 := Lib.hid (rng_bel R6.out k7)
              clear k7 R6 B6
              go_wp2_with fail
              refine (yes true 0 _ (by decide)).mono ?_
              rintro r x2 ⟨rfl, rfl⟩
              rw [show ye true 0 = 1 from rfl]
              go_wp2_with ((with_reducible refine load_guarded_at 97 ?_ ?_ 24 (.tmp 4) ?_ p 0 ?_ D _ R7.out Try.underlying24 ?_ iD ?_); rfl; rfl; rfl; rfl; rfl)
              refine (D2.out v7).mono ?_
              rintro r v8 ⟨rfl, k8⟩
              have B8 := Lib.hid (B7.out.trans k8)
              have R8 := Lib.hid (rng_bel R7.out k8)
              clear k8 R7 B7
              go_wp2_with fail
              refine (yes false 0 _ (by decide)).mono ?_
              rintro r x3 ⟨rfl, rfl⟩
              rw [show ye false 0 = 0 from rfl]
              go_wp2_with fail
              go_ret
              exact ⟨rfl, B8.out⟩
            · have hm2 : decide (h < 4294967296) = false := decide_eq_false hm
              go_wp2_with fail
              go_ret
              exact ⟨rfl, B6.out⟩
          · have yb : (y == 1) = false := by simpa using y1
            go_wp2_with fail
            go_ret
            exact ⟨rfl, B6.out⟩
      · have hle : h ≤ g := by omega
        have hc1 : g ≤ g := by omega
        have hc2 : g ≤ h := by omega
        obtain ⟨p1, p2⟩ := has_past HX.out (HA.out) hc1 hc2
        have D4 := Lib.hid (CA.out (g) h)
        rw [p1, p2] at D4
        clear p1 p2
        by_cases h1 : 1 < h
        · skip
          obtain ⟨p3, p4⟩ := not_ripe HX.out (HA.out) hc1 hc2 h1
          have D3 := Lib.hid (CR.out (g) (h - 1))
          rw [p3, p4] at D3
          clear p3 p4
          have h1b : decide (1 < h) = true := decide_eq_true h1
          have x2 : IntKind.i64.wrap (h - 1) = h - 1 := wrapI _ (by omega) (by omega)
          go_wp2_with ((with_reducible refine load_guarded_at 54 ?_ ?_ 24 (.tmp 4) ?_ p 0 ?_ D _ R3.out Try.underlying24 ?_ iD ?_); rfl; rfl; rfl; rfl; rfl)
          refine (D3.out v3).mono ?_
          rintro r v4 ⟨rfl, k4⟩
          have B4 := Lib.hid (B3.out.trans k4)
          have R4 := Lib.hid (rng_bel R3.out k4)
          clear k4 R3 B3
          go_wp2_with fail
          refine (yes false 0 _ (by decide)).mono ?_
          rintro r x2 ⟨rfl, rfl⟩
          rw [show ye false 0 = 0 from rfl]
          go_wp2_with ((with_reducible refine load_guarded_at 65 ?_ ?_ 24 (.tmp 4) ?_ p 0 ?_ D _ R4.out Try.underlying24 ?_ iD ?_); rfl; rfl; rfl; rfl; rfl)
          refine (D4.out v4).mono ?_
          rintro r v5 ⟨rfl, k5⟩
          have B5 := Lib.hid (B4.out.trans k5)
          have R5 := Lib.hid (rng_bel R4.out k5)
          clear k5 R4 B4
          go_wp2_with fail
          refine (yes true 0 _ (by decide)).mono ?_
          rintro r x2 ⟨rfl, rfl⟩
          rw [show ye true 0 = 1 from rfl]
          have YR := Lib.hid (fun V => yes rb q V (by rw [← HQ.out]; have := e2_b x g h; omega))
          obtain ⟨y, hy⟩ : ∃ y, ye rb q = y := ⟨_, rfl⟩
          rw [hy] at YR
          have HY := Lib.hid hy
          clear hy
          go_wp2_with ((with_reducible refine wpList_load_mid ?_ 24 (.tmp 4) ?_ p 0 ?_ D _ R5.out Try.underlying24 ?_ iD ?_); rfl; rfl; rfl; rfl)
          refine (C2.out v5).mono ?_
          rintro r v6 ⟨rfl, k6⟩
          have B6 := Lib.hid (B5.out.trans k6)
          have R6 := Lib.hid (rng_bel R5.out k6)
          clear k6 R5 B5
          go_wp2_with fail
          refine (YR.out _).mono ?_
          rintro r x1 ⟨rfl, rfl⟩
          by_cases y1 : y = 1
          · subst y1
            by_cases hm : h < 4294967296
            · have hm2 : decide (h < 4294967296) = true := decide_eq_true hm
              obtain ⟨z1, z2⟩ := ye_ripe (x := x) (g := g) (h := h) (by rw [HR.out, HQ.out]; exact HY.out)
              obtain ⟨z3, z4, z5⟩ := stays HX.out z1 z2 hm
              have hz := e2_zero z1
              have hb0 : -9223372036854775808 ≤ h := by omega
              have D1 := Lib.hid (CR.out g (h + 1))
              rw [z3, z4] at D1
              have D2 := Lib.hid (CA.out g (h + 1))
              rw [z3, z5] at D2
              have x1 : IntKind.i64.wrap (h + 1) = h + 1 := wrapI _ (by omega) (by omega)
              clear hz z1 z2 z3 z4 z5
              go_wp2_with ((with_reducible refine load_guarded_at 87 ?_ ?_ 24 (.tmp 4) ?_ p 0 ?_ D _ R6.out Try.underlying24 ?_ iD ?_); rfl; rfl; rfl; rfl; rfl)
              refine (D1.out v6).mono ?_
              rintro r v7 ⟨rfl, k7⟩
              have B7 := Lib.hid (B6.out.trans k7)
              have R7 := Lib.hid (rng_bel R6.out k7)
              clear k7 R6 B6
              go_wp2_with fail
              refine (yes true 0 _ (by decide)).mono ?_
              rintro r x2 ⟨rfl, rfl⟩
              rw [show ye true 0 = 1 from rfl]
              go_wp2_with ((with_reducible refine load_guarded_at 97 ?_ ?_ 24 (.tmp 4) ?_ p 0 ?_ D _ R7.out Try.underlying24 ?_ iD ?_); rfl; rfl; rfl; rfl; rfl)
              refine (D2.out v7).mono ?_
              rintro r v8 ⟨rfl, k8⟩
              have B8 := Lib.hid (B7.out.trans k8)
              have R8 := Lib.hid (rng_bel R7.out k8)
              clear k8 R7 B7
              go_wp2_with fail
              refine (yes false 0 _ (by decide)).mono ?_
              rintro r x3 ⟨rfl, rfl⟩
              rw [show ye false 0 = 0 from rfl]
              go_wp2_with fail
              go_ret
              exact ⟨rfl, B8.out⟩
            · have hm2 : decide (h < 4294967296) = false := decide_eq_false hm
              go_wp2_with fail
              go_ret
              exact ⟨rfl, B6.out⟩
          · have yb : (y == 1) = false := by simpa using y1
            go_wp2_with fail
            go_ret
            exact ⟨rfl, B6.out⟩
        · have h1b : decide (1 < h) = false := decide_eq_false h1
          go_wp2_with ((with_reducible refine load_guarded_at 65 ?_ ?_ 24 (.tmp 4) ?_ p 0 ?_ D _ R3.out Try.underlying24 ?_ iD ?_); rfl; rfl; rfl; rfl; rfl)
          refine (D4.out v3).mono ?_
          rintro r v4 ⟨rfl, k4⟩
          have B4 := Lib.hid (B3.out.trans k4)
          have R4 := Lib.hid (rng_bel R3.out k4)
          clear k4 R3 B3
          go_wp2_with fail
          refine (yes true 0 _ (by decide)).mono ?_
          rintro r x2 ⟨rfl, rfl⟩
          rw [show ye true 0 = 1 from rfl]
          have YR := Lib.hid (fun V => yes rb q V (by rw [← HQ.out]; have := e2_b x g h; omega))
          obtain ⟨y, hy⟩ : ∃ y, ye rb q = y := ⟨_, rfl⟩
          rw [hy] at YR
          have HY := Lib.hid hy
          clear hy
          go_wp2_with ((with_reducible refine wpList_load_mid ?_ 24 (.tmp 4) ?_ p 0 ?_ D _ R4.out Try.underlying24 ?_ iD ?_); rfl; rfl; rfl; rfl)
          refine (C2.out v4).mono ?_
          rintro r v5 ⟨rfl, k5⟩
          have B5 := Lib.hid (B4.out.trans k5)
          have R5 := Lib.hid (rng_bel R4.out k5)
          clear k5 R4 B4
          go_wp2_with fail
          refine (YR.out _).mono ?_
          rintro r x1 ⟨rfl, rfl⟩
          by_cases y1 : y = 1
          · subst y1
            by_cases hm : h < 4294967296
            · have hm2 : decide (h < 4294967296) = true := decide_eq_true hm
              obtain ⟨z1, z2⟩ := ye_ripe (x := x) (g := g) (h := h) (by rw [HR.out, HQ.out]; exact HY.out)
              obtain ⟨z3, z4, z5⟩ := stays HX.out z1 z2 hm
              have hz := e2_zero z1
              have hb0 : -9223372036854775808 ≤ h := by omega
              have D1 := Lib.hid (CR.out g (h + 1))
              rw [z3, z4] at D1
              have D2 := Lib.hid (CA.out g (h + 1))
              rw [z3, z5] at D2
              have x1 : IntKind.i64.wrap (h + 1) = h + 1 := wrapI _ (by omega) (by omega)
              clear hz z1 z2 z3 z4 z5
              go_wp2_with ((with_reducible refine load_guarded_at 87 ?_ ?_ 24 (.tmp 4) ?_ p 0 ?_ D _ R5.out Try.underlying24 ?_ iD ?_); rfl; rfl; rfl; rfl; rfl)
              refine (D1.out v5).mono ?_
              rintro r v6 ⟨rfl, k6⟩
              have B6 := Lib.hid (B5.out.trans k6)
              have R6 := Lib.hid (rng_bel R5.out k6)
              clear k6 R5 B5
              go_wp2_with fail
              refine (yes true 0 _ (by decide)).mono ?_
              rintro r x2 ⟨rfl, rfl⟩
              rw [show ye true 0 = 1 from rfl]
              go_wp2_with ((with_reducible refine load_guarded_at 97 ?_ ?_ 24 (.tmp 4) ?_ p 0 ?_ D _ R6.out Try.underlying24 ?_ iD ?_); rfl; rfl; rfl; rfl; rfl)
              refine (D2.out v6).mono ?_
              rintro r v7 ⟨rfl, k7⟩
              have B7 := Lib.hid (B6.out.trans k7)
              have R7 := Lib.hid (rng_bel R6.out k7)
              clear k7 R6 B6
              go_wp2_with fail
              refine (yes false 0 _ (by decide)).mono ?_
              rintro r x3 ⟨rfl, rfl⟩
              rw [show ye false 0 = 0 from rfl]
              go_wp2_with fail
              go_ret
              exact ⟨rfl, B7.out⟩
            · have hm2 : decide (h < 4294967296) = false := decide_eq_false hm
              go_wp2_with fail
              go_ret
              exact ⟨rfl, B5.out⟩
          · have yb : (y == 1) = false := by simpa using y1
            go_wp2_with fail
            go_ret
            exact ⟨rfl, B5.out⟩
    · have ab : (a == 0) = false := by simpa using h2
      have YR := Lib.hid (fun V => yes rb q V (by rw [← HQ.out]; have := e2_b x g h; omega))
      obtain ⟨y, hy⟩ : ∃ y, ye rb q = y := ⟨_, rfl⟩
      rw [hy] at YR
      have HY := Lib.hid hy
      clear hy
      go_wp2_with ((with_reducible refine wpList_load_mid ?_ 24 (.tmp 4) ?_ p 0 ?_ D _ R3.out Try.underlying24 ?_ iD ?_); rfl; rfl; rfl; rfl)
      refine (C2.out v3).mono ?_
      rintro r v4 ⟨rfl, k4⟩
      have B4 := Lib.hid (B3.out.trans k4)
      have R4 := Lib.hid (rng_bel R3.out k4)
      clear k4 R3 B3
      go_wp2_with fail
      refine (YR.out _).mono ?_
      rintro r x1 ⟨rfl, rfl⟩
      by_cases y1 : y = 1
      · subst y1
        by_cases hm : h < 4294967296
        · have hm2 : decide (h < 4294967296) = true := decide_eq_true hm
          obtain ⟨z1, z2⟩ := ye_ripe (x := x) (g := g) (h := h) (by rw [HR.out, HQ.out]; exact HY.out)
          obtain ⟨z3, z4, z5⟩ := stays HX.out z1 z2 hm
          have hz := e2_zero z1
          have hb0 : -9223372036854775808 ≤ h := by omega
          have D1 := Lib.hid (CR.out g (h + 1))
          rw [z3, z4] at D1
          have D2 := Lib.hid (CA.out g (h + 1))
          rw [z3, z5] at D2
          have x1 : IntKind.i64.wrap (h + 1) = h + 1 := wrapI _ (by omega) (by omega)
          clear hz z1 z2 z3 z4 z5
          go_wp2_with ((with_reducible refine load_guarded_at 87 ?_ ?_ 24 (.tmp 4) ?_ p 0 ?_ D _ R4.out Try.underlying24 ?_ iD ?_); rfl; rfl; rfl; rfl; rfl)
          refine (D1.out v4).mono ?_
          rintro r v5 ⟨rfl, k5⟩
          have B5 := Lib.hid (B4.out.trans k5)
          have R5 := Lib.hid (rng_bel R4.out k5)
          clear k5 R4 B4
          go_wp2_with fail
          refine (yes true 0 _ (by decide)).mono ?_
          rintro r x2 ⟨rfl, rfl⟩
          rw [show ye true 0 = 1 from rfl]
          go_wp2_with ((with_reducible refine load_guarded_at 97 ?_ ?_ 24 (.tmp 4) ?_ p 0 ?_ D _ R5.out Try.underlying24 ?_ iD ?_); rfl; rfl; rfl; rfl; rfl)
          refine (D2.out v5).mono ?_
          rintro r v6 ⟨rfl, k6⟩
          have B6 := Lib.hid (B5.out.trans k6)
          have R6 := Lib.hid (rng_bel R5.out k6)
          clear k6 R5 B5
          go_wp2_with fail
          refine (yes false 0 _ (by decide)).mono ?_
          rintro r x3 ⟨rfl, rfl⟩
          rw [show ye false 0 = 0 from rfl]
          go_wp2_with fail
          go_ret
          exact ⟨rfl, B6.out⟩
        · have hm2 : decide (h < 4294967296) = false := decide_eq_false hm
          go_wp2_with fail
          go_ret
          exact ⟨rfl, B4.out⟩
      · have yb : (y == 1) = false := by simpa using y1
        go_wp2_with fail
        go_ret
        exact ⟨rfl, B4.out⟩
  · have HE := Lib.hid (show a = ka by rw [← HA.out, HC.out]; exact ag_bad (by rw [← HC.out]; exact h0))
    have kb : (ka != 0) = true := by simpa using h0
    go_wp2_with ((with_reducible refine load_guarded_at 23 ?_ ?_ 24 (.tmp 4) ?_ p 0 ?_ D _ R2.out Try.underlying24 ?_ iD ?_); rfl; rfl; rfl; rfl; rfl)
    refine (C1.out v2).mono ?_
    rintro r v3 ⟨rfl, k3⟩
    have B3 := Lib.hid (B2.out.trans k3)
    rw [HE.out]
    clear k3
    go_wp2_with fail
    go_ret
    exact ⟨rfl, B3.out⟩

theorem lastsLaw (x : Nat → Int) (g h b : Int) (w : World) (hx : Kinds x) (i0 : -9223372036854775808 ≤ g) (j0 : g ≤ 9223372036854775807) (i1 : -9223372036854775808 ≤ h) (j1 : h ≤ 9223372036854775807) (i2 : -9223372036854775808 ≤ b) (j2 : b ≤ 9223372036854775807) :
    Calls Try.prog 7 #[.agg (recC x).toArray, .int .i64 g, .int .i64 h, .int .i64 b] w fun r w' => r = .returned (.bool true) ∧ Bel w w' := lasts x hx g h b i2 j2 w
end Pd
end Go.Proofs.Ytlhahjpjlahdiaa
