/-
  ShareActs: a pool's Value, Price and Check, and what Joins, Leaves and Cuts make of it, are the document's. Conditions: the numbers are words; the acts lie in memory.
-/
import Derived.Test.YtmfajljgcndgfaaSh10
import Derived.Test.YtmfajljgcndgfaaSh7
namespace Go.Proofs.Ytmfajljgcndgfaa
open Go.RowKit Go.Shelf
set_option linter.unusedVariables false
namespace Sh
open Fix (partN partE)

theorem one2 (A B : Int) : (#[Value.int .u64 A, .int .u64 B] : Array Value).all (·.oneCell') = true := all_oneCell_toArray (cs := [.int .u64 A, .int .u64 B]) (by intro u hu; simp at hu; rcases hu with rfl | rfl <;> rfl)
/-- Acts in memory. -/
def ActB (k x : Int) : Prop := -9223372036854775808 ≤ k ∧ k ≤ 9223372036854775807 ∧ 0 ≤ x ∧ x ≤ 18446744073709551615
def Acts (w : World) (A : Option Addr) (n : Nat) : Prop := 0 < n → ∃ b o, A = some ⟨b, o, none⟩ ∧ b < w.heap.size ∧ ∀ i, i < n → ∃ k x, ActB k x ∧ w.rangeAt b (o + i * 2) [.int .i64 k, .int .u64 x]
theorem Acts.bel {w w' : World} {A : Option Addr} {n : Nat} (h : Acts w A n) (hb : Bel w w') : Acts w' A n := fun hn => by
  obtain ⟨b, o, e, hlt, hc⟩ := h hn
  refine ⟨b, o, e, Nat.lt_of_lt_of_le hlt (Below.size hb), fun i hi => ?_⟩
  obtain ⟨k, x, hx, hr⟩ := hc i hi
  exact ⟨k, x, hx, Pm.rng_bel hr hb⟩

theorem d_wd {k T S x : Int} (hT : Wd T) (hS : Wd S) (hx : Wd x) : Wd (dT k T S x) ∧ Wd (dS k T S x) := by
  obtain ⟨t0, t1⟩ := hT
  obtain ⟨s0, s1⟩ := hS
  obtain ⟨x0, x1⟩ := hx
  have z : Wd 0 := ⟨by decide, by decide⟩
  by_cases h0 : k = 0
  · subst h0
    rw [(d0 T S x).2.1, (d0 T S x).2.2.1]
    by_cases h : joiE T S x = 0
    · obtain ⟨e1, e2, _⟩ := joi_yes h
      obtain ⟨_, _, _, j1, j2⟩ := joi_ok h
      obtain ⟨p0, p1⟩ := priN_le t0 s0 x0 (a := x) (T := T) (S := S)
      rw [e1, e2]
      exact ⟨⟨by omega, by omega⟩, ⟨by omega, by omega⟩⟩
    · obtain ⟨e1, e2, _⟩ := joi_no h
      rw [e1, e2]
      exact ⟨z, z⟩
  · by_cases h1 : k = 1
    · subst h1
      rw [(d1 T S x).2.1, (d1 T S x).2.2.1]
      by_cases h : leaE T S x = 0
      · obtain ⟨e1, e2, _⟩ := lea_yes h
        obtain ⟨_, _, j1, j2, j3⟩ := lea_ok t0 x0 h
        rw [e1, e2]
        exact ⟨⟨by omega, by omega⟩, ⟨by omega, by omega⟩⟩
      · obtain ⟨e1, e2, _⟩ := lea_no h
        rw [e1, e2]
        exact ⟨z, z⟩
    · by_cases h2 : k = 2
      · subst h2
        rw [(d2 T S x).2.1, (d2 T S x).2.2.1]
        by_cases h : cutE T S x = 0
        · obtain ⟨e1, _, e3, e4⟩ := cut_yes h
          obtain ⟨p0, p1⟩ := part_b t0 t1 x0 (p := x)
          rw [e1]
          refine ⟨⟨by omega, by omega⟩, ?_⟩
          by_cases hp : partN T x = T
          · rw [e3 hp]; exact z
          · rw [e4 hp]; exact ⟨s0, s1⟩
        · obtain ⟨e1, e2, _⟩ := cut_no h
          rw [e1, e2]
          exact ⟨z, z⟩
      · obtain ⟨_, e1, e2, _⟩ := d3 T S x h0 h1 h2
        rw [e1, e2]
        exact ⟨⟨t0, t1⟩, ⟨s0, s1⟩⟩

set_option maxRecDepth 10000 in
set_option maxHeartbeats 4000000 in
theorem actsLaw (T S n : Int) (A : Option Addr) (ln cap : Nat) (w : World) (t0 : 0 ≤ T) (t1 : T ≤ 18446744073709551615) (s0 : 0 ≤ S) (s1 : S ≤ 18446744073709551615) (n0 : 0 ≤ n) (n1 : n ≤ 18446744073709551615) (hl : ln ≤ 9223372036854775807) (ha : Acts w A ln) :
    Calls Try.prog 3 #[pV T S, .int .u64 n, .slice A ln cap] w fun r w' => r = .returned (.bool true) ∧ Bel w w' := by
  have HA := Lib.hid ha
  have N0 := Lib.hid (And.intro n0 n1)
  have WT : Wd T := ⟨t0, t1⟩
  have WS : Wd S := ⟨s0, s1⟩
  have PN := PB.new (W := w) T S
  clear ha t0 t1 s0 s1 n0 n1
  go_enter Try.func3, Try.ntmps3
  go_upto_region 1 with fail
  obtain ⟨W, hW⟩ : ∃ W, w.alloc (.cells #[.int .u64 T, .int .u64 S] 24) = W := ⟨_, rfl⟩
  obtain ⟨p, hp⟩ : ∃ p, w.heap.size = p := ⟨_, rfl⟩
  have B0 : Bel w W := by rw [← hW]; exact (Bel.refl _).alloc _
  rw [hW, hp] at PN
  rw [hW, hp]
  clear hW
  by_cases h30 : 30 < ln
  · have h30' : (30 : Int) < (ln : Int) := by omega
    go_wp2_with fail
    refine (awake _).mono ?_
    rintro e w1 ⟨rfl, kb⟩
    have K := Lib.hid (B0.trans kb)
    go_wp2_with fail
    go_ret
    exact ⟨rfl, K.out⟩
  · have h30' : (ln : Int) ≤ 30 := by omega
    have W0 := Lib.hid (And.intro WT WS)
    have P0 := Lib.hid PN
    have K0 := Lib.hid B0
    have HP := Lib.hid hp
    clear WT WS PN B0 hp
    go_upto_region 3 with fail
    go_wp2_with fail
    go_loopw [7] (fun s7 wr => ∃ (k : Nat) (X Y : Int), s7 = .int .i64 k ∧ k ≤ ln ∧ Hid (Wd X ∧ Wd Y ∧ PB wr p X Y ∧ Bel w wr)) (fun s7 _ => ln + 1 - (intOf s7).toNat)
    case atStart => exact ⟨0, T, S, rfl, Nat.zero_le _, Lib.hid ⟨W0.out.1, W0.out.2, P0.out, K0.out⟩⟩
    case round =>
      obtain ⟨i, X, Y, rfl, hk, hr⟩ := hrel
      obtain ⟨hX, hY, hP, hB⟩ := hr.out
      clear hr
      have WX := Lib.hid (And.intro hX hY)
      have hki : (i : Int) ≤ (ln : Int) := by omega
      have VA := Lib.hid (fun W => valueE X Y n W hX.1 hX.2 hY.1 hY.2 N0.out.1 N0.out.2)
      have VB := Lib.hid (fun W => valueR X Y n W hX.1 hX.2 hY.1 hY.2 N0.out.1 N0.out.2)
      have PA := Lib.hid (fun W => priceE X Y n W hX.1 hX.2 hY.1 hY.2 N0.out.1 N0.out.2)
      have PRB := Lib.hid (fun W => priceR X Y n W hX.1 hX.2 hY.1 hY.2 N0.out.1 N0.out.2)
      have CA := Lib.hid (fun W => checkE X Y W hX.1 hY.1)
      have CB := Lib.hid (fun W => checkR X Y W hX.1 hY.1)
      obtain ⟨a, ha⟩ : ∃ a, valN X Y n = a := ⟨_, rfl⟩
      obtain ⟨e0, he⟩ : ∃ e, valE X Y n = e := ⟨_, rfl⟩
      obtain ⟨c, hc⟩ : ∃ c, priN X Y n = c := ⟨_, rfl⟩
      obtain ⟨g0, hg⟩ : ∃ e, priE X Y n = e := ⟨_, rfl⟩
      obtain ⟨ch, hch⟩ : ∃ e, chk X Y = e := ⟨_, rfl⟩
      rw [ha, he] at VA VB
      rw [hc, hg] at PA PRB
      rw [hch] at CA CB
      clear ha he hc hg hch hX hY
      have KB := Lib.hid hB
      have c0 := hP.cell 0 rfl
      have c1 := hP.cell 1 rfl
      clear hB
      go_wp2_with fail
      refine (VA.out _).mono ?_
      rintro e w1 ⟨rfl, kb⟩
      have hP := hP.bel kb
      have KB := Lib.hid (KB.out.trans kb)
      clear kb c0 c1
      have c0 := hP.cell 0 rfl
      have c1 := hP.cell 1 rfl
      go_wp2_with fail
      refine (VB.out _).mono ?_
      rintro e w2 ⟨rfl, kb⟩
      have hP := hP.bel kb
      have KB := Lib.hid (KB.out.trans kb)
      clear kb c0 c1
      have c0 := hP.cell 0 rfl
      have c1 := hP.cell 1 rfl
      go_wp2_with fail
      refine (PA.out _).mono ?_
      rintro e w3 ⟨rfl, kb⟩
      have hP := hP.bel kb
      have KB := Lib.hid (KB.out.trans kb)
      clear kb c0 c1
      have c0 := hP.cell 0 rfl
      have c1 := hP.cell 1 rfl
      go_wp2_with fail
      refine (PRB.out _).mono ?_
      rintro e w4 ⟨rfl, kb⟩
      have hP := hP.bel kb
      have KB := Lib.hid (KB.out.trans kb)
      clear kb c0 c1
      have c0 := hP.cell 0 rfl
      have c1 := hP.cell 1 rfl
      go_upto_region 10 with fail
      have hS : Bel w4 w4.drew ∧ w4.drew.cell? ⟨p, 0, none⟩ = some (.int .u64 X) ∧ w4.drew.cell? ⟨p, 1, none⟩ = some (.int .u64 Y) := ⟨(Bel.refl _).drew, cell_bel c0 (Bel.refl _).drew, cell_bel c1 (Bel.refl _).drew⟩
      have KEEP := Lib.hid (show ∀ V V' : World, (Bel w4 V ∧ V.cell? ⟨p, 0, none⟩ = some (.int .u64 X) ∧ V.cell? ⟨p, 1, none⟩ = some (.int .u64 Y)) → Bel V V' → (Bel w4 V' ∧ V'.cell? ⟨p, 0, none⟩ = some (.int .u64 X) ∧ V'.cell? ⟨p, 1, none⟩ = some (.int .u64 Y)) from
        fun V V' h hb => ⟨h.1.trans hb, cell_bel h.2.1 hb, cell_bel h.2.2 hb⟩)
      clear c0 c1
      go_region_held3 (fun V => Bel w4 V ∧ V.cell? ⟨p, 0, none⟩ = some (.int .u64 X) ∧ V.cell? ⟨p, 1, none⟩ = some (.int .u64 Y)) (first | assumption | exact KEEP.out _ _ (by assumption) (by assumption))
        (first | (go_at_call 13; refine (CA.out _).mono ?_; rintro e w9 ⟨rfl, kb⟩) | (go_at_call 14; refine (CB.out _).mono ?_; rintro e w9 ⟨rfl, kb⟩))
      rename_i hS
      have hP := hP.bel hS.1
      have KB := Lib.hid (KB.out.trans hS.1)
      clear hS KEEP
      by_cases hkl : i = ln
      · subst hkl
        go_wp2_with fail
        refine (awake _).mono ?_
        rintro e w10 ⟨rfl, kb⟩
        have KB := Lib.hid (KB.out.trans kb)
        clear kb
        go_wp2_with fail
        go_ret
        exact ⟨rfl, KB.out⟩
      · have hkl1 : ((i : Int) == (ln : Int)) = false := by simp; omega
        have hkl2 : (i : Int) < (ln : Int) := by omega
        have hkl0 : (0 : Int) ≤ (i : Int) := by omega
        obtain ⟨ab, ao, rfl, hlt, hacts⟩ := (HA.out.bel KB.out) (by omega)
        obtain ⟨f, x, hfx, hr⟩ := hacts i (by omega)
        clear hacts hlt
        obtain ⟨hX, hY⟩ := WX.out
        have DW := Lib.hid (d_wd (k := f) hX hY ⟨hfx.2.2.1, hfx.2.2.2⟩)
        have DO := Lib.hid (fun W => does f X Y x W hX.1 hX.2 hY.1 hY.2 hfx.2.2.1 hfx.2.2.2)
        have SH := Lib.hid (fun W => should f X Y x W hX.1 hX.2 hY.1 hY.2 hfx.2.2.1 hfx.2.2.2)
        obtain ⟨A1, hA1⟩ : ∃ a, dT f X Y x = a := ⟨_, rfl⟩
        obtain ⟨B1, hB1⟩ : ∃ a, dS f X Y x = a := ⟨_, rfl⟩
        obtain ⟨C1, hC1⟩ : ∃ a, dN f X Y x = a := ⟨_, rfl⟩
        obtain ⟨E1, hE1⟩ : ∃ a, dE f X Y x = a := ⟨_, rfl⟩
        rw [hA1, hB1, hC1, hE1] at DO SH
        rw [hA1, hB1] at DW
        clear hA1 hB1 hC1 hE1 hX hY hfx
        go_upto_region 13 with fail
        have PP := Lib.hid hP
        have RA := Lib.hid (And.intro (show w9.cell? ⟨ab, ao + i * 2, none⟩ = some (.int .i64 f) from hr 0 _ rfl) (show w9.cell? ⟨ab, ao + i * 2 + 1, none⟩ = some (.int .u64 x) from hr 1 _ rfl))
        clear hP hr
        go_cut [8, 9, 16] (fun s8 s9 s16 wx => ∃ g : Nat, s8 = .int .u64 C1 ∧ s9 = .int .i64 E1 ∧ s16 = .pointer (some ⟨g, 0, none⟩) ∧ Hid (Bel w9 wx ∧ PB wx g A1 B1 ∧ w9.heap.size ≤ g))
        case first =>
          refine wp_region_held_drew (S := fun V => Bel w9 V) (by kernel_rfl) (Bel.refl _).drew (fun hS0 => ?_)
          obtain ⟨v0, hv0⟩ : ∃ v0, World.drew w9 = v0 := ⟨_, rfl⟩
          rw [hv0] at hS0 ⊢
          clear hv0
          refine wpAnyH_take (i := 0) (oi := { dst := some 82, op := .load 24 (.tmp 3), type := 24, pos := "law.go:58", after := #[], guard := none }) (v := pV X Y) rfl (by kernel_rfl) (by kernel_rfl) (by kernel_rfl) (fun _ _ _ h => h) (Or.inl ⟨by rfl, by intro w h; have hcell := cell_bel (PP.out.cell 0 rfl) h; have hcell2 := cell_bel (PP.out.cell 1 rfl) h; clear h; go_simp⟩) hS0 ?_
          try simp only [Act.put, List.setIfInBounds_toArray, List.set_cons_zero, List.set_cons_succ]
          refine wpAnyH_take (i := 1) (oi := { dst := some 83, op := .move (.tmp 2), type := 25, pos := "law.go:58", after := #[], guard := none }) (v := .slice (some ⟨ab, ao, none⟩) ln cap) rfl (by kernel_rfl) (by kernel_rfl) (by kernel_rfl) (fun _ _ _ h => h) (Or.inl ⟨by rfl, by intro w hSw; clear hSw; go_simp⟩) hS0 ?_
          try simp only [Act.put, List.setIfInBounds_toArray, List.set_cons_zero, List.set_cons_succ]
          refine wpAnyH_take (i := 2) (oi := { dst := some 84, op := .move (.tmp 7), type := 3, pos := "law.go:58", after := #[], guard := none }) (v := .int .i64 i) rfl (by kernel_rfl) (by kernel_rfl) (by kernel_rfl) (fun _ _ _ h => h) (Or.inl ⟨by rfl, by intro w hSw; clear hSw; go_simp⟩) hS0 ?_
          try simp only [Act.put, List.setIfInBounds_toArray, List.set_cons_zero, List.set_cons_succ]
          refine wpAnyH_take (i := 3) (oi := { dst := some 85, op := .indexAddr 25 (.tmp 83) (.tmp 84), type := 0, pos := "law.go:58", after := #[{ on := 1, ground := .data }, { on := 2, ground := .data }], guard := none }) (v := .pointer (some ⟨ab, ao + i * 2, none⟩)) rfl (by kernel_rfl) (by kernel_rfl) (by kernel_rfl) (fun _ _ _ h => h) (Or.inl ⟨by rfl, by intro w hSw; clear hSw; go_simp⟩) hS0 ?_
          try simp only [Act.put, List.setIfInBounds_toArray, List.set_cons_zero, List.set_cons_succ]
          refine wpAnyH_take (i := 4) (oi := { dst := some 86, op := .load 34 (.tmp 85), type := 34, pos := "law.go:58", after := #[{ on := 3, ground := .data }], guard := none }) (v := aV f x) rfl (by kernel_rfl) (by kernel_rfl) (by kernel_rfl) (fun _ _ _ h => h) (Or.inl ⟨by rfl, by intro w h; have hcell := cell_bel RA.out.1 h; have hcell2 := cell_bel RA.out.2 h; clear h; go_simp⟩) hS0 ?_
          try simp only [Act.put, List.setIfInBounds_toArray, List.set_cons_zero, List.set_cons_succ]
          refine wpAnyH_ready (rs := [5, 10]) (by kernel_rfl) (by simp) ?_
          refine AllReadyH.cons (o := { dst := some 87, op := .call { callee := .value (.func 15), args := #[.tmp 82, .tmp 86], argTypes := #[24, 34] }, type := 31, pos := "law.go:58", after := #[{ on := 0, ground := .data }, { on := 4, ground := .data }], guard := none }) rfl (fun K hK => ?_) (AllReadyH.cons (o := { dst := some 16, op := .alloc 24, type := 0, pos := "law.go:58", after := #[], guard := none }) rfl (fun K hK => ?_) AllReadyH.nil)
          · skip
            go_simp
            refine (DO.out v0).mono ?_
            rintro e v1 ⟨rfl, k1⟩
            go_wp2_with fail
            have hS1 := hS0.trans k1
            refine hK.out _ _ hS1 (fun _ => ?_)
            clear hK K
            try simp only [Act.put, List.setIfInBounds_toArray, List.set_cons_zero, List.set_cons_succ]
            clear k1
            refine wpAnyH_take (i := 6) (oi := { dst := some 81, op := .move (.tmp 87), type := 31, pos := "law.go:58", after := #[{ on := 5, ground := .data }], guard := none }) (v := .tuple #[pV A1 B1, .int .u64 C1, .int .i64 E1]) rfl (by kernel_rfl) (by kernel_rfl) (by kernel_rfl) (fun _ _ _ h => h) (Or.inl ⟨by rfl, by intro w hSw; clear hSw; go_simp⟩) hS1 ?_
            try simp only [Act.put, List.setIfInBounds_toArray, List.set_cons_zero, List.set_cons_succ]
            refine wpAnyH_take (i := 7) (oi := { dst := some 88, op := .extract (.tmp 81) 0, type := 24, pos := "law.go:58", after := #[{ on := 6, ground := .data }], guard := none }) (v := pV A1 B1) rfl (by kernel_rfl) (by kernel_rfl) (by kernel_rfl) (fun _ _ _ h => h) (Or.inl ⟨by rfl, by intro w hSw; clear hSw; go_simp⟩) hS1 ?_
            try simp only [Act.put, List.setIfInBounds_toArray, List.set_cons_zero, List.set_cons_succ]
            refine wpAnyH_take (i := 8) (oi := { dst := some 89, op := .extract (.tmp 81) 1, type := 22, pos := "law.go:58", after := #[{ on := 6, ground := .data }, { on := 11, ground := .gcOnly .lateStores }], guard := none }) (v := .int .u64 C1) rfl (by kernel_rfl) (by kernel_rfl) (by kernel_rfl) (fun _ _ _ h => h) (Or.inl ⟨by rfl, by intro w hSw; clear hSw; go_simp⟩) hS1 ?_
            try simp only [Act.put, List.setIfInBounds_toArray, List.set_cons_zero, List.set_cons_succ]
            refine wpAnyH_take (i := 9) (oi := { dst := some 90, op := .extract (.tmp 81) 2, type := 27, pos := "law.go:58", after := #[{ on := 6, ground := .data }, { on := 12, ground := .gcOnly .lateStores }], guard := none }) (v := .int .i64 E1) rfl (by kernel_rfl) (by kernel_rfl) (by kernel_rfl) (fun _ _ _ h => h) (Or.inl ⟨by rfl, by intro w hSw; clear hSw; go_simp⟩) hS1 ?_
            try simp only [Act.put, List.setIfInBounds_toArray, List.set_cons_zero, List.set_cons_succ]
            refine wpAnyH_ready (rs := [10]) (by kernel_rfl) (by simp) ?_
            refine AllReadyH.cons (o := { dst := some 16, op := .alloc 24, type := 0, pos := "law.go:58", after := #[], guard := none }) rfl (fun K hK => ?_) AllReadyH.nil
            go_simp
            have hS2 := hS1.trans ((Bel.refl v1).alloc (.cells #[.int .u64 0, .int .u64 0] 24))
            refine hK.out _ _ hS2 (fun _ => ?_)
            clear hK K
            try simp only [Act.put, List.setIfInBounds_toArray, List.set_cons_zero, List.set_cons_succ]
            have G2 : PB (World.alloc v1 (.cells #[.int .u64 0, .int .u64 0] 24)) (World.heap v1).size 0 0 := PB.new 0 0
            have hg0 := Below.size hS1
            obtain ⟨g, hg⟩ : ∃ g, (World.heap v1).size = g := ⟨_, rfl⟩
            obtain ⟨v2, hv⟩ : ∃ v, World.alloc v1 (.cells #[.int .u64 0, .int .u64 0] 24) = v := ⟨_, rfl⟩
            rw [hv] at hS2 G2 ⊢
            rw [hg] at G2 hg0 ⊢
            clear hg hv
            refine wpAnyH_ready (rs := [11]) (by kernel_rfl) (by simp) ?_
            refine AllReadyH.cons (o := { dst := none, op := .store 24 (.tmp 16) (.tmp 88), type := 0, pos := "law.go:58", after := #[{ on := 10, ground := .data }, { on := 7, ground := .data }, { on := 5, ground := .chain }, { on := 0, ground := .phase }, { on := 1, ground := .phase }, { on := 2, ground := .phase }, { on := 3, ground := .phase }, { on := 4, ground := .phase }, { on := 5, ground := .phase }, { on := 6, ground := .phase }, { on := 7, ground := .phase }, { on := 8, ground := .textOnly .lateStores }, { on := 9, ground := .textOnly .lateStores }, { on := 10, ground := .phase }], guard := none }) rfl (fun K hK => ?_) AllReadyH.nil
            rw [if_pos (by rfl)]
            have hgS := Below.size hS2
            refine wp_store_mid 24 (.tmp 16) (.tmp 88) rfl g 0 #[.int .u64 A1, .int .u64 B1] rfl rfl (Pm.bthere G2 0 2 (by simp)) (by kernel_rfl) (one2 _ _) ?_
            have hSE := Pm.bel_setCells hS2 hg0 0 [.int .u64 A1, .int .u64 B1]
            have VX : PB _ g A1 B1 := Pm.bwhole (vs := [.int .u64 A1, .int .u64 B1]) G2 rfl
            have HH := Lib.hid (And.intro hSE (And.intro VX hg0))
            clear VX
            refine hK.out _ _ hSE (fun _ => ?_)
            clear hK K
            try simp only [Act.put]
            refine wpAnyH_take (i := 12) (oi := { dst := some 8, op := .assign (.tmp 89), type := 22, pos := "law.go:58", after := #[{ on := 8, ground := .data }, { on := 11, ground := .chain }, { on := 0, ground := .phase }, { on := 1, ground := .phase }, { on := 2, ground := .phase }, { on := 3, ground := .phase }, { on := 4, ground := .phase }, { on := 5, ground := .phase }, { on := 6, ground := .phase }, { on := 7, ground := .phase }, { on := 8, ground := .phase }, { on := 9, ground := .textOnly .lateStores }, { on := 10, ground := .phase }, { on := 11, ground := .phase }], guard := none }) (v := .int .u64 C1) rfl (by kernel_rfl) (by kernel_rfl) (by kernel_rfl) (fun _ _ _ h => h) (Or.inl ⟨by rfl, by intro w hSw; clear hSw; go_simp⟩) hSE ?_
            try simp only [Act.put, List.setIfInBounds_toArray, List.set_cons_zero, List.set_cons_succ]
            refine wpAnyH_take (i := 13) (oi := { dst := some 9, op := .assign (.tmp 90), type := 27, pos := "law.go:58", after := #[{ on := 9, ground := .data }, { on := 12, ground := .chain }, { on := 0, ground := .phase }, { on := 1, ground := .phase }, { on := 2, ground := .phase }, { on := 3, ground := .phase }, { on := 4, ground := .phase }, { on := 5, ground := .phase }, { on := 6, ground := .phase }, { on := 7, ground := .phase }, { on := 8, ground := .phase }, { on := 9, ground := .phase }, { on := 10, ground := .phase }, { on := 11, ground := .phase }, { on := 12, ground := .phase }], guard := none }) (v := .int .i64 E1) rfl (by kernel_rfl) (by kernel_rfl) (by kernel_rfl) (fun _ _ _ h => h) (Or.inl ⟨by rfl, by intro w hSw; clear hSw; go_simp⟩) hSE ?_
            try simp only [Act.put, List.setIfInBounds_toArray, List.set_cons_zero, List.set_cons_succ]
            refine wpAnyH_done (by kernel_rfl) ?_ _
            go_wp2_with fail
            go_meet
            exact ⟨g, rfl, rfl, rfl, Lib.hid ⟨HH.out.1, HH.out.2.1, HH.out.2.2⟩⟩
          · skip
            go_simp
            have hS3 := hS0.trans ((Bel.refl v0).alloc (.cells #[.int .u64 0, .int .u64 0] 24))
            refine hK.out _ _ hS3 (fun _ => ?_)
            clear hK K
            try simp only [Act.put, List.setIfInBounds_toArray, List.set_cons_zero, List.set_cons_succ]
            have G3 : PB (World.alloc v0 (.cells #[.int .u64 0, .int .u64 0] 24)) (World.heap v0).size 0 0 := PB.new 0 0
            have hg0 := Below.size hS0
            obtain ⟨g, hg⟩ : ∃ g, (World.heap v0).size = g := ⟨_, rfl⟩
            obtain ⟨v3, hv⟩ : ∃ v, World.alloc v0 (.cells #[.int .u64 0, .int .u64 0] 24) = v := ⟨_, rfl⟩
            rw [hv] at hS3 G3 ⊢
            rw [hg] at G3 hg0 ⊢
            clear hg hv
            refine wpAnyH_ready (rs := [5]) (by kernel_rfl) (by simp) ?_
            refine AllReadyH.cons (o := { dst := some 87, op := .call { callee := .value (.func 15), args := #[.tmp 82, .tmp 86], argTypes := #[24, 34] }, type := 31, pos := "law.go:58", after := #[{ on := 0, ground := .data }, { on := 4, ground := .data }], guard := none }) rfl (fun K hK => ?_) AllReadyH.nil
            go_simp
            refine (DO.out v3).mono ?_
            rintro e v4 ⟨rfl, k4⟩
            go_wp2_with fail
            have hS4 := hS3.trans k4
            refine hK.out _ _ hS4 (fun _ => ?_)
            clear hK K
            try simp only [Act.put, List.setIfInBounds_toArray, List.set_cons_zero, List.set_cons_succ]
            have G4 := G3.bel k4
            clear k4
            refine wpAnyH_take (i := 6) (oi := { dst := some 81, op := .move (.tmp 87), type := 31, pos := "law.go:58", after := #[{ on := 5, ground := .data }], guard := none }) (v := .tuple #[pV A1 B1, .int .u64 C1, .int .i64 E1]) rfl (by kernel_rfl) (by kernel_rfl) (by kernel_rfl) (fun _ _ _ h => h) (Or.inl ⟨by rfl, by intro w hSw; clear hSw; go_simp⟩) hS4 ?_
            try simp only [Act.put, List.setIfInBounds_toArray, List.set_cons_zero, List.set_cons_succ]
            refine wpAnyH_take (i := 7) (oi := { dst := some 88, op := .extract (.tmp 81) 0, type := 24, pos := "law.go:58", after := #[{ on := 6, ground := .data }], guard := none }) (v := pV A1 B1) rfl (by kernel_rfl) (by kernel_rfl) (by kernel_rfl) (fun _ _ _ h => h) (Or.inl ⟨by rfl, by intro w hSw; clear hSw; go_simp⟩) hS4 ?_
            try simp only [Act.put, List.setIfInBounds_toArray, List.set_cons_zero, List.set_cons_succ]
            refine wpAnyH_take (i := 8) (oi := { dst := some 89, op := .extract (.tmp 81) 1, type := 22, pos := "law.go:58", after := #[{ on := 6, ground := .data }, { on := 11, ground := .gcOnly .lateStores }], guard := none }) (v := .int .u64 C1) rfl (by kernel_rfl) (by kernel_rfl) (by kernel_rfl) (fun _ _ _ h => h) (Or.inl ⟨by rfl, by intro w hSw; clear hSw; go_simp⟩) hS4 ?_
            try simp only [Act.put, List.setIfInBounds_toArray, List.set_cons_zero, List.set_cons_succ]
            refine wpAnyH_take (i := 9) (oi := { dst := some 90, op := .extract (.tmp 81) 2, type := 27, pos := "law.go:58", after := #[{ on := 6, ground := .data }, { on := 12, ground := .gcOnly .lateStores }], guard := none }) (v := .int .i64 E1) rfl (by kernel_rfl) (by kernel_rfl) (by kernel_rfl) (fun _ _ _ h => h) (Or.inl ⟨by rfl, by intro w hSw; clear hSw; go_simp⟩) hS4 ?_
            try simp only [Act.put, List.setIfInBounds_toArray, List.set_cons_zero, List.set_cons_succ]
            refine wpAnyH_ready (rs := [11]) (by kernel_rfl) (by simp) ?_
            refine AllReadyH.cons (o := { dst := none, op := .store 24 (.tmp 16) (.tmp 88), type := 0, pos := "law.go:58", after := #[{ on := 10, ground := .data }, { on := 7, ground := .data }, { on := 5, ground := .chain }, { on := 0, ground := .phase }, { on := 1, ground := .phase }, { on := 2, ground := .phase }, { on := 3, ground := .phase }, { on := 4, ground := .phase }, { on := 5, ground := .phase }, { on := 6, ground := .phase }, { on := 7, ground := .phase }, { on := 8, ground := .textOnly .lateStores }, { on := 9, ground := .textOnly .lateStores }, { on := 10, ground := .phase }], guard := none }) rfl (fun K hK => ?_) AllReadyH.nil
            rw [if_pos (by rfl)]
            have hgS := Below.size hS4
            refine wp_store_mid 24 (.tmp 16) (.tmp 88) rfl g 0 #[.int .u64 A1, .int .u64 B1] rfl rfl (Pm.bthere G4 0 2 (by simp)) (by kernel_rfl) (one2 _ _) ?_
            have hSE := Pm.bel_setCells hS4 hg0 0 [.int .u64 A1, .int .u64 B1]
            have VX : PB _ g A1 B1 := Pm.bwhole (vs := [.int .u64 A1, .int .u64 B1]) G4 rfl
            have HH := Lib.hid (And.intro hSE (And.intro VX hg0))
            clear VX
            refine hK.out _ _ hSE (fun _ => ?_)
            clear hK K
            try simp only [Act.put]
            refine wpAnyH_take (i := 12) (oi := { dst := some 8, op := .assign (.tmp 89), type := 22, pos := "law.go:58", after := #[{ on := 8, ground := .data }, { on := 11, ground := .chain }, { on := 0, ground := .phase }, { on := 1, ground := .phase }, { on := 2, ground := .phase }, { on := 3, ground := .phase }, { on := 4, ground := .phase }, { on := 5, ground := .phase }, { on := 6, ground := .phase }, { on := 7, ground := .phase }, { on := 8, ground := .phase }, { on := 9, ground := .textOnly .lateStores }, { on := 10, ground := .phase }, { on := 11, ground := .phase }], guard := none }) (v := .int .u64 C1) rfl (by kernel_rfl) (by kernel_rfl) (by kernel_rfl) (fun _ _ _ h => h) (Or.inl ⟨by rfl, by intro w hSw; clear hSw; go_simp⟩) hSE ?_
            try simp only [Act.put, List.setIfInBounds_toArray, List.set_cons_zero, List.set_cons_succ]
            refine wpAnyH_take (i := 13) (oi := { dst := some 9, op := .assign (.tmp 90), type := 27, pos := "law.go:58", after := #[{ on := 9, ground := .data }, { on := 12, ground := .chain }, { on := 0, ground := .phase }, { on := 1, ground := .phase }, { on := 2, ground := .phase }, { on := 3, ground := .phase }, { on := 4, ground := .phase }, { on := 5, ground := .phase }, { on := 6, ground := .phase }, { on := 7, ground := .phase }, { on := 8, ground := .phase }, { on := 9, ground := .phase }, { on := 10, ground := .phase }, { on := 11, ground := .phase }, { on := 12, ground := .phase }], guard := none }) (v := .int .i64 E1) rfl (by kernel_rfl) (by kernel_rfl) (by kernel_rfl) (fun _ _ _ h => h) (Or.inl ⟨by rfl, by intro w hSw; clear hSw; go_simp⟩) hSE ?_
            try simp only [Act.put, List.setIfInBounds_toArray, List.set_cons_zero, List.set_cons_succ]
            refine wpAnyH_done (by kernel_rfl) ?_ _
            go_wp2_with fail
            go_meet
            exact ⟨g, rfl, rfl, rfl, Lib.hid ⟨HH.out.1, HH.out.2.1, HH.out.2.2⟩⟩
        case rest =>
          obtain ⟨g1, rfl, rfl, rfl, hh⟩ := hcut
          obtain ⟨h1, h2, h3⟩ := hh.out
          clear hh
          have PG := Lib.hid h2
          have PP := Lib.hid (PP.out.bel h1)
          have RA := Lib.hid (And.intro (cell_bel RA.out.1 h1) (cell_bel RA.out.2 h1))
          have KB := Lib.hid (KB.out.trans h1)
          clear h1 h2 h3
          go_upto_region 14 with fail
          obtain ⟨wd, hwd⟩ : ∃ wd, wd = wc := ⟨_, rfl⟩
          rw [← hwd] at PG PP RA KB ⊢
          clear hwd
          go_cut [10, 11, 17] (fun s10 s11 s17 wx => ∃ g : Nat, s10 = .int .u64 C1 ∧ s11 = .int .i64 E1 ∧ s17 = .pointer (some ⟨g, 0, none⟩) ∧ Hid (Bel wd wx ∧ PB wx g A1 B1 ∧ wd.heap.size ≤ g))
          case first =>
            refine wp_region_held_drew (S := fun V => Bel wd V) (by kernel_rfl) (Bel.refl _).drew (fun hS0 => ?_)
            obtain ⟨v0, hv0⟩ : ∃ v0, World.drew wd = v0 := ⟨_, rfl⟩
            rw [hv0] at hS0 ⊢
            clear hv0
            refine wpAnyH_take (i := 0) (oi := { dst := some 92, op := .load 24 (.tmp 3), type := 24, pos := "law.go:59", after := #[], guard := none }) (v := pV X Y) rfl (by kernel_rfl) (by kernel_rfl) (by kernel_rfl) (fun _ _ _ h => h) (Or.inl ⟨by rfl, by intro w h; have hcell := cell_bel (PP.out.cell 0 rfl) h; have hcell2 := cell_bel (PP.out.cell 1 rfl) h; clear h; go_simp⟩) hS0 ?_
            try simp only [Act.put, List.setIfInBounds_toArray, List.set_cons_zero, List.set_cons_succ]
            refine wpAnyH_take (i := 1) (oi := { dst := some 93, op := .move (.tmp 2), type := 25, pos := "law.go:59", after := #[], guard := none }) (v := .slice (some ⟨ab, ao, none⟩) ln cap) rfl (by kernel_rfl) (by kernel_rfl) (by kernel_rfl) (fun _ _ _ h => h) (Or.inl ⟨by rfl, by intro w hSw; clear hSw; go_simp⟩) hS0 ?_
            try simp only [Act.put, List.setIfInBounds_toArray, List.set_cons_zero, List.set_cons_succ]
            refine wpAnyH_take (i := 2) (oi := { dst := some 94, op := .move (.tmp 7), type := 3, pos := "law.go:59", after := #[], guard := none }) (v := .int .i64 i) rfl (by kernel_rfl) (by kernel_rfl) (by kernel_rfl) (fun _ _ _ h => h) (Or.inl ⟨by rfl, by intro w hSw; clear hSw; go_simp⟩) hS0 ?_
            try simp only [Act.put, List.setIfInBounds_toArray, List.set_cons_zero, List.set_cons_succ]
            refine wpAnyH_take (i := 3) (oi := { dst := some 95, op := .indexAddr 25 (.tmp 93) (.tmp 94), type := 0, pos := "law.go:59", after := #[{ on := 1, ground := .data }, { on := 2, ground := .data }], guard := none }) (v := .pointer (some ⟨ab, ao + i * 2, none⟩)) rfl (by kernel_rfl) (by kernel_rfl) (by kernel_rfl) (fun _ _ _ h => h) (Or.inl ⟨by rfl, by intro w hSw; clear hSw; go_simp⟩) hS0 ?_
            try simp only [Act.put, List.setIfInBounds_toArray, List.set_cons_zero, List.set_cons_succ]
            refine wpAnyH_take (i := 4) (oi := { dst := some 96, op := .load 34 (.tmp 95), type := 34, pos := "law.go:59", after := #[{ on := 3, ground := .data }], guard := none }) (v := aV f x) rfl (by kernel_rfl) (by kernel_rfl) (by kernel_rfl) (fun _ _ _ h => h) (Or.inl ⟨by rfl, by intro w h; have hcell := cell_bel RA.out.1 h; have hcell2 := cell_bel RA.out.2 h; clear h; go_simp⟩) hS0 ?_
            try simp only [Act.put, List.setIfInBounds_toArray, List.set_cons_zero, List.set_cons_succ]
            refine wpAnyH_ready (rs := [5, 10]) (by kernel_rfl) (by simp) ?_
            refine AllReadyH.cons (o := { dst := some 97, op := .call { callee := .value (.func 16), args := #[.tmp 92, .tmp 96], argTypes := #[24, 34] }, type := 31, pos := "law.go:59", after := #[{ on := 0, ground := .data }, { on := 4, ground := .data }], guard := none }) rfl (fun K hK => ?_) (AllReadyH.cons (o := { dst := some 17, op := .alloc 24, type := 0, pos := "law.go:59", after := #[], guard := none }) rfl (fun K hK => ?_) AllReadyH.nil)
            · skip
              go_simp
              refine (SH.out v0).mono ?_
              rintro e v1 ⟨rfl, k1⟩
              go_wp2_with fail
              have hS1 := hS0.trans k1
              refine hK.out _ _ hS1 (fun _ => ?_)
              clear hK K
              try simp only [Act.put, List.setIfInBounds_toArray, List.set_cons_zero, List.set_cons_succ]
              clear k1
              refine wpAnyH_take (i := 6) (oi := { dst := some 91, op := .move (.tmp 97), type := 31, pos := "law.go:59", after := #[{ on := 5, ground := .data }], guard := none }) (v := .tuple #[pV A1 B1, .int .u64 C1, .int .i64 E1]) rfl (by kernel_rfl) (by kernel_rfl) (by kernel_rfl) (fun _ _ _ h => h) (Or.inl ⟨by rfl, by intro w hSw; clear hSw; go_simp⟩) hS1 ?_
              try simp only [Act.put, List.setIfInBounds_toArray, List.set_cons_zero, List.set_cons_succ]
              refine wpAnyH_take (i := 7) (oi := { dst := some 98, op := .extract (.tmp 91) 0, type := 24, pos := "law.go:59", after := #[{ on := 6, ground := .data }], guard := none }) (v := pV A1 B1) rfl (by kernel_rfl) (by kernel_rfl) (by kernel_rfl) (fun _ _ _ h => h) (Or.inl ⟨by rfl, by intro w hSw; clear hSw; go_simp⟩) hS1 ?_
              try simp only [Act.put, List.setIfInBounds_toArray, List.set_cons_zero, List.set_cons_succ]
              refine wpAnyH_take (i := 8) (oi := { dst := some 99, op := .extract (.tmp 91) 1, type := 22, pos := "law.go:59", after := #[{ on := 6, ground := .data }, { on := 11, ground := .gcOnly .lateStores }], guard := none }) (v := .int .u64 C1) rfl (by kernel_rfl) (by kernel_rfl) (by kernel_rfl) (fun _ _ _ h => h) (Or.inl ⟨by rfl, by intro w hSw; clear hSw; go_simp⟩) hS1 ?_
              try simp only [Act.put, List.setIfInBounds_toArray, List.set_cons_zero, List.set_cons_succ]
              refine wpAnyH_take (i := 9) (oi := { dst := some 100, op := .extract (.tmp 91) 2, type := 27, pos := "law.go:59", after := #[{ on := 6, ground := .data }, { on := 12, ground := .gcOnly .lateStores }], guard := none }) (v := .int .i64 E1) rfl (by kernel_rfl) (by kernel_rfl) (by kernel_rfl) (fun _ _ _ h => h) (Or.inl ⟨by rfl, by intro w hSw; clear hSw; go_simp⟩) hS1 ?_
              try simp only [Act.put, List.setIfInBounds_toArray, List.set_cons_zero, List.set_cons_succ]
              refine wpAnyH_ready (rs := [10]) (by kernel_rfl) (by simp) ?_
              refine AllReadyH.cons (o := { dst := some 17, op := .alloc 24, type := 0, pos := "law.go:59", after := #[], guard := none }) rfl (fun K hK => ?_) AllReadyH.nil
              go_simp
              have hS2 := hS1.trans ((Bel.refl v1).alloc (.cells #[.int .u64 0, .int .u64 0] 24))
              refine hK.out _ _ hS2 (fun _ => ?_)
              clear hK K
              try simp only [Act.put, List.setIfInBounds_toArray, List.set_cons_zero, List.set_cons_succ]
              have G2 : PB (World.alloc v1 (.cells #[.int .u64 0, .int .u64 0] 24)) (World.heap v1).size 0 0 := PB.new 0 0
              have hg0 := Below.size hS1
              obtain ⟨g, hg⟩ : ∃ g, (World.heap v1).size = g := ⟨_, rfl⟩
              obtain ⟨v2, hv⟩ : ∃ v, World.alloc v1 (.cells #[.int .u64 0, .int .u64 0] 24) = v := ⟨_, rfl⟩
              rw [hv] at hS2 G2 ⊢
              rw [hg] at G2 hg0 ⊢
              clear hg hv
              refine wpAnyH_ready (rs := [11]) (by kernel_rfl) (by simp) ?_
              refine AllReadyH.cons (o := { dst := none, op := .store 24 (.tmp 17) (.tmp 98), type := 0, pos := "law.go:59", after := #[{ on := 10, ground := .data }, { on := 7, ground := .data }, { on := 5, ground := .chain }, { on := 0, ground := .phase }, { on := 1, ground := .phase }, { on := 2, ground := .phase }, { on := 3, ground := .phase }, { on := 4, ground := .phase }, { on := 5, ground := .phase }, { on := 6, ground := .phase }, { on := 7, ground := .phase }, { on := 8, ground := .textOnly .lateStores }, { on := 9, ground := .textOnly .lateStores }, { on := 10, ground := .phase }], guard := none }) rfl (fun K hK => ?_) AllReadyH.nil
              rw [if_pos (by rfl)]
              have hgS := Below.size hS2
              refine wp_store_mid 24 (.tmp 17) (.tmp 98) rfl g 0 #[.int .u64 A1, .int .u64 B1] rfl rfl (Pm.bthere G2 0 2 (by simp)) (by kernel_rfl) (one2 _ _) ?_
              have hSE := Pm.bel_setCells hS2 hg0 0 [.int .u64 A1, .int .u64 B1]
              have VX : PB _ g A1 B1 := Pm.bwhole (vs := [.int .u64 A1, .int .u64 B1]) G2 rfl
              have HH := Lib.hid (And.intro hSE (And.intro VX hg0))
              clear VX
              refine hK.out _ _ hSE (fun _ => ?_)
              clear hK K
              try simp only [Act.put]
              refine wpAnyH_take (i := 12) (oi := { dst := some 10, op := .assign (.tmp 99), type := 22, pos := "law.go:59", after := #[{ on := 8, ground := .data }, { on := 11, ground := .chain }, { on := 0, ground := .phase }, { on := 1, ground := .phase }, { on := 2, ground := .phase }, { on := 3, ground := .phase }, { on := 4, ground := .phase }, { on := 5, ground := .phase }, { on := 6, ground := .phase }, { on := 7, ground := .phase }, { on := 8, ground := .phase }, { on := 9, ground := .textOnly .lateStores }, { on := 10, ground := .phase }, { on := 11, ground := .phase }], guard := none }) (v := .int .u64 C1) rfl (by kernel_rfl) (by kernel_rfl) (by kernel_rfl) (fun _ _ _ h => h) (Or.inl ⟨by rfl, by intro w hSw; clear hSw; go_simp⟩) hSE ?_
              try simp only [Act.put, List.setIfInBounds_toArray, List.set_cons_zero, List.set_cons_succ]
              refine wpAnyH_take (i := 13) (oi := { dst := some 11, op := .assign (.tmp 100), type := 27, pos := "law.go:59", after := #[{ on := 9, ground := .data }, { on := 12, ground := .chain }, { on := 0, ground := .phase }, { on := 1, ground := .phase }, { on := 2, ground := .phase }, { on := 3, ground := .phase }, { on := 4, ground := .phase }, { on := 5, ground := .phase }, { on := 6, ground := .phase }, { on := 7, ground := .phase }, { on := 8, ground := .phase }, { on := 9, ground := .phase }, { on := 10, ground := .phase }, { on := 11, ground := .phase }, { on := 12, ground := .phase }], guard := none }) (v := .int .i64 E1) rfl (by kernel_rfl) (by kernel_rfl) (by kernel_rfl) (fun _ _ _ h => h) (Or.inl ⟨by rfl, by intro w hSw; clear hSw; go_simp⟩) hSE ?_
              try simp only [Act.put, List.setIfInBounds_toArray, List.set_cons_zero, List.set_cons_succ]
              refine wpAnyH_done (by kernel_rfl) ?_ _
              go_wp2_with fail
              go_meet
              exact ⟨g, rfl, rfl, rfl, Lib.hid ⟨HH.out.1, HH.out.2.1, HH.out.2.2⟩⟩
            · skip
              go_simp
              have hS3 := hS0.trans ((Bel.refl v0).alloc (.cells #[.int .u64 0, .int .u64 0] 24))
              refine hK.out _ _ hS3 (fun _ => ?_)
              clear hK K
              try simp only [Act.put, List.setIfInBounds_toArray, List.set_cons_zero, List.set_cons_succ]
              have G3 : PB (World.alloc v0 (.cells #[.int .u64 0, .int .u64 0] 24)) (World.heap v0).size 0 0 := PB.new 0 0
              have hg0 := Below.size hS0
              obtain ⟨g, hg⟩ : ∃ g, (World.heap v0).size = g := ⟨_, rfl⟩
              obtain ⟨v3, hv⟩ : ∃ v, World.alloc v0 (.cells #[.int .u64 0, .int .u64 0] 24) = v := ⟨_, rfl⟩
              rw [hv] at hS3 G3 ⊢
              rw [hg] at G3 hg0 ⊢
              clear hg hv
              refine wpAnyH_ready (rs := [5]) (by kernel_rfl) (by simp) ?_
              refine AllReadyH.cons (o := { dst := some 97, op := .call { callee := .value (.func 16), args := #[.tmp 92, .tmp 96], argTypes := #[24, 34] }, type := 31, pos := "law.go:59", after := #[{ on := 0, ground := .data }, { on := 4, ground := .data }], guard := none }) rfl (fun K hK => ?_) AllReadyH.nil
              go_simp
              refine (SH.out v3).mono ?_
              rintro e v4 ⟨rfl, k4⟩
              go_wp2_with fail
              have hS4 := hS3.trans k4
              refine hK.out _ _ hS4 (fun _ => ?_)
              clear hK K
              try simp only [Act.put, List.setIfInBounds_toArray, List.set_cons_zero, List.set_cons_succ]
              have G4 := G3.bel k4
              clear k4
              refine wpAnyH_take (i := 6) (oi := { dst := some 91, op := .move (.tmp 97), type := 31, pos := "law.go:59", after := #[{ on := 5, ground := .data }], guard := none }) (v := .tuple #[pV A1 B1, .int .u64 C1, .int .i64 E1]) rfl (by kernel_rfl) (by kernel_rfl) (by kernel_rfl) (fun _ _ _ h => h) (Or.inl ⟨by rfl, by intro w hSw; clear hSw; go_simp⟩) hS4 ?_
              try simp only [Act.put, List.setIfInBounds_toArray, List.set_cons_zero, List.set_cons_succ]
              refine wpAnyH_take (i := 7) (oi := { dst := some 98, op := .extract (.tmp 91) 0, type := 24, pos := "law.go:59", after := #[{ on := 6, ground := .data }], guard := none }) (v := pV A1 B1) rfl (by kernel_rfl) (by kernel_rfl) (by kernel_rfl) (fun _ _ _ h => h) (Or.inl ⟨by rfl, by intro w hSw; clear hSw; go_simp⟩) hS4 ?_
              try simp only [Act.put, List.setIfInBounds_toArray, List.set_cons_zero, List.set_cons_succ]
              refine wpAnyH_take (i := 8) (oi := { dst := some 99, op := .extract (.tmp 91) 1, type := 22, pos := "law.go:59", after := #[{ on := 6, ground := .data }, { on := 11, ground := .gcOnly .lateStores }], guard := none }) (v := .int .u64 C1) rfl (by kernel_rfl) (by kernel_rfl) (by kernel_rfl) (fun _ _ _ h => h) (Or.inl ⟨by rfl, by intro w hSw; clear hSw; go_simp⟩) hS4 ?_
              try simp only [Act.put, List.setIfInBounds_toArray, List.set_cons_zero, List.set_cons_succ]
              refine wpAnyH_take (i := 9) (oi := { dst := some 100, op := .extract (.tmp 91) 2, type := 27, pos := "law.go:59", after := #[{ on := 6, ground := .data }, { on := 12, ground := .gcOnly .lateStores }], guard := none }) (v := .int .i64 E1) rfl (by kernel_rfl) (by kernel_rfl) (by kernel_rfl) (fun _ _ _ h => h) (Or.inl ⟨by rfl, by intro w hSw; clear hSw; go_simp⟩) hS4 ?_
              try simp only [Act.put, List.setIfInBounds_toArray, List.set_cons_zero, List.set_cons_succ]
              refine wpAnyH_ready (rs := [11]) (by kernel_rfl) (by simp) ?_
              refine AllReadyH.cons (o := { dst := none, op := .store 24 (.tmp 17) (.tmp 98), type := 0, pos := "law.go:59", after := #[{ on := 10, ground := .data }, { on := 7, ground := .data }, { on := 5, ground := .chain }, { on := 0, ground := .phase }, { on := 1, ground := .phase }, { on := 2, ground := .phase }, { on := 3, ground := .phase }, { on := 4, ground := .phase }, { on := 5, ground := .phase }, { on := 6, ground := .phase }, { on := 7, ground := .phase }, { on := 8, ground := .textOnly .lateStores }, { on := 9, ground := .textOnly .lateStores }, { on := 10, ground := .phase }], guard := none }) rfl (fun K hK => ?_) AllReadyH.nil
              rw [if_pos (by rfl)]
              have hgS := Below.size hS4
              refine wp_store_mid 24 (.tmp 17) (.tmp 98) rfl g 0 #[.int .u64 A1, .int .u64 B1] rfl rfl (Pm.bthere G4 0 2 (by simp)) (by kernel_rfl) (one2 _ _) ?_
              have hSE := Pm.bel_setCells hS4 hg0 0 [.int .u64 A1, .int .u64 B1]
              have VX : PB _ g A1 B1 := Pm.bwhole (vs := [.int .u64 A1, .int .u64 B1]) G4 rfl
              have HH := Lib.hid (And.intro hSE (And.intro VX hg0))
              clear VX
              refine hK.out _ _ hSE (fun _ => ?_)
              clear hK K
              try simp only [Act.put]
              refine wpAnyH_take (i := 12) (oi := { dst := some 10, op := .assign (.tmp 99), type := 22, pos := "law.go:59", after := #[{ on := 8, ground := .data }, { on := 11, ground := .chain }, { on := 0, ground := .phase }, { on := 1, ground := .phase }, { on := 2, ground := .phase }, { on := 3, ground := .phase }, { on := 4, ground := .phase }, { on := 5, ground := .phase }, { on := 6, ground := .phase }, { on := 7, ground := .phase }, { on := 8, ground := .phase }, { on := 9, ground := .textOnly .lateStores }, { on := 10, ground := .phase }, { on := 11, ground := .phase }], guard := none }) (v := .int .u64 C1) rfl (by kernel_rfl) (by kernel_rfl) (by kernel_rfl) (fun _ _ _ h => h) (Or.inl ⟨by rfl, by intro w hSw; clear hSw; go_simp⟩) hSE ?_
              try simp only [Act.put, List.setIfInBounds_toArray, List.set_cons_zero, List.set_cons_succ]
              refine wpAnyH_take (i := 13) (oi := { dst := some 11, op := .assign (.tmp 100), type := 27, pos := "law.go:59", after := #[{ on := 9, ground := .data }, { on := 12, ground := .chain }, { on := 0, ground := .phase }, { on := 1, ground := .phase }, { on := 2, ground := .phase }, { on := 3, ground := .phase }, { on := 4, ground := .phase }, { on := 5, ground := .phase }, { on := 6, ground := .phase }, { on := 7, ground := .phase }, { on := 8, ground := .phase }, { on := 9, ground := .phase }, { on := 10, ground := .phase }, { on := 11, ground := .phase }, { on := 12, ground := .phase }], guard := none }) (v := .int .i64 E1) rfl (by kernel_rfl) (by kernel_rfl) (by kernel_rfl) (fun _ _ _ h => h) (Or.inl ⟨by rfl, by intro w hSw; clear hSw; go_simp⟩) hSE ?_
              try simp only [Act.put, List.setIfInBounds_toArray, List.set_cons_zero, List.set_cons_succ]
              refine wpAnyH_done (by kernel_rfl) ?_ _
              go_wp2_with fail
              go_meet
              exact ⟨g, rfl, rfl, rfl, Lib.hid ⟨HH.out.1, HH.out.2.1, HH.out.2.2⟩⟩
          case rest =>
            obtain ⟨g2, rfl, rfl, rfl, hh⟩ := hcut
            obtain ⟨h1, h2, h3⟩ := hh.out
            clear hh
            have PG := PG.out.bel h1
            have PP := PP.out.bel h1
            have KB := Lib.hid (KB.out.trans h1)
            have c0 := PG.cell 0 rfl
            have c1 := PG.cell 1 rfl
            have d0 := h2.cell 0 rfl
            have d1 := h2.cell 1 rfl
            have f0 := PP.cell 0 rfl
            have f1 := PP.cell 1 rfl
            have f2 := PP.frozen 0
            have f3 := PP.frozen 1
            clear h1 h3
            by_cases hE : E1 = 0
            · subst hE
              go_wp2_with fail
              go_roundw
              case rel => exact ⟨i + 1, A1, B1, by go_num, by omega, Lib.hid ⟨DW.out.1, DW.out.2, (PP.set 0 _).set 1 _, (KB.out.set (by show w.heap.size ≤ p; have := HP.out; omega) _).set (by show w.heap.size ≤ p; have := HP.out; omega) _⟩⟩
              case measure => simp [intOf]; omega
            · have hE1 : (E1 == 0) = false := by simpa using hE
              go_wp2_with fail
              go_roundw
              case rel => exact ⟨i + 1, X, Y, by go_num, by omega, Lib.hid ⟨WX.out.1, WX.out.2, PP, KB.out⟩⟩
              case measure => simp [intOf]; omega
end Sh
end Go.Proofs.Ytmfajljgcndgfaa
