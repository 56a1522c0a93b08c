/-
  Texts of this claim, put together: Ho44, Ho45. What each one says, and under which conditions, stands ahead of it.
-/
import Derived.Test.YtneajcoiemkfbaaGreatTk
import Derived.Test.YtneajcoiemkfbaaGreatCU

section
/-
  What made of the laws answers: a holding that may be. Conditions: the acts' numbers are of their kinds.
-/
namespace Go.Proofs.YtneajcoiemkfbaaGreat
open Go.RowKit Go.Shelf
set_option linter.unusedVariables false
set_option linter.unusedSimpArgs false
namespace Ho
open Kk Pm

theorem fE_all {P : Int → Prop} (h0 : P 0) : ∀ l : List Int, (∀ x ∈ l, P x) → P (Sh.fE l)
  | [], _ => h0
  | x :: l, h => by
    show P (if x = 0 then Sh.fE l else x)
    by_cases k : x = 0
    · rw [if_pos k]; exact fE_all h0 l fun y hy => h y (List.mem_cons_of_mem _ hy)
    · rw [if_neg k]; exact h x List.mem_cons_self
/-- No error that an act that is near cannot have. -/
def Mild (x : Int) : Prop := x ≠ 3 ∧ x ≠ 9 ∧ x ≠ 4
theorem mild_ite {p : Prop} [Decidable p] {x y : Int} (hx : Mild x) (hy : Mild y) : Mild (if p then x else y) := by
  by_cases k : p
  · rw [if_pos k]; exact hx
  · rw [if_neg k]; exact hy
theorem mild_0 : Mild 0 := ⟨by decide, by decide, by decide⟩
theorem mild_near {cs ps : List R6} (h : Hd6 cs ps) {k o a b d e v ht x : Int} (na : NearA k o a b d e v ht x) : Mild (aE cs ps (k, o, a, b, d, e, v, ht, x)) := by
  have hc := pol_at0 h.ok (a, b, d, e, 0, 0)
  have m7 : Mild 7 := ⟨by decide, by decide, by decide⟩
  have m10 : Mild 10 := ⟨by decide, by decide, by decide⟩
  have m12 : Mild 12 := ⟨by decide, by decide, by decide⟩
  have m13 : Mild 13 := ⟨by decide, by decide, by decide⟩
  have m14 : Mild 14 := ⟨by decide, by decide, by decide⟩
  have hp : ∀ y, Mild (Sh.priE (polT cs (a, b, d, e, 0, 0)) (polS cs (a, b, d, e, 0, 0)) y) := fun y => by
    unfold Sh.priE
    rw [if_neg (fun k => k hc)]
    exact mild_ite m12 mild_0
  have hv : ∀ y, Mild (Sh.valE (polT cs (a, b, d, e, 0, 0)) (polS cs (a, b, d, e, 0, 0)) y) := fun y => by
    unfold Sh.valE
    rw [if_neg (fun k => k hc)]
    exact mild_ite m13 mild_0
  have hi : ∀ (y : Bool) (z : Int), Mild z → Mild (Sh.ife y z) := fun y z hz => by
    unfold Sh.ife
    exact mild_ite hz mild_0
  have hr : ∀ y z u, Mild (Sh.roomE y z u) := fun y z u => mild_ite m12 mild_0
  have e3 : Mild (if k = 0 then chE cs ps (bJE o a b d e (polT cs (a, b, d, e, 0, 0)) (polS cs (a, b, d, e, 0, 0)) cs.length (sumT cs) x) else if k = 1 then chE cs ps (bLE (polT cs (a, b, d, e, 0, 0)) (polS cs (a, b, d, e, 0, 0)) (shs ps (o, a, b, d, e, 0)) x) else if k = 2 then chE cs ps (bKE v ht x) else 0) := by
    rw [chE_go h.ok, chE_go h.ok, chE_go h.ok]
    refine mild_ite ?_ (mild_ite ?_ ?_)
    · unfold bJE
      refine fE_all mild_0 _ fun y hy => ?_
      simp only [List.mem_cons, List.not_mem_nil, or_false] at hy
      rcases hy with rfl | rfl | rfl | rfl
      · rw [if_neg (by have := na.ck; have := na.o0; have := na.o3; omega)]; exact mild_0
      · exact mild_ite m7 mild_0
      · unfold Sh.joiE
        refine fE_all mild_0 _ fun y hy => ?_
        simp only [List.mem_cons, List.not_mem_nil, or_false] at hy
        rcases hy with rfl | rfl | rfl | rfl | rfl
        · rw [hc]; exact mild_0
        · exact hi _ _ m14
        · exact hp _
        · exact hr _ _ _
        · exact hr _ _ _
      · exact mild_ite m12 mild_0
    · unfold bLE
      refine fE_all mild_0 _ fun y hy => ?_
      simp only [List.mem_cons, List.not_mem_nil, or_false] at hy
      rcases hy with rfl | rfl | rfl
      · exact mild_ite m10 mild_0
      · exact mild_ite m13 mild_0
      · unfold Sh.leaE
        refine fE_all mild_0 _ fun y hy => ?_
        simp only [List.mem_cons, List.not_mem_nil, or_false] at hy
        rcases hy with rfl | rfl
        · exact hv _
        · exact hi _ _ m14
    · by_cases k2 : k = 2
      · rw [if_pos k2]
        unfold bKE
        rw [if_neg (by have := na.x2 k2; have := na.v0; have := na.v3; have := na.h0; have := na.h1; omega)]
        exact mild_0
      · rw [if_neg k2]
        exact mild_0
  exact e3
set_option maxRecDepth 100000 in
set_option maxHeartbeats 16000000 in
theorem made_ (A : Option Addr) (n c : Nat) (w : World) (hn : n ≤ 30) (ha : Acts w A n) : Calls Tryz.prog 54 #[.slice A n c] w fun r w' => ∃ F1 n1 f1 F2 n2 f2 cs ps, r = .returned (.tuple #[.agg #[.slice F1 n1 f1, .slice F2 n2 f2], .bool true]) ∧ OwnR cC 90 w' w.heap.size (.slice F1 n1 f1) cs ∧ OwnR cP 93 w' w.heap.size (.slice F2 n2 f2) ps ∧ Hd6 cs ps ∧ ps.length ≤ n ∧ Bel w w' := by
  have HA := Lib.hid ha
  clear ha
  obtain ⟨V, hV⟩ : ∃ V, (w.alloc (.cells #[.slice none 0 0, .slice none 0 0] 25)).alloc (.cells #[.slice none 0 0, .slice none 0 0] 25) = V := ⟨_, rfl⟩
  have BV := Lib.hid (show Bel w V by rw [← hV]; exact ((Bel.refl w).alloc _).alloc _)
  have PR := Lib.hid (show Blk V w.heap.size #[.slice none 0 0, .slice none 0 0] 25 by rw [← hV]; exact (Blk.new _ _ _).alloc _)
  have VO := Lib.hid (show Vo V (w.heap.size + 1) none 0 0 none 0 0 [] [] from ⟨by rw [← hV]; have h := Blk.new (w.alloc (.cells #[.slice none 0 0, .slice none 0 0] 25)) #[.slice none 0 0, .slice none 0 0] 25; simpa using h, OwnR.nil_ _ _ _ _, OwnR.nil_ _ _ _ _, Hd6.nil_⟩)
  go_enter Tryz.func54, Tryz.ntmps54
  go_upto_region 2 with fail
  try rw [hV]
  obtain ⟨g, hg⟩ : ∃ g, w.heap.size = g := ⟨_, rfl⟩
  have HG := Lib.hid hg
  rw [hg] at VO PR ⊢
  clear hg hV
  go_wp2_with fail
  go_loopw [3, 5] (fun s3 i wr => ∃ k : Nat, i = .int .i64 k ∧ k ≤ n ∧ ∃ A1 n1 c1 A2 n2 c2 cs ps, Hid (Vo wr (g + 1) A1 n1 c1 A2 n2 c2 cs ps ∧ Blk wr g #[.slice none 0 0, .slice none 0 0] 25 ∧ ps.length ≤ k ∧ Bel w wr)) (fun _ i _ => n - (intOf i).toNat)
  case atStart => exact ⟨0, rfl, Nat.zero_le _, _, _, _, _, _, _, _, _, Lib.hid ⟨VO.out, PR.out, Nat.le_refl _, BV.out⟩⟩
  case round =>
    obtain ⟨i, rfl, hi, A1, n1, c1, A2, n2, c2, cs, ps, hh⟩ := hrel
    have VX := Lib.hid hh.out.1
    have PX := Lib.hid hh.out.2.1
    have HPL := Lib.hid hh.out.2.2.1
    have BL := Lib.hid hh.out.2.2.2
    clear hh BV VO PR
    by_cases hlt : i < n
    case neg =>
      obtain rfl : i = n := by omega
      have u0 := VX.out.blk.cell 0 rfl
      have u1 := VX.out.blk.cell 1 rfl
      have z0 := PX.out.cell 0 rfl
      have z1 := PX.out.cell 1 rfl
      have zf0 := PX.out.frozen 0
      have zf1 := PX.out.frozen 1
      have RB := Lib.hid ((PX.out.set 0 (.slice A1 n1 c1)).set 1 (.slice A2 n2 c2))
      have KQ := Lib.hid (show Kep (fun b => b = g) wr ((wr.setCell ⟨g, 0, none⟩ (.slice A1 n1 c1)).setCell ⟨g, 1, none⟩ (.slice A2 n2 c2)) from Kep.set (S := fun b => b = g) (Kep.set (S := fun b => b = g) (Kep.refl _ _) rfl _) rfl _)
      go_wp2_with fail
      refine bodyPost_ret (Pm.res_ci rfl _ _ ⟨g, 0, none⟩ _ _ rfl rfl (load_h RB.out)) rfl ⟨_, _, _, _, _, _, cs, ps, rfl, ?_, ?_, VX.out.hd, HPL.out, ?_⟩
      · exact (VX.out.oc.kep KQ.out (fun i e e' => by have := own_ge VX.out.oc e; omega)).mono (by have := HG.out; omega)
      · exact (VX.out.op.kep KQ.out (fun i e e' => by have := own_ge VX.out.op e; omega)).mono (by have := HG.out; omega)
      · exact Kep.bel BL.out KQ.out (fun k hk => by have := HG.out; omega)
    obtain ⟨bl, ol, rfl, _, hrows⟩ := HA.out (by omega)
    obtain ⟨k, o, a, b, d, e, v, h, x, haw, hrow⟩ := hrows i hlt
    have HAW := Lib.hid haw
    have HRW := Lib.hid (rng_bel hrow BL.out)
    have hlt3 : (i : Int) < n := by omega
    have hi0 : (0 : Int) ≤ i := by omega
    have HH1 := Lib.hid (VX.out.hh (by have := HPL.out; omega))
    have NR := Lib.hid (fun U (hU : Bel wr U) => near A1 n1 c1 A2 n2 c2 cs ps k o a b d e v h x U (HH1.out.bel hU) VX.out.hd.ok HAW.out)
    have DO := Lib.hid (fun (k' o' a' b' d' e' v' h' x' : Int) (hna : NearA k' o' a' b' d' e' v' h' x') U (hU : Bel wr U) => does_ A1 n1 c1 A2 n2 c2 cs ps k' o' a' b' d' e' v' h' x' U (HH1.out.bel hU) hna.x0 hna.x1)
    clear haw hrow hrows
    go_upto_region 5 with fail
    go_cut [6, 9] (fun s6 s9 wx => ∃ (q : Nat) (k' o' a' b' d' e' v' h' x' : Int) (F1 : Option Addr) (f1 : Nat) (F2 : Option Addr) (f2 base : Nat), s6 = .pointer (some ⟨q, 0, none⟩) ∧ s9 = .int .i64 (aE cs ps (k', o', a', b', d', e', v', h', x')) ∧ Hid (NearA k' o' a' b' d' e' v' h' x' ∧ Blk wx q #[.slice F1 (aC cs ps (k', o', a', b', d', e', v', h', x')).length f1, .slice F2 (aP cs ps (k', o', a', b', d', e', v', h', x')).length f2] 25 ∧ g + 1 + 1 ≤ base ∧ OwnR cC 90 wx base (.slice F1 (aC cs ps (k', o', a', b', d', e', v', h', x')).length f1) (aC cs ps (k', o', a', b', d', e', v', h', x')) ∧ OwnR cP 93 wx base (.slice F2 (aP cs ps (k', o', a', b', d', e', v', h', x')).length f2) (aP cs ps (k', o', a', b', d', e', v', h', x')) ∧ Bel wr wx))
    case first =>
      refine wp_region_held_drew (S := fun Vx => Bel wr Vx) (by kernel_rfl) (Bel.refl _).drew (fun hS0 => ?_)
      obtain ⟨w6, hw6⟩ : ∃ w6, World.drew wr = w6 := ⟨_, rfl⟩
      rw [hw6] at hS0 ⊢
      clear hw6
      refine ztk 0 { dst := some 17, op := .load 25 (.tmp 4), type := 25, pos := "outright.go:89", after := #[], guard := none } (.agg #[.slice A1 n1 c1, .slice A2 n2 c2]) (yieldsIf_load_mid (by rfl) _ _ rfl _ _ rfl _ _ (fun w h => rng_bel (rngB (C := [.slice A1 n1 c1, .slice A2 n2 c2]) VX.out.blk) h) Tryz.underlying25 rfl info_h) hS0 ?_
      try simp only [Act.put, zq1, zq2, zq3]
      refine ztk 1 { dst := some 18, op := .load 25 (.tmp 4), type := 25, pos := "outright.go:89", after := #[], guard := none } (.agg #[.slice A1 n1 c1, .slice A2 n2 c2]) (yieldsIf_load_mid (by rfl) _ _ rfl _ _ rfl _ _ (fun w h => rng_bel (rngB (C := [.slice A1 n1 c1, .slice A2 n2 c2]) VX.out.blk) h) Tryz.underlying25 rfl info_h) hS0 ?_
      try simp only [Act.put, zq1, zq2, zq3]
      refine ztk 2 { dst := some 19, op := .move (.tmp 0), type := 26, pos := "outright.go:89", after := #[], guard := none } (.slice (some ⟨bl, ol, none⟩) n c) (Or.inl ⟨by rfl, by intro w hSw; clear hSw; go_simp⟩) hS0 ?_
      try simp only [Act.put, zq1, zq2, zq3]
      refine ztk 3 { dst := some 20, op := .move (.tmp 5), type := 3, pos := "outright.go:89", after := #[], guard := none } (.int .i64 i) (Or.inl ⟨by rfl, by intro w hSw; clear hSw; go_simp⟩) hS0 ?_
      try simp only [Act.put, zq1, zq2, zq3]
      refine ztk 4 { dst := some 21, op := .indexAddr 26 (.tmp 19) (.tmp 20), type := 0, pos := "outright.go:89", after := #[{ on := 2, ground := .data }, { on := 3, ground := .data }], guard := none } (.pointer (some ⟨bl, ol + i * 9, none⟩)) (Or.inl ⟨by rfl, by intro w hSw; clear hSw; go_simp⟩) hS0 ?_
      try simp only [Act.put, zq1, zq2, zq3]
      refine ztk 5 { dst := some 22, op := .load 39 (.tmp 21), type := 39, pos := "outright.go:89", after := #[{ on := 4, ground := .data }], guard := none } (.agg #[.int .i64 k, .int .i64 o, .int .i64 a, .int .i64 b, .int .i64 d, .int .i64 e, .int .i64 v, .int .i64 h, .int .u64 x]) (yieldsIf_load_mid (by rfl) _ _ rfl _ _ rfl _ _ (fun w h => rng_bel HRW.out h) Tryz.underlying39 rfl (by kernel_rfl)) hS0 ?_
      try simp only [Act.put, zq1, zq2, zq3]
      refine wpAnyH_ready (rs := [6, 13]) (by kernel_rfl) (by simp) ?_
      refine AllReadyH.cons (o := { dst := some 23, op := .call { callee := .value (.func 52), args := #[.tmp 18, .tmp 22], argTypes := #[25, 39] }, type := 39, pos := "outright.go:89", after := #[{ on := 1, ground := .data }, { on := 5, ground := .data }], guard := none }) rfl (fun K hK => ?_) (AllReadyH.cons (o := { dst := some 6, op := .alloc 25, type := 0, pos := "outright.go:89", after := #[], guard := none }) rfl (fun K hK => ?_) AllReadyH.nil)
      · go_simp
        refine (NR.out _ hS0).mono ?_
        rintro e v1 ⟨k', o', a', b', d', e', v', h', x', rfl, hna, ka⟩
        go_wp2_with fail
        refine hK.out _ _ (hS0.trans ka) (fun hS1 => ?_)
        clear hK K
        try simp only [Act.put, zq1, zq2, zq3]
        refine wpAnyH_ready (rs := [7, 13]) (by kernel_rfl) (by simp) ?_
        refine AllReadyH.cons (o := { dst := some 24, op := .call { callee := .value (.func 16), args := #[.tmp 17, .tmp 23], argTypes := #[25, 39] }, type := 34, pos := "outright.go:89", after := #[{ on := 0, ground := .data }, { on := 6, ground := .data }, { on := 6, ground := .chain }], guard := none }) rfl (fun K hK => ?_) (AllReadyH.cons (o := { dst := some 6, op := .alloc 25, type := 0, pos := "outright.go:89", after := #[], guard := none }) rfl (fun K hK => ?_) AllReadyH.nil)
        · go_simp
          refine (DO.out k' o' a' b' d' e' v' h' x' hna _ hS1).mono ?_
          rintro e v2 ⟨z1, z2, lv, rfl, _, _, _, kb, hown⟩
          go_wp2_with fail
          refine hK.out _ _ (hS1.trans kb) (fun hS2 => ?_)
          clear hK K
          try simp only [Act.put, zq1, zq2, zq3]
          have hown2 := hown hna.k0 hna.k2
          obtain ⟨own1, own2⟩ := hown2
          obtain ⟨F1, f1, e1, _⟩ := own1.rs c6C
          obtain ⟨F2, f2, e2, _⟩ := own2.rs c6P
          subst e1 e2
          refine ztk 8 { dst := some 16, op := .move (.tmp 24), type := 34, pos := "outright.go:89", after := #[{ on := 7, ground := .data }], guard := none } (.tuple #[.agg #[.slice F1 (aC cs ps (k', o', a', b', d', e', v', h', x')).length f1, .slice F2 (aP cs ps (k', o', a', b', d', e', v', h', x')).length f2], .int .u64 (aN cs ps (k', o', a', b', d', e', v', h', x')), lv, .int .i64 (aE cs ps (k', o', a', b', d', e', v', h', x'))]) (Or.inl ⟨by rfl, by intro w hSw; clear hSw; go_simp⟩) hS2 ?_
          try simp only [Act.put, zq1, zq2, zq3]
          refine ztk 9 { dst := some 25, op := .extract (.tmp 16) 0, type := 25, pos := "outright.go:89", after := #[{ on := 8, ground := .data }], guard := none } (.agg #[.slice F1 (aC cs ps (k', o', a', b', d', e', v', h', x')).length f1, .slice F2 (aP cs ps (k', o', a', b', d', e', v', h', x')).length f2]) (Or.inl ⟨by rfl, by intro w hSw; clear hSw; go_simp⟩) hS2 ?_
          try simp only [Act.put, zq1, zq2, zq3]
          refine ztk 10 { dst := some 26, op := .extract (.tmp 16) 1, type := 32, pos := "outright.go:89", after := #[{ on := 8, ground := .data }, { on := 14, ground := .gcOnly .lateStores }], guard := none } (.int .u64 (aN cs ps (k', o', a', b', d', e', v', h', x'))) (Or.inl ⟨by rfl, by intro w hSw; clear hSw; go_simp⟩) hS2 ?_
          try simp only [Act.put, zq1, zq2, zq3]
          refine ztk 11 { dst := some 27, op := .extract (.tmp 16) 2, type := 33, pos := "outright.go:89", after := #[{ on := 8, ground := .data }, { on := 15, ground := .gcOnly .lateStores }], guard := none } (lv) (Or.inl ⟨by rfl, by intro w hSw; clear hSw; go_simp⟩) hS2 ?_
          try simp only [Act.put, zq1, zq2, zq3]
          refine ztk 12 { dst := some 28, op := .extract (.tmp 16) 3, type := 30, pos := "outright.go:89", after := #[{ on := 8, ground := .data }, { on := 16, ground := .gcOnly .lateStores }], guard := none } (.int .i64 (aE cs ps (k', o', a', b', d', e', v', h', x'))) (Or.inl ⟨by rfl, by intro w hSw; clear hSw; go_simp⟩) hS2 ?_
          try simp only [Act.put, zq1, zq2, zq3]
          refine wpAnyH_ready (rs := [13]) (by kernel_rfl) (by simp) ?_
          refine AllReadyH.cons (o := { dst := some 6, op := .alloc 25, type := 0, pos := "outright.go:89", after := #[], guard := none }) rfl (fun K hK => ?_) AllReadyH.nil
          go_simp
          refine hK.out _ _ (hS2.alloc _) (fun hS3 => ?_)
          clear hK K
          try simp only [Act.put, zq1, zq2, zq3]
          have gnb := Blk.new v2 #[.slice none 0 0, .slice none 0 0] 25
          have gnl := Lib.hid (Below.size hS2)
          generalize hvq : World.alloc v2 (Obj.cells #[.slice none 0 0, .slice none 0 0] 25) = v3 at gnb hS3 ⊢
          have gnk : Bel v2 v3 := by rw [← hvq]; exact (Bel.refl _).alloc _
          clear hvq
          obtain ⟨gn, hgq⟩ : ∃ g, (World.heap v2).size = g := ⟨_, rfl⟩
          rw [hgq] at gnb gnl ⊢
          clear hgq
          have gnb := Lib.hid gnb
          refine wpAnyH_ready (rs := [14]) (by kernel_rfl) (by simp) ?_
          refine AllReadyH.cons (o := { dst := none, op := .store 25 (.tmp 6) (.tmp 25), type := 0, pos := "outright.go:89", after := #[{ on := 13, ground := .data }, { on := 9, ground := .data }, { on := 7, ground := .chain }, { on := 0, ground := .phase }, { on := 1, ground := .phase }, { on := 2, ground := .phase }, { on := 3, ground := .phase }, { on := 4, ground := .phase }, { on := 5, ground := .phase }, { on := 6, ground := .phase }, { on := 7, ground := .phase }, { on := 8, ground := .phase }, { on := 9, ground := .phase }, { on := 10, ground := .textOnly .lateStores }, { on := 11, ground := .textOnly .lateStores }, { on := 12, ground := .textOnly .lateStores }, { on := 13, ground := .phase }], guard := none }) rfl (fun K hK => ?_) AllReadyH.nil
          have QB : Blk v3 gn #[.slice none 0 0, .slice none 0 0] 25 := by first | exact gnb.out | exact gnb.out.bel kb | exact (gnb.out.bel ka).bel kb
          have OO1 : ∃ base, g + 1 + 1 ≤ base ∧ OwnR cC 90 v3 base (.slice F1 (aC cs ps (k', o', a', b', d', e', v', h', x')).length f1) (aC cs ps (k', o', a', b', d', e', v', h', x')) := by first | exact ⟨_, Nat.le_trans VX.out.blk.lt (Below.size hS1), OwnR.bel own1 gnk⟩ | exact ⟨_, Nat.le_trans VX.out.blk.lt (Below.size hS1), own1⟩ | exact ⟨_, Nat.le_trans VX.out.blk.lt (Below.size hS2), own1⟩
          have OO2 : ∃ base, g + 1 + 1 ≤ base ∧ OwnR cP 93 v3 base (.slice F2 (aP cs ps (k', o', a', b', d', e', v', h', x')).length f2) (aP cs ps (k', o', a', b', d', e', v', h', x')) := by first | exact ⟨_, Nat.le_trans VX.out.blk.lt (Below.size hS1), OwnR.bel own2 gnk⟩ | exact ⟨_, Nat.le_trans VX.out.blk.lt (Below.size hS1), own2⟩ | exact ⟨_, Nat.le_trans VX.out.blk.lt (Below.size hS2), own2⟩
          have q0 := QB.cell 0 rfl
          have q1 := QB.cell 1 rfl
          have qf0 := QB.frozen 0
          have qf1 := QB.frozen 1
          go_simp
          refine hK.out _ _ ((hS3.set (p := ⟨gn, 0, none⟩) gnl.out _).set (p := ⟨gn, 1, none⟩) gnl.out _) (fun hS4 => ?_)
          clear hK K
          try simp only [Act.put, zq1, zq2, zq3]
          refine ztk 15 { dst := some 7, op := .assign (.tmp 26), type := 32, pos := "outright.go:89", after := #[{ on := 10, ground := .data }, { on := 14, ground := .chain }, { on := 0, ground := .phase }, { on := 1, ground := .phase }, { on := 2, ground := .phase }, { on := 3, ground := .phase }, { on := 4, ground := .phase }, { on := 5, ground := .phase }, { on := 6, ground := .phase }, { on := 7, ground := .phase }, { on := 8, ground := .phase }, { on := 9, ground := .phase }, { on := 10, ground := .phase }, { on := 11, ground := .textOnly .lateStores }, { on := 12, ground := .textOnly .lateStores }, { on := 13, ground := .phase }, { on := 14, ground := .phase }], guard := none } (.int .u64 (aN cs ps (k', o', a', b', d', e', v', h', x'))) (Or.inl ⟨by rfl, by intro w hSw; clear hSw; go_simp⟩) hS4 ?_
          try simp only [Act.put, zq1, zq2, zq3]
          refine ztk 16 { dst := some 8, op := .assign (.tmp 27), type := 33, pos := "outright.go:89", after := #[{ on := 11, ground := .data }, { on := 15, ground := .chain }, { on := 0, ground := .phase }, { on := 1, ground := .phase }, { on := 2, ground := .phase }, { on := 3, ground := .phase }, { on := 4, ground := .phase }, { on := 5, ground := .phase }, { on := 6, ground := .phase }, { on := 7, ground := .phase }, { on := 8, ground := .phase }, { on := 9, ground := .phase }, { on := 10, ground := .phase }, { on := 11, ground := .phase }, { on := 12, ground := .textOnly .lateStores }, { on := 13, ground := .phase }, { on := 14, ground := .phase }, { on := 15, ground := .phase }], guard := none } (lv) (Or.inl ⟨by rfl, by intro w hSw; clear hSw; go_simp⟩) hS4 ?_
          try simp only [Act.put, zq1, zq2, zq3]
          refine ztk 17 { dst := some 9, op := .assign (.tmp 28), type := 30, pos := "outright.go:89", after := #[{ on := 12, ground := .data }, { on := 16, ground := .chain }, { on := 0, ground := .phase }, { on := 1, ground := .phase }, { on := 2, ground := .phase }, { on := 3, ground := .phase }, { on := 4, ground := .phase }, { on := 5, ground := .phase }, { on := 6, ground := .phase }, { on := 7, ground := .phase }, { on := 8, ground := .phase }, { on := 9, ground := .phase }, { on := 10, ground := .phase }, { on := 11, ground := .phase }, { on := 12, ground := .phase }, { on := 13, ground := .phase }, { on := 14, ground := .phase }, { on := 15, ground := .phase }, { on := 16, ground := .phase }], guard := none } (.int .i64 (aE cs ps (k', o', a', b', d', e', v', h', x'))) (Or.inl ⟨by rfl, by intro w hSw; clear hSw; go_simp⟩) hS4 ?_
          try simp only [Act.put, zq1, zq2, zq3]
          refine wpAnyH_done (by kernel_rfl) ?_ _
          have KQ := Lib.hid (show Kep (fun b => b = gn) v3 ((v3.setCell ⟨gn, 0, none⟩ (.slice F1 (aC cs ps (k', o', a', b', d', e', v', h', x')).length f1)).setCell ⟨gn, 1, none⟩ (.slice F2 (aP cs ps (k', o', a', b', d', e', v', h', x')).length f2)) from Kep.set (S := fun b => b = gn) (Kep.set (S := fun b => b = gn) (Kep.refl _ _) rfl _) rfl _)
          obtain ⟨b1, hb1, OO1⟩ := OO1
          obtain ⟨b2, hb2, OO2⟩ := OO2
          have RR := Lib.hid ((QB.set 0 (.slice F1 (aC cs ps (k', o', a', b', d', e', v', h', x')).length f1)).set 1 (.slice F2 (aP cs ps (k', o', a', b', d', e', v', h', x')).length f2))
          have R1 := Lib.hid ((OO1.kep KQ.out (fun i e e' => own_ne OO1 QB (by decide) (e' ▸ e))).mono hb1)
          have R2 := Lib.hid ((OO2.kep KQ.out (fun i e e' => own_ne OO2 QB (by decide) (e' ▸ e))).mono hb2)
          have RS9 := Lib.hid hS4
          clear q0 q1 qf0 qf1 QB
          go_wp2_with fail
          go_meet
          exact ⟨gn, k', o', a', b', d', e', v', h', x', F1, f1, F2, f2, g + 1 + 1, rfl, rfl, Lib.hid ⟨hna, RR.out, Nat.le_refl _, R1.out, R2.out, RS9.out⟩⟩
        · go_simp
          refine hK.out _ _ (hS1.alloc _) (fun hS2 => ?_)
          clear hK K
          try simp only [Act.put, zq1, zq2, zq3]
          have gnb := Blk.new v1 #[.slice none 0 0, .slice none 0 0] 25
          have gnl := Lib.hid (Below.size hS1)
          generalize hvq : World.alloc v1 (Obj.cells #[.slice none 0 0, .slice none 0 0] 25) = v2 at gnb hS2 ⊢
          have gnk : Bel v1 v2 := by rw [← hvq]; exact (Bel.refl _).alloc _
          clear hvq
          obtain ⟨gn, hgq⟩ : ∃ g, (World.heap v1).size = g := ⟨_, rfl⟩
          rw [hgq] at gnb gnl ⊢
          clear hgq
          have gnb := Lib.hid gnb
          refine wpAnyH_ready (rs := [7]) (by kernel_rfl) (by simp) ?_
          refine AllReadyH.cons (o := { dst := some 24, op := .call { callee := .value (.func 16), args := #[.tmp 17, .tmp 23], argTypes := #[25, 39] }, type := 34, pos := "outright.go:89", after := #[{ on := 0, ground := .data }, { on := 6, ground := .data }, { on := 6, ground := .chain }], guard := none }) rfl (fun K hK => ?_) AllReadyH.nil
          go_simp
          refine (DO.out k' o' a' b' d' e' v' h' x' hna _ hS2).mono ?_
          rintro e v3 ⟨z1, z2, lv, rfl, _, _, _, kb, hown⟩
          go_wp2_with fail
          refine hK.out _ _ (hS2.trans kb) (fun hS3 => ?_)
          clear hK K
          try simp only [Act.put, zq1, zq2, zq3]
          have hown2 := hown hna.k0 hna.k2
          obtain ⟨own1, own2⟩ := hown2
          obtain ⟨F1, f1, e1, _⟩ := own1.rs c6C
          obtain ⟨F2, f2, e2, _⟩ := own2.rs c6P
          subst e1 e2
          refine ztk 8 { dst := some 16, op := .move (.tmp 24), type := 34, pos := "outright.go:89", after := #[{ on := 7, ground := .data }], guard := none } (.tuple #[.agg #[.slice F1 (aC cs ps (k', o', a', b', d', e', v', h', x')).length f1, .slice F2 (aP cs ps (k', o', a', b', d', e', v', h', x')).length f2], .int .u64 (aN cs ps (k', o', a', b', d', e', v', h', x')), lv, .int .i64 (aE cs ps (k', o', a', b', d', e', v', h', x'))]) (Or.inl ⟨by rfl, by intro w hSw; clear hSw; go_simp⟩) hS3 ?_
          try simp only [Act.put, zq1, zq2, zq3]
          refine ztk 9 { dst := some 25, op := .extract (.tmp 16) 0, type := 25, pos := "outright.go:89", after := #[{ on := 8, ground := .data }], guard := none } (.agg #[.slice F1 (aC cs ps (k', o', a', b', d', e', v', h', x')).length f1, .slice F2 (aP cs ps (k', o', a', b', d', e', v', h', x')).length f2]) (Or.inl ⟨by rfl, by intro w hSw; clear hSw; go_simp⟩) hS3 ?_
          try simp only [Act.put, zq1, zq2, zq3]
          refine ztk 10 { dst := some 26, op := .extract (.tmp 16) 1, type := 32, pos := "outright.go:89", after := #[{ on := 8, ground := .data }, { on := 14, ground := .gcOnly .lateStores }], guard := none } (.int .u64 (aN cs ps (k', o', a', b', d', e', v', h', x'))) (Or.inl ⟨by rfl, by intro w hSw; clear hSw; go_simp⟩) hS3 ?_
          try simp only [Act.put, zq1, zq2, zq3]
          refine ztk 11 { dst := some 27, op := .extract (.tmp 16) 2, type := 33, pos := "outright.go:89", after := #[{ on := 8, ground := .data }, { on := 15, ground := .gcOnly .lateStores }], guard := none } (lv) (Or.inl ⟨by rfl, by intro w hSw; clear hSw; go_simp⟩) hS3 ?_
          try simp only [Act.put, zq1, zq2, zq3]
          refine ztk 12 { dst := some 28, op := .extract (.tmp 16) 3, type := 30, pos := "outright.go:89", after := #[{ on := 8, ground := .data }, { on := 16, ground := .gcOnly .lateStores }], guard := none } (.int .i64 (aE cs ps (k', o', a', b', d', e', v', h', x'))) (Or.inl ⟨by rfl, by intro w hSw; clear hSw; go_simp⟩) hS3 ?_
          try simp only [Act.put, zq1, zq2, zq3]
          refine wpAnyH_ready (rs := [14]) (by kernel_rfl) (by simp) ?_
          refine AllReadyH.cons (o := { dst := none, op := .store 25 (.tmp 6) (.tmp 25), type := 0, pos := "outright.go:89", after := #[{ on := 13, ground := .data }, { on := 9, ground := .data }, { on := 7, ground := .chain }, { on := 0, ground := .phase }, { on := 1, ground := .phase }, { on := 2, ground := .phase }, { on := 3, ground := .phase }, { on := 4, ground := .phase }, { on := 5, ground := .phase }, { on := 6, ground := .phase }, { on := 7, ground := .phase }, { on := 8, ground := .phase }, { on := 9, ground := .phase }, { on := 10, ground := .textOnly .lateStores }, { on := 11, ground := .textOnly .lateStores }, { on := 12, ground := .textOnly .lateStores }, { on := 13, ground := .phase }], guard := none }) rfl (fun K hK => ?_) AllReadyH.nil
          have QB : Blk v3 gn #[.slice none 0 0, .slice none 0 0] 25 := by first | exact gnb.out | exact gnb.out.bel kb | exact (gnb.out.bel ka).bel kb
          have OO1 : ∃ base, g + 1 + 1 ≤ base ∧ OwnR cC 90 v3 base (.slice F1 (aC cs ps (k', o', a', b', d', e', v', h', x')).length f1) (aC cs ps (k', o', a', b', d', e', v', h', x')) := by first | exact ⟨_, Nat.le_trans VX.out.blk.lt (Below.size hS1), OwnR.bel own1 gnk⟩ | exact ⟨_, Nat.le_trans VX.out.blk.lt (Below.size hS1), own1⟩ | exact ⟨_, Nat.le_trans VX.out.blk.lt (Below.size hS2), own1⟩
          have OO2 : ∃ base, g + 1 + 1 ≤ base ∧ OwnR cP 93 v3 base (.slice F2 (aP cs ps (k', o', a', b', d', e', v', h', x')).length f2) (aP cs ps (k', o', a', b', d', e', v', h', x')) := by first | exact ⟨_, Nat.le_trans VX.out.blk.lt (Below.size hS1), OwnR.bel own2 gnk⟩ | exact ⟨_, Nat.le_trans VX.out.blk.lt (Below.size hS1), own2⟩ | exact ⟨_, Nat.le_trans VX.out.blk.lt (Below.size hS2), own2⟩
          have q0 := QB.cell 0 rfl
          have q1 := QB.cell 1 rfl
          have qf0 := QB.frozen 0
          have qf1 := QB.frozen 1
          go_simp
          refine hK.out _ _ ((hS3.set (p := ⟨gn, 0, none⟩) gnl.out _).set (p := ⟨gn, 1, none⟩) gnl.out _) (fun hS4 => ?_)
          clear hK K
          try simp only [Act.put, zq1, zq2, zq3]
          refine ztk 15 { dst := some 7, op := .assign (.tmp 26), type := 32, pos := "outright.go:89", after := #[{ on := 10, ground := .data }, { on := 14, ground := .chain }, { on := 0, ground := .phase }, { on := 1, ground := .phase }, { on := 2, ground := .phase }, { on := 3, ground := .phase }, { on := 4, ground := .phase }, { on := 5, ground := .phase }, { on := 6, ground := .phase }, { on := 7, ground := .phase }, { on := 8, ground := .phase }, { on := 9, ground := .phase }, { on := 10, ground := .phase }, { on := 11, ground := .textOnly .lateStores }, { on := 12, ground := .textOnly .lateStores }, { on := 13, ground := .phase }, { on := 14, ground := .phase }], guard := none } (.int .u64 (aN cs ps (k', o', a', b', d', e', v', h', x'))) (Or.inl ⟨by rfl, by intro w hSw; clear hSw; go_simp⟩) hS4 ?_
          try simp only [Act.put, zq1, zq2, zq3]
          refine ztk 16 { dst := some 8, op := .assign (.tmp 27), type := 33, pos := "outright.go:89", after := #[{ on := 11, ground := .data }, { on := 15, ground := .chain }, { on := 0, ground := .phase }, { on := 1, ground := .phase }, { on := 2, ground := .phase }, { on := 3, ground := .phase }, { on := 4, ground := .phase }, { on := 5, ground := .phase }, { on := 6, ground := .phase }, { on := 7, ground := .phase }, { on := 8, ground := .phase }, { on := 9, ground := .phase }, { on := 10, ground := .phase }, { on := 11, ground := .phase }, { on := 12, ground := .textOnly .lateStores }, { on := 13, ground := .phase }, { on := 14, ground := .phase }, { on := 15, ground := .phase }], guard := none } (lv) (Or.inl ⟨by rfl, by intro w hSw; clear hSw; go_simp⟩) hS4 ?_
          try simp only [Act.put, zq1, zq2, zq3]
          refine ztk 17 { dst := some 9, op := .assign (.tmp 28), type := 30, pos := "outright.go:89", after := #[{ on := 12, ground := .data }, { on := 16, ground := .chain }, { on := 0, ground := .phase }, { on := 1, ground := .phase }, { on := 2, ground := .phase }, { on := 3, ground := .phase }, { on := 4, ground := .phase }, { on := 5, ground := .phase }, { on := 6, ground := .phase }, { on := 7, ground := .phase }, { on := 8, ground := .phase }, { on := 9, ground := .phase }, { on := 10, ground := .phase }, { on := 11, ground := .phase }, { on := 12, ground := .phase }, { on := 13, ground := .phase }, { on := 14, ground := .phase }, { on := 15, ground := .phase }, { on := 16, ground := .phase }], guard := none } (.int .i64 (aE cs ps (k', o', a', b', d', e', v', h', x'))) (Or.inl ⟨by rfl, by intro w hSw; clear hSw; go_simp⟩) hS4 ?_
          try simp only [Act.put, zq1, zq2, zq3]
          refine wpAnyH_done (by kernel_rfl) ?_ _
          have KQ := Lib.hid (show Kep (fun b => b = gn) v3 ((v3.setCell ⟨gn, 0, none⟩ (.slice F1 (aC cs ps (k', o', a', b', d', e', v', h', x')).length f1)).setCell ⟨gn, 1, none⟩ (.slice F2 (aP cs ps (k', o', a', b', d', e', v', h', x')).length f2)) from Kep.set (S := fun b => b = gn) (Kep.set (S := fun b => b = gn) (Kep.refl _ _) rfl _) rfl _)
          obtain ⟨b1, hb1, OO1⟩ := OO1
          obtain ⟨b2, hb2, OO2⟩ := OO2
          have RR := Lib.hid ((QB.set 0 (.slice F1 (aC cs ps (k', o', a', b', d', e', v', h', x')).length f1)).set 1 (.slice F2 (aP cs ps (k', o', a', b', d', e', v', h', x')).length f2))
          have R1 := Lib.hid ((OO1.kep KQ.out (fun i e e' => own_ne OO1 QB (by decide) (e' ▸ e))).mono hb1)
          have R2 := Lib.hid ((OO2.kep KQ.out (fun i e e' => own_ne OO2 QB (by decide) (e' ▸ e))).mono hb2)
          have RS9 := Lib.hid hS4
          clear q0 q1 qf0 qf1 QB
          go_wp2_with fail
          go_meet
          exact ⟨gn, k', o', a', b', d', e', v', h', x', F1, f1, F2, f2, g + 1 + 1, rfl, rfl, Lib.hid ⟨hna, RR.out, Nat.le_refl _, R1.out, R2.out, RS9.out⟩⟩
      · go_simp
        refine hK.out _ _ (hS0.alloc _) (fun hS1 => ?_)
        clear hK K
        try simp only [Act.put, zq1, zq2, zq3]
        have gnb := Blk.new w6 #[.slice none 0 0, .slice none 0 0] 25
        have gnl := Lib.hid (Below.size hS0)
        generalize hvq : World.alloc w6 (Obj.cells #[.slice none 0 0, .slice none 0 0] 25) = v1 at gnb hS1 ⊢
        have gnk : Bel w6 v1 := by rw [← hvq]; exact (Bel.refl _).alloc _
        clear hvq
        obtain ⟨gn, hgq⟩ : ∃ g, (World.heap w6).size = g := ⟨_, rfl⟩
        rw [hgq] at gnb gnl ⊢
        clear hgq
        have gnb := Lib.hid gnb
        refine wpAnyH_ready (rs := [6]) (by kernel_rfl) (by simp) ?_
        refine AllReadyH.cons (o := { dst := some 23, op := .call { callee := .value (.func 52), args := #[.tmp 18, .tmp 22], argTypes := #[25, 39] }, type := 39, pos := "outright.go:89", after := #[{ on := 1, ground := .data }, { on := 5, ground := .data }], guard := none }) rfl (fun K hK => ?_) AllReadyH.nil
        go_simp
        refine (NR.out _ hS1).mono ?_
        rintro e v2 ⟨k', o', a', b', d', e', v', h', x', rfl, hna, ka⟩
        go_wp2_with fail
        refine hK.out _ _ (hS1.trans ka) (fun hS2 => ?_)
        clear hK K
        try simp only [Act.put, zq1, zq2, zq3]
        refine wpAnyH_ready (rs := [7]) (by kernel_rfl) (by simp) ?_
        refine AllReadyH.cons (o := { dst := some 24, op := .call { callee := .value (.func 16), args := #[.tmp 17, .tmp 23], argTypes := #[25, 39] }, type := 34, pos := "outright.go:89", after := #[{ on := 0, ground := .data }, { on := 6, ground := .data }, { on := 6, ground := .chain }], guard := none }) rfl (fun K hK => ?_) AllReadyH.nil
        go_simp
        refine (DO.out k' o' a' b' d' e' v' h' x' hna _ hS2).mono ?_
        rintro e v3 ⟨z1, z2, lv, rfl, _, _, _, kb, hown⟩
        go_wp2_with fail
        refine hK.out _ _ (hS2.trans kb) (fun hS3 => ?_)
        clear hK K
        try simp only [Act.put, zq1, zq2, zq3]
        have hown2 := hown hna.k0 hna.k2
        obtain ⟨own1, own2⟩ := hown2
        obtain ⟨F1, f1, e1, _⟩ := own1.rs c6C
        obtain ⟨F2, f2, e2, _⟩ := own2.rs c6P
        subst e1 e2
        refine ztk 8 { dst := some 16, op := .move (.tmp 24), type := 34, pos := "outright.go:89", after := #[{ on := 7, ground := .data }], guard := none } (.tuple #[.agg #[.slice F1 (aC cs ps (k', o', a', b', d', e', v', h', x')).length f1, .slice F2 (aP cs ps (k', o', a', b', d', e', v', h', x')).length f2], .int .u64 (aN cs ps (k', o', a', b', d', e', v', h', x')), lv, .int .i64 (aE cs ps (k', o', a', b', d', e', v', h', x'))]) (Or.inl ⟨by rfl, by intro w hSw; clear hSw; go_simp⟩) hS3 ?_
        try simp only [Act.put, zq1, zq2, zq3]
        refine ztk 9 { dst := some 25, op := .extract (.tmp 16) 0, type := 25, pos := "outright.go:89", after := #[{ on := 8, ground := .data }], guard := none } (.agg #[.slice F1 (aC cs ps (k', o', a', b', d', e', v', h', x')).length f1, .slice F2 (aP cs ps (k', o', a', b', d', e', v', h', x')).length f2]) (Or.inl ⟨by rfl, by intro w hSw; clear hSw; go_simp⟩) hS3 ?_
        try simp only [Act.put, zq1, zq2, zq3]
        refine ztk 10 { dst := some 26, op := .extract (.tmp 16) 1, type := 32, pos := "outright.go:89", after := #[{ on := 8, ground := .data }, { on := 14, ground := .gcOnly .lateStores }], guard := none } (.int .u64 (aN cs ps (k', o', a', b', d', e', v', h', x'))) (Or.inl ⟨by rfl, by intro w hSw; clear hSw; go_simp⟩) hS3 ?_
        try simp only [Act.put, zq1, zq2, zq3]
        refine ztk 11 { dst := some 27, op := .extract (.tmp 16) 2, type := 33, pos := "outright.go:89", after := #[{ on := 8, ground := .data }, { on := 15, ground := .gcOnly .lateStores }], guard := none } (lv) (Or.inl ⟨by rfl, by intro w hSw; clear hSw; go_simp⟩) hS3 ?_
        try simp only [Act.put, zq1, zq2, zq3]
        refine ztk 12 { dst := some 28, op := .extract (.tmp 16) 3, type := 30, pos := "outright.go:89", after := #[{ on := 8, ground := .data }, { on := 16, ground := .gcOnly .lateStores }], guard := none } (.int .i64 (aE cs ps (k', o', a', b', d', e', v', h', x'))) (Or.inl ⟨by rfl, by intro w hSw; clear hSw; go_simp⟩) hS3 ?_
        try simp only [Act.put, zq1, zq2, zq3]
        refine wpAnyH_ready (rs := [14]) (by kernel_rfl) (by simp) ?_
        refine AllReadyH.cons (o := { dst := none, op := .store 25 (.tmp 6) (.tmp 25), type := 0, pos := "outright.go:89", after := #[{ on := 13, ground := .data }, { on := 9, ground := .data }, { on := 7, ground := .chain }, { on := 0, ground := .phase }, { on := 1, ground := .phase }, { on := 2, ground := .phase }, { on := 3, ground := .phase }, { on := 4, ground := .phase }, { on := 5, ground := .phase }, { on := 6, ground := .phase }, { on := 7, ground := .phase }, { on := 8, ground := .phase }, { on := 9, ground := .phase }, { on := 10, ground := .textOnly .lateStores }, { on := 11, ground := .textOnly .lateStores }, { on := 12, ground := .textOnly .lateStores }, { on := 13, ground := .phase }], guard := none }) rfl (fun K hK => ?_) AllReadyH.nil
        have QB : Blk v3 gn #[.slice none 0 0, .slice none 0 0] 25 := by first | exact gnb.out | exact gnb.out.bel kb | exact (gnb.out.bel ka).bel kb
        have OO1 : ∃ base, g + 1 + 1 ≤ base ∧ OwnR cC 90 v3 base (.slice F1 (aC cs ps (k', o', a', b', d', e', v', h', x')).length f1) (aC cs ps (k', o', a', b', d', e', v', h', x')) := by first | exact ⟨_, Nat.le_trans VX.out.blk.lt (Below.size hS1), OwnR.bel own1 gnk⟩ | exact ⟨_, Nat.le_trans VX.out.blk.lt (Below.size hS1), own1⟩ | exact ⟨_, Nat.le_trans VX.out.blk.lt (Below.size hS2), own1⟩
        have OO2 : ∃ base, g + 1 + 1 ≤ base ∧ OwnR cP 93 v3 base (.slice F2 (aP cs ps (k', o', a', b', d', e', v', h', x')).length f2) (aP cs ps (k', o', a', b', d', e', v', h', x')) := by first | exact ⟨_, Nat.le_trans VX.out.blk.lt (Below.size hS1), OwnR.bel own2 gnk⟩ | exact ⟨_, Nat.le_trans VX.out.blk.lt (Below.size hS1), own2⟩ | exact ⟨_, Nat.le_trans VX.out.blk.lt (Below.size hS2), own2⟩
        have q0 := QB.cell 0 rfl
        have q1 := QB.cell 1 rfl
        have qf0 := QB.frozen 0
        have qf1 := QB.frozen 1
        go_simp
        refine hK.out _ _ ((hS3.set (p := ⟨gn, 0, none⟩) gnl.out _).set (p := ⟨gn, 1, none⟩) gnl.out _) (fun hS4 => ?_)
        clear hK K
        try simp only [Act.put, zq1, zq2, zq3]
        refine ztk 15 { dst := some 7, op := .assign (.tmp 26), type := 32, pos := "outright.go:89", after := #[{ on := 10, ground := .data }, { on := 14, ground := .chain }, { on := 0, ground := .phase }, { on := 1, ground := .phase }, { on := 2, ground := .phase }, { on := 3, ground := .phase }, { on := 4, ground := .phase }, { on := 5, ground := .phase }, { on := 6, ground := .phase }, { on := 7, ground := .phase }, { on := 8, ground := .phase }, { on := 9, ground := .phase }, { on := 10, ground := .phase }, { on := 11, ground := .textOnly .lateStores }, { on := 12, ground := .textOnly .lateStores }, { on := 13, ground := .phase }, { on := 14, ground := .phase }], guard := none } (.int .u64 (aN cs ps (k', o', a', b', d', e', v', h', x'))) (Or.inl ⟨by rfl, by intro w hSw; clear hSw; go_simp⟩) hS4 ?_
        try simp only [Act.put, zq1, zq2, zq3]
        refine ztk 16 { dst := some 8, op := .assign (.tmp 27), type := 33, pos := "outright.go:89", after := #[{ on := 11, ground := .data }, { on := 15, ground := .chain }, { on := 0, ground := .phase }, { on := 1, ground := .phase }, { on := 2, ground := .phase }, { on := 3, ground := .phase }, { on := 4, ground := .phase }, { on := 5, ground := .phase }, { on := 6, ground := .phase }, { on := 7, ground := .phase }, { on := 8, ground := .phase }, { on := 9, ground := .phase }, { on := 10, ground := .phase }, { on := 11, ground := .phase }, { on := 12, ground := .textOnly .lateStores }, { on := 13, ground := .phase }, { on := 14, ground := .phase }, { on := 15, ground := .phase }], guard := none } (lv) (Or.inl ⟨by rfl, by intro w hSw; clear hSw; go_simp⟩) hS4 ?_
        try simp only [Act.put, zq1, zq2, zq3]
        refine ztk 17 { dst := some 9, op := .assign (.tmp 28), type := 30, pos := "outright.go:89", after := #[{ on := 12, ground := .data }, { on := 16, ground := .chain }, { on := 0, ground := .phase }, { on := 1, ground := .phase }, { on := 2, ground := .phase }, { on := 3, ground := .phase }, { on := 4, ground := .phase }, { on := 5, ground := .phase }, { on := 6, ground := .phase }, { on := 7, ground := .phase }, { on := 8, ground := .phase }, { on := 9, ground := .phase }, { on := 10, ground := .phase }, { on := 11, ground := .phase }, { on := 12, ground := .phase }, { on := 13, ground := .phase }, { on := 14, ground := .phase }, { on := 15, ground := .phase }, { on := 16, ground := .phase }], guard := none } (.int .i64 (aE cs ps (k', o', a', b', d', e', v', h', x'))) (Or.inl ⟨by rfl, by intro w hSw; clear hSw; go_simp⟩) hS4 ?_
        try simp only [Act.put, zq1, zq2, zq3]
        refine wpAnyH_done (by kernel_rfl) ?_ _
        have KQ := Lib.hid (show Kep (fun b => b = gn) v3 ((v3.setCell ⟨gn, 0, none⟩ (.slice F1 (aC cs ps (k', o', a', b', d', e', v', h', x')).length f1)).setCell ⟨gn, 1, none⟩ (.slice F2 (aP cs ps (k', o', a', b', d', e', v', h', x')).length f2)) from Kep.set (S := fun b => b = gn) (Kep.set (S := fun b => b = gn) (Kep.refl _ _) rfl _) rfl _)
        obtain ⟨b1, hb1, OO1⟩ := OO1
        obtain ⟨b2, hb2, OO2⟩ := OO2
        have RR := Lib.hid ((QB.set 0 (.slice F1 (aC cs ps (k', o', a', b', d', e', v', h', x')).length f1)).set 1 (.slice F2 (aP cs ps (k', o', a', b', d', e', v', h', x')).length f2))
        have R1 := Lib.hid ((OO1.kep KQ.out (fun i e e' => own_ne OO1 QB (by decide) (e' ▸ e))).mono hb1)
        have R2 := Lib.hid ((OO2.kep KQ.out (fun i e e' => own_ne OO2 QB (by decide) (e' ▸ e))).mono hb2)
        have RS9 := Lib.hid hS4
        clear q0 q1 qf0 qf1 QB
        go_wp2_with fail
        go_meet
        exact ⟨gn, k', o', a', b', d', e', v', h', x', F1, f1, F2, f2, g + 1 + 1, rfl, rfl, Lib.hid ⟨hna, RR.out, Nat.le_refl _, R1.out, R2.out, RS9.out⟩⟩
    case rest =>
      obtain ⟨q, k', o', a', b', d', e', v', h', x', F1, f1, F2, f2, base, rfl, rfl, hh⟩ := hcut
      obtain ⟨hna, hq, hbase, ho1, ho2, hbc⟩ := hh.out
      have QG := Lib.hid hq
      have O1 := Lib.hid ho1
      have O2 := Lib.hid ho2
      have BC := Lib.hid hbc
      have HBS := Lib.hid hbase
      have HMI := Lib.hid (mild_near VX.out.hd hna)
      have AK := Lib.hid (fun hE => act_keeps VX.out.hd hna hE)
      have VC := Lib.hid (VX.out.bel hbc)
      have PC := Lib.hid (PX.out.bel hbc)
      obtain ⟨EE, hEE⟩ : ∃ E, aE cs ps (k', o', a', b', d', e', v', h', x') = E := ⟨_, rfl⟩
      obtain ⟨CC, hCC⟩ : ∃ l, aC cs ps (k', o', a', b', d', e', v', h', x') = l := ⟨_, rfl⟩
      obtain ⟨PP, hPP⟩ : ∃ l, aP cs ps (k', o', a', b', d', e', v', h', x') = l := ⟨_, rfl⟩
      rw [hEE] at AK HMI ⊢
      rw [hCC] at AK QG O1
      rw [hPP] at AK QG O2
      obtain ⟨N1, hN1⟩ : ∃ N, CC.length = N := ⟨_, rfl⟩
      obtain ⟨N2, hN2⟩ : ∃ N, PP.length = N := ⟨_, rfl⟩
      rw [hN1] at QG O1
      rw [hN2] at QG O2
      clear hh hna hq hbase ho1 ho2 hbc hEE hCC hPP hN1 hN2 NR DO HAW HRW HH1
      by_cases hE0 : EE = 0
      case pos =>
        subst hE0
        obtain ⟨hd, hpl, _⟩ := AK.out rfl
        have w0 := QG.out.cell 0 rfl
        have w1 := QG.out.cell 1 rfl
        have z0 := VC.out.blk.cell 0 rfl
        have z1 := VC.out.blk.cell 1 rfl
        have zf0 := VC.out.blk.frozen 0
        have zf1 := VC.out.blk.frozen 1
        have HGE : w.heap.size ≤ g + 1 := by have := HG.out; omega
        have NX := Lib.hid (show Vo ((wc.setCell ⟨g + 1, 0, none⟩ (.slice F1 N1 f1)).setCell ⟨g + 1, 1, none⟩ (.slice F2 N2 f2)) (g + 1) F1 N1 f1 F2 N2 f2 CC PP ∧ Blk ((wc.setCell ⟨g + 1, 0, none⟩ (.slice F1 N1 f1)).setCell ⟨g + 1, 1, none⟩ (.slice F2 N2 f2)) g #[.slice none 0 0, .slice none 0 0] 25 ∧ PP.length ≤ i + 1 ∧ Bel w ((wc.setCell ⟨g + 1, 0, none⟩ (.slice F1 N1 f1)).setCell ⟨g + 1, 1, none⟩ (.slice F2 N2 f2)) from
          ⟨VC.out.put O1.out O2.out HBS.out hd, (PC.out.other (by omega) 0 _).other (by omega) 1 _, by have := HPL.out; omega, ((BL.out.trans BC.out).set (p := ⟨g + 1, 0, none⟩) HGE _).set (p := ⟨g + 1, 1, none⟩) HGE _⟩)
        clear hd hpl HGE
        go_wp2_with fail
        go_roundw
        case rel => exact ⟨i + 1, by go_num, by omega, _, _, _, _, _, _, _, _, NX⟩
        case measure => simp [intOf]; omega
      have hb0 : (EE == 0) = false := beq_eq_false_iff_ne.2 hE0
      have hb3 : (EE == 3) = false := beq_eq_false_iff_ne.2 HMI.out.1
      have hb9 : (EE == 9) = false := beq_eq_false_iff_ne.2 HMI.out.2.1
      have hb4 : (EE == 4) = false := beq_eq_false_iff_ne.2 HMI.out.2.2
      have NX := Lib.hid (show Vo wc (g + 1) A1 n1 c1 A2 n2 c2 cs ps ∧ Blk wc g #[.slice none 0 0, .slice none 0 0] 25 ∧ ps.length ≤ i + 1 ∧ Bel w wc from ⟨VC.out, PC.out, by have := HPL.out; omega, BL.out.trans BC.out⟩)
      clear hE0
      go_wp2_with fail
      go_roundw
      case rel => exact ⟨i + 1, by go_num, by omega, _, _, _, _, _, _, _, _, NX⟩
      case measure => simp [intOf]; omega
end Ho
end Go.Proofs.YtneajcoiemkfbaaGreat
end

section
/-
  The mathematics of drift: what a position is worth behind others' Joins and Leaves; Find in lists that are in order. No program.
-/
namespace Go.Proofs.YtneajcoiemkfbaaGreat
open Go.RowKit Go.Shelf
set_option linter.unusedVariables false
set_option linter.unusedSimpArgs false
namespace Ho

theorem fnd_get (a b d e : Int) : ∀ {l : List R6}, Srt ordC l → fnd a b d e l = get ordC l (a, b, d, e, 0, 0)
  | [], _ => rfl
  | y :: l, hs => by
    obtain ⟨h1, h2⟩ := List.pairwise_cons.1 hs
    have ih := fnd_get a b d e h2
    rw [get_cons]
    unfold fnd at ih ⊢
    rw [List.find?_cons]
    by_cases h0 : ordC y (a, b, d, e, 0, 0) = 0
    · rw [decide_eq_true h0, if_neg (by omega), if_pos h0]
    · rw [decide_eq_false h0, if_neg h0]
      by_cases hl : ordC y (a, b, d, e, 0, 0) < 0
      · rw [if_pos hl]; exact ih
      · rw [if_neg hl]
        show List.find? _ l = none
        rw [List.find?_eq_none]
        intro z hz k
        have hz0 := of_decide_eq_true k
        have := h1 z hz
        rw [odC.eql2 y hz0] at this
        exact hl this
theorem fnT_pol {l : List R6} (hs : Srt ordC l) (a b d e : Int) : fnT a b d e l = polT l (a, b, d, e, 0, 0) ∧ fnS a b d e l = polS l (a, b, d, e, 0, 0) := by
  unfold fnT fnS polT polS
  rw [fnd_get a b d e hs]
  exact ⟨rfl, rfl⟩
theorem set_pol {cs : List R6} (hs : Srt ordC cs) (a b c d T S : Int) (z : R6) : polT (setC cs a b c d T S) z = (if ordC (a, b, c, d, 0, 0) z = 0 then (if T = 0 ∧ S = 0 then 0 else T) else polT cs z) ∧ polS (setC cs a b c d T S) z = (if ordC (a, b, c, d, 0, 0) z = 0 then (if T = 0 ∧ S = 0 then 0 else S) else polS cs z) := by
  have e : ordC (a, b, c, d, T, S) z = ordC (a, b, c, d, 0, 0) z := rfl
  unfold polT polS setC
  rw [get_put odC _ _ _ _ hs, e]
  by_cases k : ordC (a, b, c, d, 0, 0) z = 0
  · rw [if_pos k, if_pos k, if_pos k]
    by_cases h : T = 0 ∧ S = 0
    · rw [if_pos h, if_pos h, if_neg (by simp [h])]
      exact ⟨rfl, rfl⟩
    · rw [if_neg h, if_neg h, if_pos (by simpa only [Bool.not_eq_true', decide_eq_false_iff_not] using h)]
      exact ⟨rfl, rfl⟩
  · rw [if_neg k, if_neg k, if_neg k]
    exact ⟨rfl, rfl⟩
theorem set_shs {ps : List R6} (hs : Srt ordP ps) (o a b c d x : Int) (q : R6) (hne : own q ≠ o) : shs (setP ps o a b c d x) q = shs ps q := by
  unfold shs setP
  rw [get_put odP _ _ _ _ hs, if_neg]
  intro k
  obtain ⟨q1, q2, q3, q4, q5, q6⟩ := q
  obtain ⟨h1, _⟩ := same_p k
  exact hne h1.symm
/-- One step: what a position is worth, over T of S, and over T' of S'. -/
def Step (s T S T' S' : Int) : Prop := s * T * S' ≤ s * T' * S ∧ s * T' * S < s * T * S' + S * S'
theorem step_of {s T S T' S' D : Int} (e : T' * S = T * S' + D) (s0 : 0 ≤ s) (D0 : 0 ≤ D) (h : s * D < S * S') : Step s T S T' S' := by
  have h1 : s * T' * S = s * T * S' + s * D := by rw [Int.mul_assoc, e, Int.mul_add, Int.mul_assoc]
  have h3 : 0 ≤ s * D := Int.mul_nonneg s0 D0
  exact ⟨by omega, by omega⟩
theorem step_join {T S a s : Int} (h : Sh.Ok T S) (a0 : 0 ≤ a) (hj : Sh.joiE T S a = 0) (s0 : 0 < s) (sS : s ≤ S) : Step s T S (T + a) (S + Sh.priN T S a) := by
  obtain ⟨hk, hle⟩ := Sh.join_keeps h a0 hj
  obtain ⟨h1, h2, h3, h4, h5⟩ := h
  obtain ⟨_, ha, hp, _, _⟩ := Sh.joi_ok hj
  have hT : 0 < T := by
    by_cases e : T = 0
    · have := h5 e; omega
    · omega
  have e : Sh.priN T S a = a * S / T := by
    have e1 : Sh.priN T S a = Sh.pri T S a := if_pos hp
    rw [e1]
    unfold Sh.pri
    rw [if_neg (by omega)]
  obtain ⟨g1, g2, g3⟩ := Sh.div_rest (a := a * S) hT
  rw [e] at hle ⊢
  generalize a * S / T = n at *
  generalize a * S % T = D at *
  refine step_of (D := D) ?_ (by omega) g2 ?_
  · rw [Int.add_mul, Int.mul_add, g1, Int.mul_comm n T]; omega
  · have m1 : s * D ≤ S * D := Int.mul_le_mul_of_nonneg_right sS g2
    have m2 : S * D < S * (S + n) := Int.mul_lt_mul_of_pos_left (by omega) (by omega)
    omega
theorem step_leave {T S x s : Int} (h : Sh.Ok T S) (x0 : 0 ≤ x) (hl : Sh.leaE T S x = 0) (s0 : 0 < s) (sS : s ≤ S - x) : Step s T S (T - Sh.valN T S x) (S - x) := by
  obtain ⟨h1, h2, h3, h4, h5⟩ := h
  obtain ⟨hv, _, hx, _, _⟩ := Sh.lea_ok h1 x0 hl
  have hS : 0 < S := by omega
  have e : Sh.valN T S x = x * T / S := if_pos hv
  rw [e]
  obtain ⟨g1, g2, g3⟩ := Sh.div_rest (a := x * T) hS
  generalize x * T / S = V at *
  generalize x * T % S = D at *
  refine step_of (D := D) ?_ (by omega) g2 ?_
  · rw [Int.sub_mul, Int.mul_sub, Int.mul_comm T x, g1]; omega
  · have m1 : s * D ≤ (S - x) * D := Int.mul_le_mul_of_nonneg_right sS g2
    have m2 : (S - x) * D < (S - x) * S := Int.mul_lt_mul_of_pos_left (by omega) (by omega)
    rw [Int.mul_comm S (S - x)]
    omega
/-- So many steps: worth no less, and more by less than so many units. -/
def Drift (s T0 S0 T S n : Int) : Prop := s * T0 * S ≤ s * T * S0 ∧ ((n = 0 → T = T0 ∧ S = S0) ∧ (0 < n → s * T * S0 < s * T0 * S + S0 * S * n))
theorem drift_0 (s T S : Int) : Drift s T S T S 0 := ⟨Int.le_refl _, fun _ => ⟨rfl, rfl⟩, fun h => absurd h (by decide)⟩
theorem drift_same {s T0 S0 T S n : Int} (h : Drift s T0 S0 T S n) (n0 : 0 ≤ n) (p0 : 0 < S0) (p1 : 0 < S) : Drift s T0 S0 T S (n + 1) := by
  have hp : 0 < S0 * S := Int.mul_pos p0 p1
  refine ⟨h.1, fun k => by omega, fun _ => ?_⟩
  rw [Int.mul_add, Int.mul_one]
  by_cases k : n = 0
  · obtain ⟨rfl, rfl⟩ := h.2.1 k
    subst k
    rw [Int.mul_zero]
    omega
  · have := h.2.2 (by omega)
    omega
theorem drift_step {s T0 S0 T S T' S' n : Int} (h : Drift s T0 S0 T S n) (n0 : 0 ≤ n) (p0 : 0 < S0) (p1 : 0 < S) (p2 : 0 < S') (k : Step s T S T' S') : Drift s T0 S0 T' S' (n + 1) := by
  obtain ⟨k1, k2⟩ := k
  obtain ⟨h1, h2, h3⟩ := h
  have hle : s * T * S0 ≤ s * T0 * S + S0 * S * n := by
    by_cases e : n = 0
    · obtain ⟨rfl, rfl⟩ := h2 e
      subst e
      rw [Int.mul_zero]
      omega
    · have := h3 (by omega)
      omega
  refine ⟨?_, fun e => by omega, fun _ => ?_⟩
  · -- s T0 S' ≤ s T' S0, out of (s T0 S) S' ≤ (s T S0) S' ≤ (s T' S) S0
    have m1 : s * T0 * S * S' ≤ s * T * S0 * S' := Int.mul_le_mul_of_nonneg_right h1 (by omega)
    have m2 : s * T * S' * S0 ≤ s * T' * S * S0 := Int.mul_le_mul_of_nonneg_right k1 (by omega)
    have e1 : s * T0 * S * S' = s * T0 * S' * S := by rw [Int.mul_assoc, Int.mul_comm S S', ← Int.mul_assoc]
    have e2 : s * T * S0 * S' = s * T * S' * S0 := by rw [Int.mul_assoc, Int.mul_comm S0 S', ← Int.mul_assoc]
    have e3 : s * T' * S * S0 = s * T' * S0 * S := by rw [Int.mul_assoc, Int.mul_comm S S0, ← Int.mul_assoc]
    exact Int.le_of_mul_le_mul_right (by omega : s * T0 * S' * S ≤ s * T' * S0 * S) p1
  · have m1 : s * T * S0 * S' ≤ (s * T0 * S + S0 * S * n) * S' := Int.mul_le_mul_of_nonneg_right hle (by omega)
    have m2 : s * T' * S * S0 < (s * T * S' + S * S') * S0 := Int.mul_lt_mul_of_pos_right k2 p0
    have e2 : s * T * S0 * S' = s * T * S' * S0 := by rw [Int.mul_assoc, Int.mul_comm S0 S', ← Int.mul_assoc]
    have e3 : s * T' * S * S0 = s * T' * S0 * S := by rw [Int.mul_assoc, Int.mul_comm S S0, ← Int.mul_assoc]
    have e4 : (s * T0 * S + S0 * S * n) * S' = (s * T0 * S' + S0 * S' * n) * S := by
      rw [Int.add_mul, Int.add_mul]
      congr 1
      · rw [Int.mul_assoc, Int.mul_comm S S', ← Int.mul_assoc]
      · simp only [Int.mul_assoc, Int.mul_comm, Int.mul_left_comm]
    have e5 : (s * T * S' + S * S') * S0 = s * T * S' * S0 + S0 * S' * S := by
      rw [Int.add_mul]
      congr 1
      simp only [Int.mul_assoc, Int.mul_comm, Int.mul_left_comm]
    have e6 : (s * T0 * S' + S0 * S' * (n + 1)) * S = (s * T0 * S' + S0 * S' * n) * S + S0 * S' * S := by
      rw [Int.mul_add, Int.mul_one, ← Int.add_assoc, Int.add_mul]
    refine Int.lt_of_mul_lt_mul_right (a := S) ?_ (by omega)
    omega
/-- What others' acts are to a position. -/
theorem act_drift {cs ps : List R6} (h : Hd6 cs ps) {k o a b d e v ht x : Int} (na : NearA k o a b d e v ht x) (hE : aE cs ps (k, o, a, b, d, e, v, ht, x) = 0) (hk : ¬ k = 2) {r1 r2 r3 r4 r5 s : Int} (hne : r1 ≠ o) (hs : shs ps (r1, r2, r3, r4, r5, 0) = s) (s0 : 0 < s) {T0 S0 n : Int} (n0 : 0 ≤ n) (p0 : 0 < S0)
    (hd : Drift s T0 S0 (polT cs (r2, r3, r4, r5, 0, 0)) (polS cs (r2, r3, r4, r5, 0, 0)) n) :
    shs (aP cs ps (k, o, a, b, d, e, v, ht, x)) (r1, r2, r3, r4, r5, 0) = s ∧ Drift s T0 S0 (polT (aC cs ps (k, o, a, b, d, e, v, ht, x)) (r2, r3, r4, r5, 0, 0)) (polS (aC cs ps (k, o, a, b, d, e, v, ht, x)) (r2, r3, r4, r5, 0, 0)) (n + 1) := by
  have hK := act_keeps h na hE
  have hsh := h.shs r1 r2 r3 r4 r5
  rw [hs] at hsh
  have hS : 0 < polS cs (r2, r3, r4, r5, 0, 0) := by omega
  by_cases k0 : k = 0
  · subst k0
    have hj : bJE o a b d e (polT cs (a, b, d, e, 0, 0)) (polS cs (a, b, d, e, 0, 0)) cs.length (sumT cs) x = 0 := by
      have h1 : chE cs ps (bJE o a b d e (polT cs (a, b, d, e, 0, 0)) (polS cs (a, b, d, e, 0, 0)) cs.length (sumT cs) x) = 0 := hE
      rwa [chE_go h.ok] at h1
    obtain ⟨_, _, _, hje, _⟩ := bJE_0 hj
    have eC : aC cs ps (0, o, a, b, d, e, v, ht, x) = _ := if_pos hE
    have eP : aP cs ps (0, o, a, b, d, e, v, ht, x) = _ := if_pos hE
    have hx0 := na.x0
    have hx1 := (Sh.joi_ok hje).2.1
    rw [eC, eP, set_shs h.ok.sp _ _ _ _ _ _ (r1, r2, r3, r4, r5, 0) hne, hs]
    refine ⟨rfl, ?_⟩
    obtain ⟨g1, g2⟩ := set_pol h.ok.sc a b d e (Sh.joiT (polT cs (a, b, d, e, 0, 0)) (polS cs (a, b, d, e, 0, 0)) x) (Sh.joiS (polT cs (a, b, d, e, 0, 0)) (polS cs (a, b, d, e, 0, 0)) x) (r2, r3, r4, r5, 0, 0)
    rw [g1, g2]
    by_cases q : ordC (a, b, d, e, 0, 0) (r2, r3, r4, r5, 0, 0) = 0
    · obtain ⟨rfl, rfl, rfl, rfl⟩ := same_c q
      have hP := pol_ok h.ok h.wc (a, b, d, e, 0, 0)
      rw [if_pos q, if_pos q]
      have eT : Sh.joiT (polT cs (a, b, d, e, 0, 0)) (polS cs (a, b, d, e, 0, 0)) x = polT cs (a, b, d, e, 0, 0) + x := if_pos hje
      have eS : Sh.joiS (polT cs (a, b, d, e, 0, 0)) (polS cs (a, b, d, e, 0, 0)) x = polS cs (a, b, d, e, 0, 0) + Sh.priN (polT cs (a, b, d, e, 0, 0)) (polS cs (a, b, d, e, 0, 0)) x := if_pos hje
      rw [eT, eS, if_neg (by have := hP.1; omega), if_neg (by have := hP.1; omega)]
      have hle := (Sh.join_keeps hP hx0 hje).2
      exact drift_step hd n0 p0 hS (by omega) (step_join hP hx0 hje s0 hsh.2)
    · rw [if_neg q, if_neg q]
      exact drift_same hd n0 p0 hS
  · have k1 : k = 1 := by have := na.k0; have := na.k2; omega
    subst k1
    have hj : bLE (polT cs (a, b, d, e, 0, 0)) (polS cs (a, b, d, e, 0, 0)) (shs ps (o, a, b, d, e, 0)) x = 0 := by
      have h1 : chE cs ps (bLE (polT cs (a, b, d, e, 0, 0)) (polS cs (a, b, d, e, 0, 0)) (shs ps (o, a, b, d, e, 0)) x) = 0 := hE
      rwa [chE_go h.ok] at h1
    obtain ⟨_, hxs, hle⟩ := bLE_0 hj
    have eC : aC cs ps (1, o, a, b, d, e, v, ht, x) = _ := if_pos hE
    have eP : aP cs ps (1, o, a, b, d, e, v, ht, x) = _ := if_pos hE
    have hx0 := na.x0
    have hshs : shs (setP ps o a b d e (shs ps (o, a, b, d, e, 0) - x)) (r1, r2, r3, r4, r5, 0) = s := by rw [set_shs h.ok.sp _ _ _ _ _ _ (r1, r2, r3, r4, r5, 0) hne, hs]
    have hK1 := hK.1
    rw [eC, eP] at hK1
    rw [eC, eP, hshs]
    refine ⟨rfl, ?_⟩
    have hns := hK1.shs r1 r2 r3 r4 r5
    rw [hshs] at hns
    obtain ⟨g1, g2⟩ := set_pol h.ok.sc a b d e (Sh.leaT (polT cs (a, b, d, e, 0, 0)) (polS cs (a, b, d, e, 0, 0)) x) (Sh.leaS (polT cs (a, b, d, e, 0, 0)) (polS cs (a, b, d, e, 0, 0)) x) (r2, r3, r4, r5, 0, 0)
    have hns2 := hns.2
    rw [g2] at hns2
    rw [g1, g2]
    by_cases q : ordC (a, b, d, e, 0, 0) (r2, r3, r4, r5, 0, 0) = 0
    · rw [if_pos q] at hns2
      rw [if_pos q, if_pos q]
      obtain ⟨rfl, rfl, rfl, rfl⟩ := same_c q
      have hP := pol_ok h.ok h.wc (a, b, d, e, 0, 0)
      by_cases hz : Sh.leaT (polT cs (a, b, d, e, 0, 0)) (polS cs (a, b, d, e, 0, 0)) x = 0 ∧ Sh.leaS (polT cs (a, b, d, e, 0, 0)) (polS cs (a, b, d, e, 0, 0)) x = 0
      · rw [if_pos hz] at hns2
        omega
      · rw [if_neg hz] at hns2
        rw [if_neg hz, if_neg hz]
        have eT : Sh.leaT (polT cs (a, b, d, e, 0, 0)) (polS cs (a, b, d, e, 0, 0)) x = polT cs (a, b, d, e, 0, 0) - Sh.valN (polT cs (a, b, d, e, 0, 0)) (polS cs (a, b, d, e, 0, 0)) x := if_pos hle
        have eS : Sh.leaS (polT cs (a, b, d, e, 0, 0)) (polS cs (a, b, d, e, 0, 0)) x = polS cs (a, b, d, e, 0, 0) - x := if_pos hle
        rw [eS] at hns2
        rw [eT, eS]
        exact drift_step hd n0 p0 hS (by omega) (step_leave hP hx0 hle s0 hns2)
    · rw [if_neg q, if_neg q]
      exact drift_same hd n0 p0 hS
/-- A position that has shares has a class. -/
theorem fnd_some {cs ps : List R6} (h : Hd6 cs ps) {r1 r2 r3 r4 r5 s : Int} (hs : shs ps (r1, r2, r3, r4, r5, 0) = s) (s0 : 0 < s) : (fnd r2 r3 r4 r5 cs).isSome = true := by
  have hsh := (h.shs r1 r2 r3 r4 r5).2
  rw [hs] at hsh
  rw [fnd_get _ _ _ _ h.ok.sc]
  cases hg : get ordC cs (r2, r3, r4, r5, 0, 0) with
  | some y => rfl
  | none =>
    have e : polS cs (r2, r3, r4, r5, 0, 0) = 0 := by unfold polS; rw [hg]
    omega
end Ho
end Go.Proofs.YtneajcoiemkfbaaGreat
end
