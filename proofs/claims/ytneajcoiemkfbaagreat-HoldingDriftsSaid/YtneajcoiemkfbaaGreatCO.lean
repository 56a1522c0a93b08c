/-
  Texts of this claim, put together: Ho37, Ho38, Ho39. What each one says, and under which conditions, stands ahead of it.
-/
import Derived.Test.YtneajcoiemkfbaaGreatTk
import Derived.Test.YtneajcoiemkfbaaGreatCN

section
/-
  What chapter of the laws answers: the chapter's holding. No condition.
-/
namespace Go.Proofs.YtneajcoiemkfbaaGreat
open Go.RowKit Go.Shelf
set_option linter.unusedVariables false
set_option linter.unusedSimpArgs false
namespace Ho
open Kk Pm

def actL : List R9 := [(0, 0, 2, 5, -1, 0, 0, 0, 10), (0, 1, 2, 5, -1, 0, 0, 0, 10), (0, 1, 3, 6, -1, 0, 0, 0, 7)]
def stC : Nat → List R6
  | 0 => []
  | 1 => [(2, 5, -1, 0, 10, 10)]
  | 2 => [(2, 5, -1, 0, 20, 20)]
  | _ => [(2, 5, -1, 0, 20, 20), (3, 6, -1, 0, 7, 7)]
def stP : Nat → List R6
  | 0 => []
  | 1 => [(0, 2, 5, -1, 0, 10)]
  | 2 => [(0, 2, 5, -1, 0, 10), (1, 2, 5, -1, 0, 10)]
  | _ => [(0, 2, 5, -1, 0, 10), (1, 2, 5, -1, 0, 10), (1, 3, 6, -1, 0, 7)]
theorem st_wd : ∀ k, (∀ r ∈ stC k, Wd r) ∧ Wp (stP k)
  | 0 => by simp [stC, stP, Wp]
  | 1 => by simp [stC, stP, Wd, Wp, tok, shr]
  | 2 => by simp [stC, stP, Wd, Wp, tok, shr]
  | n + 3 => by simp [stC, stP, Wd, Wp, tok, shr]
theorem st_len (k : Nat) : (stC k).length ≤ 1000000 ∧ (stP k).length ≤ 1000000 := by
  match k with
  | 0 => decide
  | 1 => decide
  | 2 => decide
  | n + 3 => exact ⟨by show 2 ≤ _; decide, by show 3 ≤ _; decide⟩
theorem st_step (k : Nat) (hk : k < 3) : ∃ o a b d x, actL[k]? = some (0, o, a, b, d, 0, 0, 0, x) ∧ aE (stC k) (stP k) (0, o, a, b, d, 0, 0, 0, x) = 0 ∧ aN (stC k) (stP k) (0, o, a, b, d, 0, 0, 0, x) = x ∧ aC (stC k) (stP k) (0, o, a, b, d, 0, 0, 0, x) = stC (k + 1) ∧ aP (stC k) (stP k) (0, o, a, b, d, 0, 0, 0, x) = stP (k + 1) ∧ 0 ≤ x ∧ x ≤ 18446744073709551615 := by
  match k, hk with
  | 0, _ => exact ⟨0, 2, 5, -1, 10, rfl, by kernel_rfl, by kernel_rfl, by kernel_rfl, by kernel_rfl, by decide, by decide⟩
  | 1, _ => exact ⟨1, 2, 5, -1, 10, rfl, by kernel_rfl, by kernel_rfl, by kernel_rfl, by kernel_rfl, by decide, by decide⟩
  | 2, _ => exact ⟨1, 3, 6, -1, 7, rfl, by kernel_rfl, by kernel_rfl, by kernel_rfl, by kernel_rfl, by decide, by decide⟩
/-- Between two rounds of chapter. -/
structure ChI (w : World) (g gl : Nat) (k : Nat) (v1 v2 : Value) (V : World) : Prop where
  b0 : Blk V g #[.slice none 0 0, .slice none 0 0] 25
  bh : Blk V (g + 1) #[v1, v2] 25
  ls : Rw.RS wA V (some ⟨gl, 0, none⟩) 3 3 actL
  lb : ∃ C, Blk V gl C 39
  oc : OwnR cC 90 V w.heap.size v1 (stC k)
  op : OwnR cP 93 V w.heap.size v2 (stP k)
  bel : Bel w V

set_option maxRecDepth 100000 in
set_option maxHeartbeats 8000000 in
theorem chapter (w : World) : Calls Tryz.prog 47 #[] w fun r w' => ∃ v1 v2, r = .returned (.tuple #[.agg #[v1, v2], .bool true]) ∧ OwnR cC 90 w' w.heap.size v1 (stC 3) ∧ OwnR cP 93 w' w.heap.size v2 (stP 3) ∧ Bel w w' := by
  obtain ⟨W, hW⟩ : ∃ W, (w.alloc (.cells #[.slice none 0 0, .slice none 0 0] 25)).alloc (.cells #[.slice none 0 0, .slice none 0 0] 25) = W := ⟨_, rfl⟩
  have BW := Lib.hid (show Bel w W by rw [← hW]; exact ((Bel.refl w).alloc _).alloc _)
  have P1 := Lib.hid (show Blk W w.heap.size #[.slice none 0 0, .slice none 0 0] 25 by rw [← hW]; exact (Blk.new _ _ _).alloc _)
  have P2 := Lib.hid (show Blk W (w.heap.size + 1) #[.slice none 0 0, .slice none 0 0] 25 by rw [← hW]; have h := Blk.new (w.alloc (.cells #[.slice none 0 0, .slice none 0 0] 25)) #[.slice none 0 0, .slice none 0 0] 25; simpa using h)
  have AT := Lib.hid (fun v h V => at_ v h V)
  go_enter Tryz.func47, Tryz.ntmps47
  go_upto_region 2 with fail
  try rw [hW]
  obtain ⟨g, hg⟩ : ∃ g, w.heap.size = g := ⟨_, rfl⟩
  have HG := Lib.hid hg
  rw [hg] at P1 P2 ⊢
  clear hg hW
  go_wp2_with fail
  refine (AT.out 2 5 _).mono ?_
  rintro r V1 ⟨rfl, kb1⟩
  go_wp2_with fail
  refine (AT.out 2 5 _).mono ?_
  rintro r V2 ⟨rfl, kb2⟩
  go_wp2_with fail
  refine (AT.out 3 6 _).mono ?_
  rintro r V3 ⟨rfl, kb3⟩
  have B3 := Lib.hid (kb1.trans (kb2.trans kb3))
  clear kb1 kb2 kb3
  obtain ⟨V, hV⟩ : ∃ V, V3.alloc (.cells (Rw.flat wA actL).toArray 39) = V := ⟨_, rfl⟩
  have BV := Lib.hid (show Bel W V by rw [← hV]; exact B3.out.alloc _)
  have PL := Lib.hid (show Blk V V3.heap.size (Rw.flat wA actL).toArray 39 by rw [← hV]; exact Blk.new _ _ _)
  have hV' : V3.alloc (.cells #[.int .i64 0, .int .i64 0, .int .i64 2, .int .i64 5, .int .i64 (-1), .int .i64 0, .int .i64 0, .int .i64 0, .int .u64 10, .int .i64 0, .int .i64 1, .int .i64 2, .int .i64 5, .int .i64 (-1), .int .i64 0, .int .i64 0, .int .i64 0, .int .u64 10, .int .i64 0, .int .i64 1, .int .i64 3, .int .i64 6, .int .i64 (-1), .int .i64 0, .int .i64 0, .int .i64 0, .int .u64 7] 39) = V := hV
  go_upto_region 3 with fail
  try rw [hV']
  obtain ⟨gl, hgl⟩ : ∃ g, V3.heap.size = g := ⟨_, rfl⟩
  rw [hgl] at PL ⊢
  clear hgl hV hV'
  have LS := Lib.hid (show Rw.RS wA V (some ⟨gl, 0, none⟩) 3 3 actL from Rw.rs_blk wA PL.out rfl (by decide) rfl)
  have CI := Lib.hid (show ChI w g gl 0 (.slice none 0 0) (.slice none 0 0) V from ⟨P1.out.bel BV.out, P2.out.bel BV.out, LS.out, ⟨_, PL.out⟩, OwnR.nil_ _ _ _ _, OwnR.nil_ _ _ _ _, BW.out.trans BV.out⟩)
  clear P1 P2 PL LS BW BV B3
  go_wp2_with fail
  go_loopw [1, 4] (fun u i wr => ∃ k : Nat, i = .int .i64 k ∧ k ≤ 3 ∧ ∃ v1 v2, ChI w g gl k v1 v2 wr) (fun _ i _ => 3 - (intOf i).toNat)
  case atStart => exact ⟨0, rfl, by decide, _, _, CI.out⟩
  case round =>
    obtain ⟨k, rfl, hk, v1, v2, ci⟩ := hrel
    clear CI
    by_cases hlt : k < 3
    · obtain ⟨o, a, b, d, x, hact, hE, hN, hC, hP, x0, x1⟩ := st_step k hlt
      obtain ⟨A1, c1, e1, r1, _⟩ := ci.oc.rs c6C
      obtain ⟨A2, c2, e2, r2, _⟩ := ci.op.rs c6P
      subst e1 e2
      have CI := Lib.hid ci
      have hh : HH wr A1 (stC k).length c1 A2 (stP k).length c2 (stC k) (stP k) := ⟨r1, r2, (st_len k).1, (st_len k).2, (st_wd k).1, (st_wd k).2⟩
      have DO := Lib.hid (fun V (hV : Bel wr V) => does_ A1 (stC k).length c1 A2 (stP k).length c2 (stC k) (stP k) 0 o a b d 0 0 0 x V (hh.bel hV) x0 x1)
      rw [hE, hN, hC, hP] at DO
      obtain ⟨bl, ol, el, _, hrow⟩ := ci.ls.at hlt hact
      injection el with el
      injection el with el1 el2
      subst el1 el2
      have HR := Lib.hid (show wr.rangeAt gl (0 + k * 9) [.int .i64 0, .int .i64 o, .int .i64 a, .int .i64 b, .int .i64 d, .int .i64 0, .int .i64 0, .int .i64 0, .int .u64 x] from hrow)
      have hlt3 : (k : Int) < 3 := by omega
      have hlt0 : (0 : Int) ≤ k := by omega
      obtain ⟨N1, hN1⟩ : ∃ N, (stC k).length = N := ⟨_, rfl⟩
      obtain ⟨N2, hN2⟩ : ∃ N, (stP k).length = N := ⟨_, rfl⟩
      rw [hN1, hN2] at CI DO
      clear ci hact hE hN hC hP r1 r2 hh hrow hN1 hN2
      go_upto_region 6 with fail
      refine wp_region_held_drew (S := fun Vx => Bel wr Vx) (by kernel_rfl) (Bel.refl _).drew (fun hS0 => ?_)
      obtain ⟨w6, hw6⟩ : ∃ w6, World.drew wr = w6 := ⟨_, rfl⟩
      rw [hw6] at hS0 ⊢
      clear hw6
      refine ztk 0 { dst := some 25, op := .load 25 (.tmp 2), type := 25, pos := "outright.go:18", after := #[], guard := none } (.agg #[.slice A1 N1 c1, .slice A2 N2 c2]) (yieldsIf_load_mid (by rfl) _ _ rfl _ _ rfl _ _ (fun w h => rng_bel (rngB (C := [.slice A1 N1 c1, .slice A2 N2 c2]) CI.out.bh) h) Tryz.underlying25 rfl info_h) hS0 ?_
      try simp only [Act.put, zq1, zq2, zq3]
      refine ztk 1 { dst := some 26, op := .move (.tmp 3), type := 26, pos := "outright.go:18", after := #[], guard := none } (.slice (some ⟨gl, 0, none⟩) 3 3) (Or.inl ⟨by rfl, by intro w hSw; clear hSw; go_simp⟩) hS0 ?_
      try simp only [Act.put, zq1, zq2, zq3]
      refine ztk 2 { dst := some 27, op := .move (.tmp 4), type := 3, pos := "outright.go:18", after := #[], guard := none } (.int .i64 k) (Or.inl ⟨by rfl, by intro w hSw; clear hSw; go_simp⟩) hS0 ?_
      try simp only [Act.put, zq1, zq2, zq3]
      refine ztk 3 { dst := some 28, op := .indexAddr 26 (.tmp 26) (.tmp 27), type := 0, pos := "outright.go:18", after := #[{ on := 1, ground := .data }, { on := 2, ground := .data }], guard := none } (.pointer (some ⟨gl, 0 + k * 9, none⟩)) (Or.inl ⟨by rfl, by intro w hSw; clear hSw; go_simp⟩) hS0 ?_
      try simp only [Act.put, zq1, zq2, zq3]
      refine ztk 4 { dst := some 29, op := .load 39 (.tmp 28), type := 39, pos := "outright.go:18", after := #[{ on := 3, ground := .data }], guard := none } (.agg #[.int .i64 0, .int .i64 o, .int .i64 a, .int .i64 b, .int .i64 d, .int .i64 0, .int .i64 0, .int .i64 0, .int .u64 x]) (yieldsIf_load_mid (by rfl) _ _ rfl _ _ rfl _ _ (fun w h => rng_bel HR.out h) Tryz.underlying39 rfl (by kernel_rfl)) hS0 ?_
      try simp only [Act.put, zq1, zq2, zq3]
      refine wpAnyH_ready (rs := [5, 11]) (by kernel_rfl) (by simp) ?_
      refine AllReadyH.cons (o := { dst := some 30, op := .call { callee := .value (.func 16), args := #[.tmp 25, .tmp 29], argTypes := #[25, 39] }, type := 34, pos := "outright.go:18", after := #[{ on := 0, ground := .data }, { on := 4, ground := .data }], guard := none }) rfl (fun K hK => ?_) (AllReadyH.cons (o := { dst := some 5, op := .alloc 25, type := 0, pos := "outright.go:18", after := #[], guard := none }) rfl (fun K hK => ?_) AllReadyH.nil)
      · go_simp
        refine (DO.out _ hS0).mono ?_
        rintro e v1 ⟨cv, pv, lv, rfl, _, _, _, kb, hown⟩
        go_wp2_with fail
        refine hK.out _ _ (hS0.trans kb) (fun hS1 => ?_)
        clear hK K
        try simp only [Act.put, zq1, zq2, zq3]
        obtain ⟨own1, own2⟩ := hown (by decide) (by decide)
        obtain ⟨B1, d1, e1, _⟩ := own1.rs c6C
        obtain ⟨B2, d2, e2, _⟩ := own2.rs c6P
        subst e1 e2
        obtain ⟨M1, hM1⟩ : ∃ N, (stC (k + 1)).length = N := ⟨_, rfl⟩
        obtain ⟨M2, hM2⟩ : ∃ N, (stP (k + 1)).length = N := ⟨_, rfl⟩
        rw [hM1] at own1 ⊢
        rw [hM2] at own2 ⊢
        clear hM1 hM2
        refine ztk 6 { dst := some 24, op := .move (.tmp 30), type := 34, pos := "outright.go:18", after := #[{ on := 5, ground := .data }], guard := none } (.tuple #[.agg #[.slice B1 M1 d1, .slice B2 M2 d2], .int .u64 x, lv, .int .i64 0]) (Or.inl ⟨by rfl, by intro w hSw; clear hSw; go_simp⟩) hS1 ?_
        try simp only [Act.put, zq1, zq2, zq3]
        refine ztk 7 { dst := some 31, op := .extract (.tmp 24) 0, type := 25, pos := "outright.go:18", after := #[{ on := 6, ground := .data }], guard := none } (.agg #[.slice B1 M1 d1, .slice B2 M2 d2]) (Or.inl ⟨by rfl, by intro w hSw; clear hSw; go_simp⟩) hS1 ?_
        try simp only [Act.put, zq1, zq2, zq3]
        refine ztk 8 { dst := some 32, op := .extract (.tmp 24) 1, type := 32, pos := "outright.go:18", after := #[{ on := 6, ground := .data }, { on := 12, ground := .gcOnly .lateStores }], guard := none } (.int .u64 x) (Or.inl ⟨by rfl, by intro w hSw; clear hSw; go_simp⟩) hS1 ?_
        try simp only [Act.put, zq1, zq2, zq3]
        refine ztk 9 { dst := some 33, op := .extract (.tmp 24) 2, type := 33, pos := "outright.go:18", after := #[{ on := 6, ground := .data }, { on := 13, ground := .gcOnly .lateStores }], guard := none } (lv) (Or.inl ⟨by rfl, by intro w hSw; clear hSw; go_simp⟩) hS1 ?_
        try simp only [Act.put, zq1, zq2, zq3]
        refine ztk 10 { dst := some 34, op := .extract (.tmp 24) 3, type := 30, pos := "outright.go:18", after := #[{ on := 6, ground := .data }, { on := 14, ground := .gcOnly .lateStores }], guard := none } (.int .i64 0) (Or.inl ⟨by rfl, by intro w hSw; clear hSw; go_simp⟩) hS1 ?_
        try simp only [Act.put, zq1, zq2, zq3]
        refine wpAnyH_ready (rs := [11]) (by kernel_rfl) (by simp) ?_
        refine AllReadyH.cons (o := { dst := some 5, op := .alloc 25, type := 0, pos := "outright.go:18", after := #[], guard := none }) rfl (fun K hK => ?_) AllReadyH.nil
        go_simp
        refine hK.out _ _ (hS1.alloc _) (fun hS2 => ?_)
        clear hK K
        try simp only [Act.put, zq1, zq2, zq3]
        have gnb := Blk.new v1 #[.slice none 0 0, .slice none 0 0] 25
        have gnl := Lib.hid (Below.size hS1)
        generalize hvq : World.alloc v1 (Obj.cells #[.slice none 0 0, .slice none 0 0] 25) = v2 at gnb hS2 ⊢
        have gnk : Bel v1 v2 := by rw [← hvq]; exact (Bel.refl _).alloc _
        clear hvq
        obtain ⟨gn, hgq⟩ : ∃ g, (World.heap v1).size = g := ⟨_, rfl⟩
        rw [hgq] at gnb gnl ⊢
        clear hgq
        have gnb := Lib.hid gnb
        refine wpAnyH_ready (rs := [12]) (by kernel_rfl) (by simp) ?_
        refine AllReadyH.cons (o := { dst := none, op := .store 25 (.tmp 5) (.tmp 31), type := 0, pos := "outright.go:18", after := #[{ on := 11, ground := .data }, { on := 7, ground := .data }, { on := 5, ground := .chain }, { on := 0, ground := .phase }, { on := 1, ground := .phase }, { on := 2, ground := .phase }, { on := 3, ground := .phase }, { on := 4, ground := .phase }, { on := 5, ground := .phase }, { on := 6, ground := .phase }, { on := 7, ground := .phase }, { on := 8, ground := .textOnly .lateStores }, { on := 9, ground := .textOnly .lateStores }, { on := 10, ground := .textOnly .lateStores }, { on := 11, ground := .phase }], guard := none }) rfl (fun K hK => ?_) AllReadyH.nil
        have QB : Blk v2 gn #[.slice none 0 0, .slice none 0 0] 25 := by first | exact gnb.out | exact gnb.out.bel kb
        have OB1 : OwnR cC 90 v2 w.heap.size (.slice B1 M1 d1) (stC (k + 1)) := by first | exact (OwnR.bel own1 gnk).mono (Nat.le_trans (Below.size CI.out.bel) (Below.size hS0)) | exact own1.mono (Nat.le_trans (Below.size CI.out.bel) (Below.size hS1))
        have OB2 : OwnR cP 93 v2 w.heap.size (.slice B2 M2 d2) (stP (k + 1)) := by first | exact (OwnR.bel own2 gnk).mono (Nat.le_trans (Below.size CI.out.bel) (Below.size hS0)) | exact own2.mono (Nat.le_trans (Below.size CI.out.bel) (Below.size hS1))
        have q0 := QB.cell 0 rfl
        have q1 := QB.cell 1 rfl
        have qf0 := QB.frozen 0
        have qf1 := QB.frozen 1
        go_simp
        refine hK.out _ _ ((hS2.set (p := ⟨gn, 0, none⟩) gnl.out _).set (p := ⟨gn, 1, none⟩) gnl.out _) (fun hS3 => ?_)
        clear hK K
        try simp only [Act.put, zq1, zq2, zq3]
        refine ztk 13 { dst := some 6, op := .assign (.tmp 32), type := 32, pos := "outright.go:18", after := #[{ on := 8, ground := .data }, { on := 12, ground := .chain }, { on := 0, ground := .phase }, { on := 1, ground := .phase }, { on := 2, ground := .phase }, { on := 3, ground := .phase }, { on := 4, ground := .phase }, { on := 5, ground := .phase }, { on := 6, ground := .phase }, { on := 7, ground := .phase }, { on := 8, ground := .phase }, { on := 9, ground := .textOnly .lateStores }, { on := 10, ground := .textOnly .lateStores }, { on := 11, ground := .phase }, { on := 12, ground := .phase }], guard := none } (.int .u64 x) (Or.inl ⟨by rfl, by intro w hSw; clear hSw; go_simp⟩) hS3 ?_
        try simp only [Act.put, zq1, zq2, zq3]
        refine ztk 14 { dst := some 7, op := .assign (.tmp 33), type := 33, pos := "outright.go:18", after := #[{ on := 9, ground := .data }, { on := 13, ground := .chain }, { on := 0, ground := .phase }, { on := 1, ground := .phase }, { on := 2, ground := .phase }, { on := 3, ground := .phase }, { on := 4, ground := .phase }, { on := 5, ground := .phase }, { on := 6, ground := .phase }, { on := 7, ground := .phase }, { on := 8, ground := .phase }, { on := 9, ground := .phase }, { on := 10, ground := .textOnly .lateStores }, { on := 11, ground := .phase }, { on := 12, ground := .phase }, { on := 13, ground := .phase }], guard := none } (lv) (Or.inl ⟨by rfl, by intro w hSw; clear hSw; go_simp⟩) hS3 ?_
        try simp only [Act.put, zq1, zq2, zq3]
        refine ztk 15 { dst := some 8, op := .assign (.tmp 34), type := 30, pos := "outright.go:18", after := #[{ on := 10, ground := .data }, { on := 14, ground := .chain }, { on := 0, ground := .phase }, { on := 1, ground := .phase }, { on := 2, ground := .phase }, { on := 3, ground := .phase }, { on := 4, ground := .phase }, { on := 5, ground := .phase }, { on := 6, ground := .phase }, { on := 7, ground := .phase }, { on := 8, ground := .phase }, { on := 9, ground := .phase }, { on := 10, ground := .phase }, { on := 11, ground := .phase }, { on := 12, ground := .phase }, { on := 13, ground := .phase }, { on := 14, ground := .phase }], guard := none } (.int .i64 0) (Or.inl ⟨by rfl, by intro w hSw; clear hSw; go_simp⟩) hS3 ?_
        try simp only [Act.put, zq1, zq2, zq3]
        refine wpAnyH_done (by kernel_rfl) ?_ _
        have HE := Lib.hid hS3
        have NB := Lib.hid (show Blk ((v2.setCell ⟨gn, 0, none⟩ (.slice B1 M1 d1)).setCell ⟨gn, 1, none⟩ (.slice B2 M2 d2)) gn #[.slice B1 M1 d1, .slice B2 M2 d2] 25 from (QB.set 0 _).set 1 _)
        have KQ : Kep (fun b => b = gn) v2 ((v2.setCell ⟨gn, 0, none⟩ (.slice B1 M1 d1)).setCell ⟨gn, 1, none⟩ (.slice B2 M2 d2)) := Kep.set (S := fun b => b = gn) (Kep.set (S := fun b => b = gn) (Kep.refl _ _) rfl _) rfl _
        have O1 := Lib.hid (OB1.kep KQ (fun i e e' => own_ne OB1 QB (by decide) (e' ▸ e)))
        have O2 := Lib.hid (OB2.kep KQ (fun i e e' => own_ne OB2 QB (by decide) (e' ▸ e)))
        obtain ⟨X, hX⟩ : ∃ X, ((v2.setCell ⟨gn, 0, none⟩ (.slice B1 M1 d1)).setCell ⟨gn, 1, none⟩ (.slice B2 M2 d2)) = X := ⟨_, rfl⟩
        rw [hX] at NB O1 O2 HE ⊢
        clear hX KQ QB OB1 OB2 q0 q1 qf0 qf1 own1 own2
        have n0 := NB.out.cell 0 rfl
        have n1 := NB.out.cell 1 rfl
        have H8 : X.cell? ⟨gl, k * 9 + 8, none⟩ = some (.int .u64 x) := by
          have := (rng_bel HR.out HE.out) 8 (.int .u64 x) rfl
          rwa [Nat.zero_add] at this
        have hh0 := (CI.out.bh.bel HE.out).frozen 0
        have hh1 := (CI.out.bh.bel HE.out).frozen 1
        have hc0 := (CI.out.bh.bel HE.out).cell 0 rfl
        have hc1 := (CI.out.bh.bel HE.out).cell 1 rfl
        have hge : w.heap.size ≤ g + 1 := by have := HG.out; omega
        have HH2 := (CI.out.bh.bel HE.out)
        have HNE := Lib.hid (show gn ≠ g + 1 by have := gnl.out; have := CI.out.bh.lt; omega)
        have KH := Lib.hid (show Kep (fun b => b = g + 1) X ((X.setCell ⟨g + 1, 0, none⟩ (.slice B1 M1 d1)).setCell ⟨g + 1, 1, none⟩ (.slice B2 M2 d2)) from Kep.set (S := fun b => b = g + 1) (Kep.set (S := fun b => b = g + 1) (Kep.refl _ _) rfl _) rfl _)
        have NX := Lib.hid (show ChI w g gl (k + 1) (.slice B1 M1 d1) (.slice B2 M2 d2) ((X.setCell ⟨g + 1, 0, none⟩ (.slice B1 M1 d1)).setCell ⟨g + 1, 1, none⟩ (.slice B2 M2 d2)) from
          ⟨((CI.out.b0.bel HE.out).other (by omega) 0 _).other (by omega) 1 _, (HH2.set 0 _).set 1 _, ((CI.out.ls.bel HE.out).kep KH.out (fun y hy e => by
              obtain ⟨C, hC⟩ := CI.out.lb
              injection hy with hy
              subst hy
              obtain rfl : gl = g + 1 := e
              exact absurd (blk_ty (hC.bel HE.out) HH2) (by decide))), (by
              obtain ⟨C, hC⟩ := CI.out.lb
              have hne : gl ≠ g + 1 := fun e => by
                subst e
                exact absurd (blk_ty (hC.bel HE.out) HH2) (by decide)
              exact ⟨C, ((hC.bel HE.out).other hne 0 _).other hne 1 _⟩), O1.out.kep KH.out (fun i e e' => own_ne O1.out HH2 (by decide) (e' ▸ e)), O2.out.kep KH.out (fun i e e' => own_ne O2.out HH2 (by decide) (e' ▸ e)), Kep.bel (CI.out.bel.trans HE.out) KH.out (fun y hy => by rw [hy]; exact hge)⟩)
        clear HH2 KH O1 O2 NB HE hge
        go_wp2_with fail
        go_roundw
        case rel => exact ⟨k + 1, by go_num, by omega, _, _, NX.out⟩
        case measure => simp [intOf]; omega
      · go_simp
        refine hK.out _ _ (hS0.alloc _) (fun hS1 => ?_)
        clear hK K
        try simp only [Act.put, zq1, zq2, zq3]
        have gnb := Blk.new w6 #[.slice none 0 0, .slice none 0 0] 25
        have gnl := Lib.hid (Below.size hS0)
        generalize hvq : World.alloc w6 (Obj.cells #[.slice none 0 0, .slice none 0 0] 25) = v1 at gnb hS1 ⊢
        have gnk : Bel w6 v1 := by rw [← hvq]; exact (Bel.refl _).alloc _
        clear hvq
        obtain ⟨gn, hgq⟩ : ∃ g, (World.heap w6).size = g := ⟨_, rfl⟩
        rw [hgq] at gnb gnl ⊢
        clear hgq
        have gnb := Lib.hid gnb
        refine wpAnyH_ready (rs := [5]) (by kernel_rfl) (by simp) ?_
        refine AllReadyH.cons (o := { dst := some 30, op := .call { callee := .value (.func 16), args := #[.tmp 25, .tmp 29], argTypes := #[25, 39] }, type := 34, pos := "outright.go:18", after := #[{ on := 0, ground := .data }, { on := 4, ground := .data }], guard := none }) rfl (fun K hK => ?_) AllReadyH.nil
        go_simp
        refine (DO.out _ hS1).mono ?_
        rintro e v2 ⟨cv, pv, lv, rfl, _, _, _, kb, hown⟩
        go_wp2_with fail
        refine hK.out _ _ (hS1.trans kb) (fun hS2 => ?_)
        clear hK K
        try simp only [Act.put, zq1, zq2, zq3]
        obtain ⟨own1, own2⟩ := hown (by decide) (by decide)
        obtain ⟨B1, d1, e1, _⟩ := own1.rs c6C
        obtain ⟨B2, d2, e2, _⟩ := own2.rs c6P
        subst e1 e2
        obtain ⟨M1, hM1⟩ : ∃ N, (stC (k + 1)).length = N := ⟨_, rfl⟩
        obtain ⟨M2, hM2⟩ : ∃ N, (stP (k + 1)).length = N := ⟨_, rfl⟩
        rw [hM1] at own1 ⊢
        rw [hM2] at own2 ⊢
        clear hM1 hM2
        refine ztk 6 { dst := some 24, op := .move (.tmp 30), type := 34, pos := "outright.go:18", after := #[{ on := 5, ground := .data }], guard := none } (.tuple #[.agg #[.slice B1 M1 d1, .slice B2 M2 d2], .int .u64 x, lv, .int .i64 0]) (Or.inl ⟨by rfl, by intro w hSw; clear hSw; go_simp⟩) hS2 ?_
        try simp only [Act.put, zq1, zq2, zq3]
        refine ztk 7 { dst := some 31, op := .extract (.tmp 24) 0, type := 25, pos := "outright.go:18", after := #[{ on := 6, ground := .data }], guard := none } (.agg #[.slice B1 M1 d1, .slice B2 M2 d2]) (Or.inl ⟨by rfl, by intro w hSw; clear hSw; go_simp⟩) hS2 ?_
        try simp only [Act.put, zq1, zq2, zq3]
        refine ztk 8 { dst := some 32, op := .extract (.tmp 24) 1, type := 32, pos := "outright.go:18", after := #[{ on := 6, ground := .data }, { on := 12, ground := .gcOnly .lateStores }], guard := none } (.int .u64 x) (Or.inl ⟨by rfl, by intro w hSw; clear hSw; go_simp⟩) hS2 ?_
        try simp only [Act.put, zq1, zq2, zq3]
        refine ztk 9 { dst := some 33, op := .extract (.tmp 24) 2, type := 33, pos := "outright.go:18", after := #[{ on := 6, ground := .data }, { on := 13, ground := .gcOnly .lateStores }], guard := none } (lv) (Or.inl ⟨by rfl, by intro w hSw; clear hSw; go_simp⟩) hS2 ?_
        try simp only [Act.put, zq1, zq2, zq3]
        refine ztk 10 { dst := some 34, op := .extract (.tmp 24) 3, type := 30, pos := "outright.go:18", after := #[{ on := 6, ground := .data }, { on := 14, ground := .gcOnly .lateStores }], guard := none } (.int .i64 0) (Or.inl ⟨by rfl, by intro w hSw; clear hSw; go_simp⟩) hS2 ?_
        try simp only [Act.put, zq1, zq2, zq3]
        refine wpAnyH_ready (rs := [12]) (by kernel_rfl) (by simp) ?_
        refine AllReadyH.cons (o := { dst := none, op := .store 25 (.tmp 5) (.tmp 31), type := 0, pos := "outright.go:18", after := #[{ on := 11, ground := .data }, { on := 7, ground := .data }, { on := 5, ground := .chain }, { on := 0, ground := .phase }, { on := 1, ground := .phase }, { on := 2, ground := .phase }, { on := 3, ground := .phase }, { on := 4, ground := .phase }, { on := 5, ground := .phase }, { on := 6, ground := .phase }, { on := 7, ground := .phase }, { on := 8, ground := .textOnly .lateStores }, { on := 9, ground := .textOnly .lateStores }, { on := 10, ground := .textOnly .lateStores }, { on := 11, ground := .phase }], guard := none }) rfl (fun K hK => ?_) AllReadyH.nil
        have QB : Blk v2 gn #[.slice none 0 0, .slice none 0 0] 25 := by first | exact gnb.out | exact gnb.out.bel kb
        have OB1 : OwnR cC 90 v2 w.heap.size (.slice B1 M1 d1) (stC (k + 1)) := by first | exact (OwnR.bel own1 gnk).mono (Nat.le_trans (Below.size CI.out.bel) (Below.size hS0)) | exact own1.mono (Nat.le_trans (Below.size CI.out.bel) (Below.size hS1))
        have OB2 : OwnR cP 93 v2 w.heap.size (.slice B2 M2 d2) (stP (k + 1)) := by first | exact (OwnR.bel own2 gnk).mono (Nat.le_trans (Below.size CI.out.bel) (Below.size hS0)) | exact own2.mono (Nat.le_trans (Below.size CI.out.bel) (Below.size hS1))
        have q0 := QB.cell 0 rfl
        have q1 := QB.cell 1 rfl
        have qf0 := QB.frozen 0
        have qf1 := QB.frozen 1
        go_simp
        refine hK.out _ _ ((hS2.set (p := ⟨gn, 0, none⟩) gnl.out _).set (p := ⟨gn, 1, none⟩) gnl.out _) (fun hS3 => ?_)
        clear hK K
        try simp only [Act.put, zq1, zq2, zq3]
        refine ztk 13 { dst := some 6, op := .assign (.tmp 32), type := 32, pos := "outright.go:18", after := #[{ on := 8, ground := .data }, { on := 12, ground := .chain }, { on := 0, ground := .phase }, { on := 1, ground := .phase }, { on := 2, ground := .phase }, { on := 3, ground := .phase }, { on := 4, ground := .phase }, { on := 5, ground := .phase }, { on := 6, ground := .phase }, { on := 7, ground := .phase }, { on := 8, ground := .phase }, { on := 9, ground := .textOnly .lateStores }, { on := 10, ground := .textOnly .lateStores }, { on := 11, ground := .phase }, { on := 12, ground := .phase }], guard := none } (.int .u64 x) (Or.inl ⟨by rfl, by intro w hSw; clear hSw; go_simp⟩) hS3 ?_
        try simp only [Act.put, zq1, zq2, zq3]
        refine ztk 14 { dst := some 7, op := .assign (.tmp 33), type := 33, pos := "outright.go:18", after := #[{ on := 9, ground := .data }, { on := 13, ground := .chain }, { on := 0, ground := .phase }, { on := 1, ground := .phase }, { on := 2, ground := .phase }, { on := 3, ground := .phase }, { on := 4, ground := .phase }, { on := 5, ground := .phase }, { on := 6, ground := .phase }, { on := 7, ground := .phase }, { on := 8, ground := .phase }, { on := 9, ground := .phase }, { on := 10, ground := .textOnly .lateStores }, { on := 11, ground := .phase }, { on := 12, ground := .phase }, { on := 13, ground := .phase }], guard := none } (lv) (Or.inl ⟨by rfl, by intro w hSw; clear hSw; go_simp⟩) hS3 ?_
        try simp only [Act.put, zq1, zq2, zq3]
        refine ztk 15 { dst := some 8, op := .assign (.tmp 34), type := 30, pos := "outright.go:18", after := #[{ on := 10, ground := .data }, { on := 14, ground := .chain }, { on := 0, ground := .phase }, { on := 1, ground := .phase }, { on := 2, ground := .phase }, { on := 3, ground := .phase }, { on := 4, ground := .phase }, { on := 5, ground := .phase }, { on := 6, ground := .phase }, { on := 7, ground := .phase }, { on := 8, ground := .phase }, { on := 9, ground := .phase }, { on := 10, ground := .phase }, { on := 11, ground := .phase }, { on := 12, ground := .phase }, { on := 13, ground := .phase }, { on := 14, ground := .phase }], guard := none } (.int .i64 0) (Or.inl ⟨by rfl, by intro w hSw; clear hSw; go_simp⟩) hS3 ?_
        try simp only [Act.put, zq1, zq2, zq3]
        refine wpAnyH_done (by kernel_rfl) ?_ _
        have HE := Lib.hid hS3
        have NB := Lib.hid (show Blk ((v2.setCell ⟨gn, 0, none⟩ (.slice B1 M1 d1)).setCell ⟨gn, 1, none⟩ (.slice B2 M2 d2)) gn #[.slice B1 M1 d1, .slice B2 M2 d2] 25 from (QB.set 0 _).set 1 _)
        have KQ : Kep (fun b => b = gn) v2 ((v2.setCell ⟨gn, 0, none⟩ (.slice B1 M1 d1)).setCell ⟨gn, 1, none⟩ (.slice B2 M2 d2)) := Kep.set (S := fun b => b = gn) (Kep.set (S := fun b => b = gn) (Kep.refl _ _) rfl _) rfl _
        have O1 := Lib.hid (OB1.kep KQ (fun i e e' => own_ne OB1 QB (by decide) (e' ▸ e)))
        have O2 := Lib.hid (OB2.kep KQ (fun i e e' => own_ne OB2 QB (by decide) (e' ▸ e)))
        obtain ⟨X, hX⟩ : ∃ X, ((v2.setCell ⟨gn, 0, none⟩ (.slice B1 M1 d1)).setCell ⟨gn, 1, none⟩ (.slice B2 M2 d2)) = X := ⟨_, rfl⟩
        rw [hX] at NB O1 O2 HE ⊢
        clear hX KQ QB OB1 OB2 q0 q1 qf0 qf1 own1 own2
        have n0 := NB.out.cell 0 rfl
        have n1 := NB.out.cell 1 rfl
        have H8 : X.cell? ⟨gl, k * 9 + 8, none⟩ = some (.int .u64 x) := by
          have := (rng_bel HR.out HE.out) 8 (.int .u64 x) rfl
          rwa [Nat.zero_add] at this
        have hh0 := (CI.out.bh.bel HE.out).frozen 0
        have hh1 := (CI.out.bh.bel HE.out).frozen 1
        have hc0 := (CI.out.bh.bel HE.out).cell 0 rfl
        have hc1 := (CI.out.bh.bel HE.out).cell 1 rfl
        have hge : w.heap.size ≤ g + 1 := by have := HG.out; omega
        have HH2 := (CI.out.bh.bel HE.out)
        have HNE := Lib.hid (show gn ≠ g + 1 by have := gnl.out; have := CI.out.bh.lt; omega)
        have KH := Lib.hid (show Kep (fun b => b = g + 1) X ((X.setCell ⟨g + 1, 0, none⟩ (.slice B1 M1 d1)).setCell ⟨g + 1, 1, none⟩ (.slice B2 M2 d2)) from Kep.set (S := fun b => b = g + 1) (Kep.set (S := fun b => b = g + 1) (Kep.refl _ _) rfl _) rfl _)
        have NX := Lib.hid (show ChI w g gl (k + 1) (.slice B1 M1 d1) (.slice B2 M2 d2) ((X.setCell ⟨g + 1, 0, none⟩ (.slice B1 M1 d1)).setCell ⟨g + 1, 1, none⟩ (.slice B2 M2 d2)) from
          ⟨((CI.out.b0.bel HE.out).other (by omega) 0 _).other (by omega) 1 _, (HH2.set 0 _).set 1 _, ((CI.out.ls.bel HE.out).kep KH.out (fun y hy e => by
              obtain ⟨C, hC⟩ := CI.out.lb
              injection hy with hy
              subst hy
              obtain rfl : gl = g + 1 := e
              exact absurd (blk_ty (hC.bel HE.out) HH2) (by decide))), (by
              obtain ⟨C, hC⟩ := CI.out.lb
              have hne : gl ≠ g + 1 := fun e => by
                subst e
                exact absurd (blk_ty (hC.bel HE.out) HH2) (by decide)
              exact ⟨C, ((hC.bel HE.out).other hne 0 _).other hne 1 _⟩), O1.out.kep KH.out (fun i e e' => own_ne O1.out HH2 (by decide) (e' ▸ e)), O2.out.kep KH.out (fun i e e' => own_ne O2.out HH2 (by decide) (e' ▸ e)), Kep.bel (CI.out.bel.trans HE.out) KH.out (fun y hy => by rw [hy]; exact hge)⟩)
        clear HH2 KH O1 O2 NB HE hge
        go_wp2_with fail
        go_roundw
        case rel => exact ⟨k + 1, by go_num, by omega, _, _, NX.out⟩
        case measure => simp [intOf]; omega
    · obtain rfl : k = 3 := by omega
      clear hlt hk
      have CI := Lib.hid ci
      clear ci
      go_wp2_with fail
      refine (AT.out 2 5 _).mono ?_
      rintro r V1 ⟨rfl, kb1⟩
      go_wp2_with fail
      refine (AT.out 3 6 _).mono ?_
      rintro r V2 ⟨rfl, kb2⟩
      have B2 := Lib.hid (kb1.trans kb2)
      clear kb1 kb2
      obtain ⟨V, hV⟩ : ∃ V, V2.alloc (.cells #[.int .i64 2, .int .i64 5, .int .i64 (-1), .int .i64 0, .int .u64 20, .int .u64 20, .int .i64 3, .int .i64 6, .int .i64 (-1), .int .i64 0, .int .u64 7, .int .u64 7] 90) = V := ⟨_, rfl⟩
      have BV := Lib.hid (show Bel wr V by rw [← hV]; exact B2.out.alloc _)
      have PC := Lib.hid (show Blk V V2.heap.size #[.int .i64 2, .int .i64 5, .int .i64 (-1), .int .i64 0, .int .u64 20, .int .u64 20, .int .i64 3, .int .i64 6, .int .i64 (-1), .int .i64 0, .int .u64 7, .int .u64 7] 90 by rw [← hV]; exact Blk.new _ _ _)
      go_upto_region 11 with fail
      try rw [hV]
      obtain ⟨gc, hgc⟩ : ∃ g, V2.heap.size = g := ⟨_, rfl⟩
      rw [hgc] at PC ⊢
      clear hgc hV B2
      go_wp2_with fail
      refine (AT.out 2 5 _).mono ?_
      rintro r V3 ⟨rfl, kb1⟩
      go_wp2_with fail
      refine (AT.out 2 5 _).mono ?_
      rintro r V4 ⟨rfl, kb2⟩
      go_wp2_with fail
      refine (AT.out 3 6 _).mono ?_
      rintro r V5 ⟨rfl, kb3⟩
      have B5 := Lib.hid (kb1.trans (kb2.trans kb3))
      clear kb1 kb2 kb3
      obtain ⟨Y, hY⟩ : ∃ V, V5.alloc (.cells #[.int .i64 0, .int .i64 2, .int .i64 5, .int .i64 (-1), .int .i64 0, .int .u64 10, .int .i64 1, .int .i64 2, .int .i64 5, .int .i64 (-1), .int .i64 0, .int .u64 10, .int .i64 1, .int .i64 3, .int .i64 6, .int .i64 (-1), .int .i64 0, .int .u64 7] 93) = V := ⟨_, rfl⟩
      have BY := Lib.hid (show Bel V Y by rw [← hY]; exact B5.out.alloc _)
      have PP := Lib.hid (show Blk Y V5.heap.size #[.int .i64 0, .int .i64 2, .int .i64 5, .int .i64 (-1), .int .i64 0, .int .u64 10, .int .i64 1, .int .i64 2, .int .i64 5, .int .i64 (-1), .int .i64 0, .int .u64 10, .int .i64 1, .int .i64 3, .int .i64 6, .int .i64 (-1), .int .i64 0, .int .u64 7] 93 by rw [← hY]; exact Blk.new _ _ _)
      go_upto_region 12 with fail
      try rw [hY]
      obtain ⟨gp, hgp⟩ : ∃ g, V5.heap.size = g := ⟨_, rfl⟩
      rw [hgp] at PP ⊢
      clear hgp hY B5
      have BT := Lib.hid (BV.out.trans BY.out)
      have LC := Lib.hid (show RS cC Y (some ⟨gc, 0, none⟩) 2 2 (stC 3) from rs_blk c6C (PC.out.bel BY.out) rfl (by decide) rfl)
      have LP := Lib.hid (show RS cP Y (some ⟨gp, 0, none⟩) 3 3 (stP 3) from rs_blk c6P PP.out rfl (by decide) rfl)
      have Q0 := Lib.hid (CI.out.b0.bel BT.out)
      have QH := Lib.hid (CI.out.bh.bel BT.out)
      have QC := Lib.hid (PC.out.bel BY.out)
      have O1 := Lib.hid (CI.out.oc.bel BT.out)
      have O2 := Lib.hid (CI.out.op.bel BT.out)
      have BZ := Lib.hid (CI.out.bel.trans BT.out)
      obtain ⟨A1, c1, e1, _⟩ := O1.out.rs c6C
      obtain ⟨A2, c2, e2, _⟩ := O2.out.rs c6P
      subst e1 e2
      replace QH := Lib.hid (show Blk Y (g + 1) #[.slice A1 2 c1, .slice A2 3 c2] 25 from QH.out)
      replace O1 := Lib.hid (show OwnR cC 90 Y w.heap.size (.slice A1 2 c1) (stC 3) from O1.out)
      replace O2 := Lib.hid (show OwnR cP 93 Y w.heap.size (.slice A2 3 c2) (stP 3) from O2.out)
      clear CI BV BY PC BT
      have SM := Lib.hid (show ∀ V, Kep (fun b => b = g) Y V → Calls Tryz.prog 18 #[.agg #[.slice A1 2 c1, .slice A2 3 c2], .agg #[.slice (some ⟨gc, 0, none⟩) 2 2, .slice (some ⟨gp, 0, none⟩) 3 3]] V fun e w' => e = .returned (.bool true) ∧ Bel V w' from fun V hV => by
        have q1 := O1.out.kep hV (fun i e e' => own_ne O1.out Q0.out (by decide) (e' ▸ e))
        have q2 := O2.out.kep hV (fun i e e' => own_ne O2.out Q0.out (by decide) (e' ▸ e))
        obtain ⟨B1, d1, e1, s1, _⟩ := q1.rs c6C
        obtain ⟨B2, d2, e2, s2, _⟩ := q2.rs c6P
        injection e1 with e11 e12 e13
        injection e2 with e21 e22 e23
        subst e11 e13 e21 e23
        have l1 := LC.out.kep hV (fun y hy e => by
          injection hy with hy; subst hy
          obtain rfl : gc = g := e
          exact absurd (blk_ty QC.out Q0.out) (by decide))
        have l2 := LP.out.kep hV (fun y hy e => by
          injection hy with hy; subst hy
          obtain rfl : gp = g := e
          exact absurd (blk_ty PP.out Q0.out) (by decide))
        have h := sameH A1 (some ⟨gc, 0, none⟩) 2 c1 2 2 A2 (some ⟨gp, 0, none⟩) 3 c2 3 3 (stC 3) (stP 3) (stC 3) (stP 3) V s1 s2 l1 l2 (by decide) (by decide) (by decide) (by decide)
        rw [decide_eq_true rfl, decide_eq_true rfl] at h
        exact h)
      have HGG := Lib.hid (show w.heap.size ≤ g from by have := HG.out; omega)
      refine wp_region_held_drew (S := fun V => Kep (fun b => b = g) Y V) (by kernel_rfl) (Kep.drew (Kep.refl _ _)) (fun hS0 => ?_)
      obtain ⟨w6, hw6⟩ : ∃ w6, World.drew Y = w6 := ⟨_, rfl⟩
      have HD6 := Lib.hid (show Bel Y w6 by rw [← hw6]; exact (Bel.refl _).drew)
      rw [hw6] at hS0 ⊢
      clear hw6
      have hne1 : ¬ g + 1 = g := by omega
      refine ztk 0 { dst := some 62, op := .load 25 (.tmp 2), type := 25, pos := "outright.go:26", after := #[], guard := none } (.agg #[.slice A1 2 c1, .slice A2 3 c2]) (yieldsIf_load_mid (by rfl) _ _ rfl _ _ rfl _ _ (fun w h => rng_kep (rngB (C := [.slice A1 2 c1, .slice A2 3 c2]) QH.out) h hne1) Tryz.underlying25 rfl info_h) hS0 ?_
      try simp only [Act.put, zq1, zq2, zq3]
      refine ztk 1 { dst := some 63, op := .load 25 (.tmp 2), type := 25, pos := "outright.go:26", after := #[], guard := none } (.agg #[.slice A1 2 c1, .slice A2 3 c2]) (yieldsIf_load_mid (by rfl) _ _ rfl _ _ rfl _ _ (fun w h => rng_kep (rngB (C := [.slice A1 2 c1, .slice A2 3 c2]) QH.out) h hne1) Tryz.underlying25 rfl info_h) hS0 ?_
      try simp only [Act.put, zq1, zq2, zq3]
      refine ztk 2 { dst := some 64, op := .move (.tmp 9), type := 22, pos := "outright.go:26", after := #[], guard := none } (.slice (some ⟨gc, 0, none⟩) 2 2) (Or.inl ⟨by rfl, by intro w hSw; clear hSw; go_simp⟩) hS0 ?_
      try simp only [Act.put, zq1, zq2, zq3]
      refine ztk 3 { dst := some 65, op := .move (.tmp 10), type := 23, pos := "outright.go:26", after := #[], guard := none } (.slice (some ⟨gp, 0, none⟩) 3 3) (Or.inl ⟨by rfl, by intro w hSw; clear hSw; go_simp⟩) hS0 ?_
      try simp only [Act.put, zq1, zq2, zq3]
      refine ztk 4 { dst := some 66, op := .build 25 #[(0, .tmp 64), (1, .tmp 65)], type := 25, pos := "outright.go:26", after := #[{ on := 2, ground := .data }, { on := 3, ground := .data }], guard := none } (.agg #[.slice (some ⟨gc, 0, none⟩) 2 2, .slice (some ⟨gp, 0, none⟩) 3 3]) (Or.inl ⟨by rfl, by intro w hSw; clear hSw; go_simp⟩) hS0 ?_
      try simp only [Act.put, zq1, zq2, zq3]
      refine wpAnyH_ready (rs := [5]) (by kernel_rfl) (by simp) ?_
      refine AllReadyH.cons (o := { dst := some 67, op := .call { callee := .value (.func 18), args := #[.tmp 63, .tmp 66], argTypes := #[25, 25] }, type := 4, pos := "outright.go:26", after := #[{ on := 1, ground := .data }, { on := 4, ground := .data }], guard := none }) rfl (fun K hK => ?_) AllReadyH.nil
      go_simp
      refine (SM.out _ hS0).mono ?_
      rintro e v1 ⟨rfl, kb⟩
      go_wp2_with fail
      refine hK.out _ _ (hS0.trans (Kep.of_bel kb)) (fun hS1 => ?_)
      clear hK K
      try simp only [Act.put, zq1, zq2, zq3]
      refine wpAnyH_ready (rs := [6]) (by kernel_rfl) (by simp) ?_
      refine AllReadyH.cons (o := { dst := none, op := .store 25 (.tmp 0) (.tmp 62), type := 0, pos := "outright.go:26", after := #[{ on := 0, ground := .data }, { on := 5, ground := .chain }, { on := 0, ground := .phase }, { on := 1, ground := .textOnly .lateStores }, { on := 2, ground := .textOnly .lateStores }, { on := 3, ground := .textOnly .lateStores }, { on := 4, ground := .textOnly .lateStores }, { on := 5, ground := .textOnly .lateStoresUnsure }], guard := none }) rfl (fun K hK => ?_) AllReadyH.nil
      have QB := Lib.hid (show Blk v1 g #[.slice none 0 0, .slice none 0 0] 25 by first | exact (Q0.out.bel HD6.out).bel kb | exact Q0.out.bel HD6.out)
      have q0 := QB.out.cell 0 rfl
      have q1 := QB.out.cell 1 rfl
      have qf0 := QB.out.frozen 0
      have qf1 := QB.out.frozen 1
      go_simp
      refine hK.out _ _ ((hS1.set (b := g) (o := 0) rfl _).set (b := g) (o := 1) rfl _) (fun hS2 => ?_)
      clear hK K
      try simp only [Act.put, zq1, zq2, zq3]
      refine ztk 7 { dst := some 1, op := .assign (.tmp 67), type := 4, pos := "outright.go:26", after := #[{ on := 5, ground := .data }, { on := 6, ground := .chain }, { on := 0, ground := .phase }, { on := 1, ground := .phase }, { on := 2, ground := .phase }, { on := 3, ground := .phase }, { on := 4, ground := .phase }, { on := 5, ground := .phase }, { on := 6, ground := .phase }], guard := none } (.bool true) (Or.inl ⟨by rfl, by intro w hSw; clear hSw; go_simp⟩) hS2 ?_
      try simp only [Act.put, zq1, zq2, zq3]
      refine wpAnyH_done (by kernel_rfl) ?_ _
      have HE := Lib.hid hS2
      first
        | have RB := Lib.hid (((QB.out.set 0 (.slice A1 2 c1)).set 1 (.slice A2 3 c2)).bel kb)
        | have RB := Lib.hid ((QB.out.set 0 (.slice A1 2 c1)).set 1 (.slice A2 3 c2))
      clear q0 q1 qf0 qf1
      go_wp2_with fail
      refine bodyPost_ret (Pm.res_ci rfl _ _ ⟨g, 0, none⟩ _ _ rfl rfl (load_h RB.out)) rfl ⟨_, _, rfl, ?_, ?_, ?_⟩
      · exact O1.out.kep HE.out (fun i e e' => own_ne O1.out Q0.out (by decide) (e' ▸ e))
      · exact O2.out.kep HE.out (fun i e e' => own_ne O2.out Q0.out (by decide) (e' ▸ e))
      · exact Kep.bel BZ.out HE.out (fun y hy => by rw [hy]; exact HGG.out)
end Ho
end Go.Proofs.YtneajcoiemkfbaaGreat
end

section
/-
  What errs and awake of the laws answer. Conditions: as each theorem says.
-/
namespace Go.Proofs.YtneajcoiemkfbaaGreat
open Go.RowKit Go.Shelf
set_option linter.unusedVariables false
set_option linter.unusedSimpArgs false
namespace Ho
open Kk Pm

theorem a_no {cs ps : List R6} {k o a b d e v h x : Int} (h0 : 0 ≤ k) (h2 : k ≤ 2) (hE : ¬ aE cs ps (k, o, a, b, d, e, v, h, x) = 0) : aC cs ps (k, o, a, b, d, e, v, h, x) = [] ∧ aP cs ps (k, o, a, b, d, e, v, h, x) = [] ∧ aN cs ps (k, o, a, b, d, e, v, h, x) = 0 ∧ aL cs ps (k, o, a, b, d, e, v, h, x) = [] := by
  unfold aC aP aN aL
  by_cases k0 : k = 0
  · simp only [if_pos k0, if_neg hE]
    refine ⟨trivial, trivial, trivial, ?_⟩
    rw [if_neg (by omega)]
  · by_cases k1 : k = 1
    · simp only [if_neg k0, if_pos k1, if_neg hE]
      refine ⟨trivial, trivial, trivial, ?_⟩
      rw [if_neg (by omega)]
    · have k2 : k = 2 := by omega
      simp only [if_neg k0, if_neg k1, if_pos k2, if_neg hE]
      exact ⟨trivial, trivial, trivial, trivial⟩
set_option maxRecDepth 100000 in
set_option maxHeartbeats 8000000 in
/-- An act that is refused. -/
theorem errs_ (A : Option Addr) (n c : Nat) (B : Option Addr) (m d0 : Nat) (cs ps : List R6) (k o a b d e v h x E : Int) (w : World) (hh : HH w A n c B m d0 cs ps) (x0 : 0 ≤ x) (x1 : x ≤ 18446744073709551615) (k0 : 0 ≤ k) (k2 : k ≤ 2) (hE : aE cs ps (k, o, a, b, d, e, v, h, x) = E) (h0 : ¬ E = 0) :
    Calls Tryz.prog 49 #[.agg #[.slice A n c, .slice B m d0], .agg #[.int .i64 k, .int .i64 o, .int .i64 a, .int .i64 b, .int .i64 d, .int .i64 e, .int .i64 v, .int .i64 h, .int .u64 x], .int .i64 E] w fun r w' => r = .returned (.bool true) ∧ Bel w w' := by
  obtain ⟨hC, hP, hN, hL⟩ := a_no k0 k2 (cs := cs) (ps := ps) (o := o) (a := a) (b := b) (d := d) (e := e) (v := v) (h := h) (x := x) (by rw [hE]; exact h0)
  obtain ⟨W, hW⟩ : ∃ W, (w.alloc (.cells #[.slice A n c, .slice B m d0] 25)).alloc (.cells #[.int .i64 k, .int .i64 o, .int .i64 a, .int .i64 b, .int .i64 d, .int .i64 e, .int .i64 v, .int .i64 h, .int .u64 x] 39) = W := ⟨_, rfl⟩
  have BW := Lib.hid (show Bel w W by rw [← hW]; exact ((Bel.refl _).alloc _).alloc _)
  have P1 := Lib.hid (show Blk W w.heap.size #[.slice A n c, .slice B m d0] 25 by rw [← hW]; exact (Blk.new _ _ _).alloc _)
  have P2 := Lib.hid (show Blk W (w.heap.size + 1) #[.int .i64 k, .int .i64 o, .int .i64 a, .int .i64 b, .int .i64 d, .int .i64 e, .int .i64 v, .int .i64 h, .int .u64 x] 39 by rw [← hW]; have h := Blk.new (w.alloc (.cells #[.slice A n c, .slice B m d0] 25)) #[.int .i64 k, .int .i64 o, .int .i64 a, .int .i64 b, .int .i64 d, .int .i64 e, .int .i64 v, .int .i64 h, .int .u64 x] 39; simpa using h)
  have DO := Lib.hid (does_ A n c B m d0 cs ps k o a b d e v h x W (hh.bel BW.out) x0 x1)
  rw [hE, hC, hP, hN, hL] at DO
  have q0 := P1.out.cell 0 rfl
  have q1 := P1.out.cell 1 rfl
  have HRG := Lib.hid (show W.rangeAt (w.heap.size + 1) 0 [.int .i64 k, .int .i64 o, .int .i64 a, .int .i64 b, .int .i64 d, .int .i64 e, .int .i64 v, .int .i64 h, .int .u64 x] from rngB (C := [.int .i64 k, .int .i64 o, .int .i64 a, .int .i64 b, .int .i64 d, .int .i64 e, .int .i64 v, .int .i64 h, .int .u64 x]) P2.out)
  have hEE : ((E : Int) == E) = true := by simp
  clear hh hE hC hP hN hL h0 k0 k2
  go_enter Tryz.func49, Tryz.ntmps49
  go_upto_region 1 with fail
  try rw [hW]
  obtain ⟨g, hg⟩ : ∃ g, w.heap.size = g := ⟨_, rfl⟩
  rw [hg] at P1 P2 q0 q1 HRG ⊢
  clear hg hW
  go_wp2_with ((with_reducible refine Rw.load_g ?_ 39 (.tmp 4) ?_ (g + 1) 0 ?_ [.int .i64 k, .int .i64 o, .int .i64 a, .int .i64 b, .int .i64 d, .int .i64 e, .int .i64 v, .int .i64 h, .int .u64 x] _ HRG.out Tryz.underlying39 ?_ ?_ ?_); rfl; rfl; rfl; rfl; kernel_rfl)
  refine DO.out.mono ?_
  rintro r V ⟨v1, v2, lv, rfl, h1, h2, h3, kb, _⟩
  obtain ⟨A1, c1, e1, r1⟩ := h1
  obtain ⟨A2, c2, e2, r2⟩ := h2
  obtain ⟨A3, c3, e3⟩ := ownL_slice h3
  subst e1 e2 e3
  have R1 := Lib.hid (show RS cC V A1 0 c1 [] from r1)
  have R2 := Lib.hid (show RS cP V A2 0 c2 [] from r2)
  have KB := Lib.hid (BW.out.trans kb)
  have SM := Lib.hid (fun X (hX : Bel V X) => sameH A1 none 0 c1 0 0 A2 none 0 c2 0 0 [] [] [] [] X (R1.out.bel hX) (R2.out.bel hX) RS.nil_ RS.nil_ (by decide) (by decide) (by decide) (by decide))
  replace SM := Lib.hid (show ∀ X, Bel V X → Calls Tryz.prog 18 #[.agg #[.slice A1 0 c1, .slice A2 0 c2], .agg #[.slice none 0 0, .slice none 0 0]] X fun e w' => e = .returned (.bool true) ∧ Bel X w' from fun X hX => by
    have h := SM.out X hX
    rw [decide_eq_true rfl] at h
    exact h)
  obtain ⟨V2, hV2⟩ : ∃ V2, V.alloc (.cells #[.slice A1 0 c1, .slice A2 0 c2] 25) = V2 := ⟨_, rfl⟩
  have BV := Lib.hid (show Bel V V2 by rw [← hV2]; exact (Bel.refl V).alloc _)
  have P8 := Lib.hid (show Blk V2 V.heap.size #[.slice A1 0 c1, .slice A2 0 c2] 25 by rw [← hV2]; exact Blk.new _ _ _)
  have u0 := P8.out.cell 0 rfl
  have u1 := P8.out.cell 1 rfl
  clear kb h3 r1 r2 DO R1 R2 HRG
  go_upto_region 2 with fail
  try rw [hV2]
  have hV2' : V.alloc (.cells #[.slice A1 ([] : List R6).length c1, .slice A2 ([] : List R6).length c2] 25) = V2 := hV2
  try rw [hV2']
  obtain ⟨g8, hg8⟩ : ∃ g, V.heap.size = g := ⟨_, rfl⟩
  rw [hg8] at P8 u0 u1 ⊢
  clear hg8 hV2 hV2'
  have u0 : V2.cell? ⟨g8, 0, none⟩ = some (.slice A1 0 c1) := u0
  have u1 : V2.cell? ⟨g8, 1, none⟩ = some (.slice A2 0 c2) := u1
  go_wp2_with fail
  refine (SM.out _ BV.out).mono ?_
  rintro r X ⟨rfl, kb⟩
  have KX := Lib.hid (KB.out.trans (BV.out.trans kb))
  clear kb
  go_wp2_with fail
  go_ret
  exact ⟨rfl, KX.out⟩
end Ho
end Go.Proofs.YtneajcoiemkfbaaGreat
end

section
/-
  What awake of the laws answers: it is so. No condition.
-/
namespace Go.Proofs.YtneajcoiemkfbaaGreat
open Go.RowKit Go.Shelf
set_option linter.unusedVariables false
set_option linter.unusedSimpArgs false
namespace Ho
open Kk Pm

/-- Cut and Leave, with slices spelled out. -/
theorem Cut_s (A : Option Addr) (n c : Nat) (B : Option Addr) (m d0 : Nat) (cs ps : List R6) (v h x : Int) (w : World) (hh : HH w A n c B m d0 cs ps) (x0 : 0 ≤ x) (x1 : x ≤ 18446744073709551615) {E N : Int} {C P L : List R6} {n1 n2 n3 : Nat}
    (hE : chE cs ps (bKE v h x) = E) (hC : (if E = 0 then cutC cs v h x else []) = C) (hP : (if E = 0 then cutP cs ps v h x else []) = P) (hL : (if E = 0 then losL v h x cs cs.length else []) = L) (hN : (if E = 0 then sumT (losL v h x cs cs.length) else 0) = N) (h1 : C.length = n1) (h2 : P.length = n2) (h3 : L.length = n3) :
    Calls Tryz.prog 48 #[.agg #[.slice A n c, .slice B m d0], .int .i64 v, .int .i64 h, .int .u64 x] w fun r w' => ∃ B1 d1 B2 d2 B3 d3, r = .returned (.tuple #[.agg #[.slice B1 n1 d1, .slice B2 n2 d2], .slice B3 n3 d3, .int .u64 N, .int .i64 E]) ∧
      OwnR cC 90 w' w.heap.size (.slice B1 n1 d1) C ∧ OwnR cP 93 w' w.heap.size (.slice B2 n2 d2) P ∧ OwnL w' w.heap.size (.slice B3 n3 d3) L ∧ Bel w w' := by
  refine (Cut_ A n c B m d0 cs ps v h x w hh x0 x1).mono ?_
  rw [hE]
  rintro r w' ⟨v1, v2, lv, rfl, k1, k2, k3, kb⟩
  replace k1 : OwnR cC 90 w' w.heap.size v1 C := by rw [← hC]; exact k1
  replace k2 : OwnR cP 93 w' w.heap.size v2 P := by rw [← hP]; exact k2
  replace k3 : OwnL w' w.heap.size lv L := by rw [← hL]; exact k3
  obtain ⟨A1, c1, e1, _⟩ := k1.rs c6C
  obtain ⟨A2, c2, e2, _⟩ := k2.rs c6P
  obtain ⟨A3, c3, e3⟩ := ownL_slice k3
  subst e1 e2 e3 h1 h2 h3
  exact ⟨A1, c1, A2, c2, A3, c3, by rw [hN], k1, k2, k3, kb⟩
theorem Leave_s (A : Option Addr) (n c : Nat) (B : Option Addr) (m d0 : Nat) (cs ps : List R6) (o a b d e x : Int) (w : World) (hh : HH w A n c B m d0 cs ps) (x0 : 0 ≤ x) (x1 : x ≤ 18446744073709551615) {E N : Int} {C P : List R6} {n1 n2 : Nat}
    (hE : chE cs ps (bLE (polT cs (a, b, d, e, 0, 0)) (polS cs (a, b, d, e, 0, 0)) (shs ps (o, a, b, d, e, 0)) x) = E) (hC : (if E = 0 then setC cs a b d e (Sh.leaT (polT cs (a, b, d, e, 0, 0)) (polS cs (a, b, d, e, 0, 0)) x) (Sh.leaS (polT cs (a, b, d, e, 0, 0)) (polS cs (a, b, d, e, 0, 0)) x) else []) = C)
    (hP : (if E = 0 then setP ps o a b d e (shs ps (o, a, b, d, e, 0) - x) else []) = P) (hN : (if E = 0 then Sh.leaN (polT cs (a, b, d, e, 0, 0)) (polS cs (a, b, d, e, 0, 0)) x else 0) = N) (h1 : C.length = n1) (h2 : P.length = n2) :
    Calls Tryz.prog 51 #[.agg #[.slice A n c, .slice B m d0], .int .i64 o, .agg #[.int .i64 a, .int .i64 b, .int .i64 d, .int .i64 e], .int .u64 x] w fun r w' => ∃ B1 d1 B2 d2, r = .returned (.tuple #[.agg #[.slice B1 n1 d1, .slice B2 n2 d2], .int .u64 N, .int .i64 E]) ∧
      OwnR cC 90 w' w.heap.size (.slice B1 n1 d1) C ∧ OwnR cP 93 w' w.heap.size (.slice B2 n2 d2) P ∧ Bel w w' := by
  refine (Leave_ A n c B m d0 cs ps o a b d e x w hh x0 x1).mono ?_
  rw [hE]
  rintro r w' ⟨v1, v2, rfl, k1, k2, kb⟩
  replace k1 : OwnR cC 90 w' w.heap.size v1 C := by rw [← hC]; exact k1
  replace k2 : OwnR cP 93 w' w.heap.size v2 P := by rw [← hP]; exact k2
  obtain ⟨A1, c1, e1, _⟩ := k1.rs c6C
  obtain ⟨A2, c2, e2, _⟩ := k2.rs c6P
  subst e1 e2 h1 h2
  exact ⟨A1, c1, A2, c2, by rw [hN], k1, k2, kb⟩
/-- A holding that reads as these lists, of words. -/
theorem hh_of {w : World} {A : Option Addr} {n c : Nat} {B : Option Addr} {m d : Nat} {cs ps : List R6} (h1 : RS cC w A n c cs) (h2 : RS cP w B m d ps) (hn : n ≤ 1000000) (hm : m ≤ 1000000) (hw : (∀ r ∈ cs, Wd r) ∧ Wp ps) : HH w A n c B m d cs ps := ⟨h1, h2, hn, hm, hw.1, hw.2⟩
theorem own_rsC {w : World} {base n c : Nat} {A : Option Addr} {l : List R6} (h : OwnR cC 90 w base (.slice A n c) l) : RS cC w A n c l := by
  obtain ⟨B, d, e, r, _⟩ := h.rs c6C
  injection e with e1 e2 e3
  subst e1 e2 e3
  exact r
theorem own_rsP {w : World} {base n c : Nat} {A : Option Addr} {l : List R6} (h : OwnR cP 93 w base (.slice A n c) l) : RS cP w A n c l := by
  obtain ⟨B, d, e, r, _⟩ := h.rs c6P
  injection e with e1 e2 e3
  subst e1 e2 e3
  exact r
/-- A variable that holds a holding. -/
structure Vh (W : World) (b : Nat) (A : Option Addr) (n c : Nat) (B : Option Addr) (m d : Nat) (cs ps : List R6) : Prop where
  blk : Blk W b #[.slice A n c, .slice B m d] 25
  hh : HH W A n c B m d cs ps
theorem Vh.bel {W W' : World} {b : Nat} {A : Option Addr} {n c : Nat} {B : Option Addr} {m d : Nat} {cs ps : List R6} (h : Vh W b A n c B m d cs ps) (hb : Bel W W') : Vh W' b A n c B m d cs ps := ⟨h.blk.bel hb, h.hh.bel hb⟩
abbrev aw1C : List R6 := [(2, 5, -1, 0, 18, 20), (3, 6, -1, 0, 7, 7)]
abbrev aw2C : List R6 := [(2, 5, -1, 0, 14, 15), (3, 6, -1, 0, 7, 7)]
abbrev aw2P : List R6 := [(0, 2, 5, -1, 0, 10), (1, 2, 5, -1, 0, 5), (1, 3, 6, -1, 0, 7)]
theorem aw1_wd : (∀ r ∈ aw1C, Wd r) ∧ Wp (stP 3) := by simp [aw1C, stP, Wd, Wp, tok, shr]
theorem aw2_wd : (∀ r ∈ aw2C, Wd r) ∧ Wp aw2P := by simp [aw2C, aw2P, Wd, Wp, tok, shr]

set_option maxRecDepth 100000 in
set_option maxHeartbeats 8000000 in
theorem awake (w : World) : Calls Tryz.prog 12 #[] w fun r w' => r = .returned (.bool true) ∧ Bel w w' := by
  have CH := Lib.hid (chapter w)
  have AT := Lib.hid (fun v h V => at_ v h V)
  go_enter Tryz.func12, Tryz.ntmps12
  go_wp2_with fail
  refine CH.out.mono ?_
  rintro r V ⟨v1, v2, rfl, o1, o2, kb⟩
  obtain ⟨A1, c1, e1, r1, _⟩ := o1.rs c6C
  obtain ⟨A2, c2, e2, r2, _⟩ := o2.rs c6P
  subst e1 e2
  obtain ⟨X, hX⟩ : ∃ X, V.alloc (.cells #[.slice A1 2 c1, .slice A2 3 c2] 25) = X := ⟨_, rfl⟩
  have BX := Lib.hid (show Bel V X by rw [← hX]; exact (Bel.refl V).alloc _)
  have KB := Lib.hid (kb.trans BX.out)
  have VH := Lib.hid (show Vh X V.heap.size A1 2 c1 A2 3 c2 (stC 3) (stP 3) from ⟨by rw [← hX]; exact Blk.new _ _ _, (hh_of r1 r2 (by decide) (by decide) (st_wd 3)).bel BX.out⟩)
  have CU := Lib.hid (fun Y hY => Cut_s A1 2 c1 A2 3 c2 (stC 3) (stP 3) 2 5 100000000 Y (VH.out.hh.bel hY) (by decide) (by decide) (E := 0) (N := 2) (C := aw1C) (P := stP 3) (L := [(2, 5, -1, 0, 2, 0)]) (n1 := 2) (n2 := 3) (n3 := 1) (by kernel_rfl) (by kernel_rfl) (by kernel_rfl) (by kernel_rfl) (by kernel_rfl) rfl rfl rfl)
  have u0 := VH.out.blk.cell 0 rfl
  have u1 := VH.out.blk.cell 1 rfl
  clear o1 o2 r1 r2 kb CH
  go_upto_region 2 with fail
  have hX' : V.alloc (.cells #[.slice A1 (stC 3).length c1, .slice A2 (stP 3).length c2] 25) = X := hX
  try rw [hX]
  try rw [hX']
  obtain ⟨gh, hgh⟩ : ∃ g, V.heap.size = g := ⟨_, rfl⟩
  rw [hgh] at VH u0 u1 ⊢
  clear hgh hX hX' BX
  go_wp2_with fail
  refine (CU.out _ (Bel.refl _)).mono ?_
  rintro r V2 ⟨B1, d1, B2, d2, B3, d3, rfl, o1, o2, o3, kb⟩
  obtain ⟨Y, hY⟩ : ∃ X, V2.alloc (.cells #[.slice B1 2 d1, .slice B2 3 d2] 25) = X := ⟨_, rfl⟩
  have BY := Lib.hid (show Bel V2 Y by rw [← hY]; exact (Bel.refl V2).alloc _)
  have KY := Lib.hid (KB.out.trans (kb.trans BY.out))
  have VG := Lib.hid (show Vh Y V2.heap.size B1 2 d1 B2 3 d2 aw1C (stP 3) from ⟨by rw [← hY]; exact Blk.new _ _ _, (hh_of (own_rsC o1) (own_rsP o2) (by decide) (by decide) aw1_wd).bel BY.out⟩)
  have OL := Lib.hid (rsL (o3.bel BY.out))
  have LE := Lib.hid (fun Z hZ => Leave_s B1 2 d1 B2 3 d2 aw1C (stP 3) 1 2 5 (-1) 0 5 Z (VG.out.hh.bel hZ) (by decide) (by decide) (E := 0) (N := 4) (C := aw2C) (P := aw2P) (n1 := 2) (n2 := 3) (by kernel_rfl) (by kernel_rfl) (by kernel_rfl) (by kernel_rfl) rfl rfl)
  have g0 := VG.out.blk.cell 0 rfl
  have g1 := VG.out.blk.cell 1 rfl
  clear o1 o2 o3 kb CU VH u0 u1
  go_upto_region 3 with fail
  try rw [hY]
  obtain ⟨gg, hgg⟩ : ∃ g, V2.heap.size = g := ⟨_, rfl⟩
  rw [hgg] at VG g0 g1 ⊢
  clear hgg hY BY KB
  go_cut [7, 8, 9] (fun s7 s8 s9 wx => ∃ (q : Nat) (B1 : Option Addr) (d1 : Nat) (B2 : Option Addr) (d2 : Nat), s7 = .pointer (some ⟨q, 0, none⟩) ∧ s8 = .int .u64 4 ∧ s9 = .int .i64 0 ∧ Hid (Vh wx q B1 2 d1 B2 3 d2 aw2C aw2P ∧ Bel Y wx))
  case first =>
    refine wp_region_held_drew (S := fun Vx => Bel Y Vx) (by kernel_rfl) (Bel.refl _).drew (fun hS0 => ?_)
    obtain ⟨w6, hw6⟩ : ∃ w6, World.drew Y = w6 := ⟨_, rfl⟩
    rw [hw6] at hS0 ⊢
    clear hw6
    refine ztk 0 { dst := some 26, op := .load 25 (.tmp 3), type := 25, pos := "outright.go:33", after := #[], guard := none } (.agg #[.slice B1 2 d1, .slice B2 3 d2]) (yieldsIf_load_mid (by rfl) _ _ rfl _ _ rfl _ _ (fun w h => rng_bel (rngB (C := [.slice B1 2 d1, .slice B2 3 d2]) VG.out.blk) h) Tryz.underlying25 rfl info_h) hS0 ?_
    try simp only [Act.put, zq1, zq2, zq3]
    refine wpAnyH_ready (rs := [1, 7]) (by kernel_rfl) (by simp) ?_
    refine AllReadyH.cons (o := { dst := some 27, op := .call { callee := .value (.func 50), args := #[.const (Value.int IntKind.i64 2), .const (Value.int IntKind.i64 5)], argTypes := #[3, 3] }, type := 37, pos := "outright.go:33", after := #[], guard := none }) rfl (fun K hK => ?_) (AllReadyH.cons (o := { dst := some 7, op := .alloc 25, type := 0, pos := "outright.go:33", after := #[], guard := none }) rfl (fun K hK => ?_) AllReadyH.nil)
    · go_simp
      refine (AT.out 2 5 _).mono ?_
      rintro e v1 ⟨rfl, ka⟩
      go_wp2_with fail
      refine hK.out _ _ (hS0.trans ka) (fun hS1 => ?_)
      clear hK K
      try simp only [Act.put, zq1, zq2, zq3]
      refine wpAnyH_ready (rs := [2, 7]) (by kernel_rfl) (by simp) ?_
      refine AllReadyH.cons (o := { dst := some 28, op := .call { callee := .value (.func 51), args := #[.tmp 26, .const (Value.int IntKind.i64 1), .tmp 27, .const (Value.int IntKind.u64 5)], argTypes := #[25, 3, 37, 32] }, type := 80, pos := "outright.go:33", after := #[{ on := 0, ground := .data }, { on := 1, ground := .data }, { on := 1, ground := .chain }], guard := none }) rfl (fun K hK => ?_) (AllReadyH.cons (o := { dst := some 7, op := .alloc 25, type := 0, pos := "outright.go:33", after := #[], guard := none }) rfl (fun K hK => ?_) AllReadyH.nil)
      · go_simp
        refine (LE.out _ hS1).mono ?_
        rintro e v2 ⟨E1, f1, E2, f2, rfl, own1, own2, kb⟩
        go_wp2_with fail
        refine hK.out _ _ (hS1.trans kb) (fun hS2 => ?_)
        clear hK K
        try simp only [Act.put, zq1, zq2, zq3]
        refine ztk 3 { dst := some 25, op := .move (.tmp 28), type := 80, pos := "outright.go:33", after := #[{ on := 2, ground := .data }], guard := none } (.tuple #[.agg #[.slice E1 2 f1, .slice E2 3 f2], .int .u64 4, .int .i64 0]) (Or.inl ⟨by rfl, by intro w hSw; clear hSw; go_simp⟩) hS2 ?_
        try simp only [Act.put, zq1, zq2, zq3]
        refine ztk 4 { dst := some 29, op := .extract (.tmp 25) 0, type := 25, pos := "outright.go:33", after := #[{ on := 3, ground := .data }], guard := none } (.agg #[.slice E1 2 f1, .slice E2 3 f2]) (Or.inl ⟨by rfl, by intro w hSw; clear hSw; go_simp⟩) hS2 ?_
        try simp only [Act.put, zq1, zq2, zq3]
        refine ztk 5 { dst := some 30, op := .extract (.tmp 25) 1, type := 32, pos := "outright.go:33", after := #[{ on := 3, ground := .data }, { on := 8, ground := .gcOnly .lateStores }], guard := none } (.int .u64 4) (Or.inl ⟨by rfl, by intro w hSw; clear hSw; go_simp⟩) hS2 ?_
        try simp only [Act.put, zq1, zq2, zq3]
        refine ztk 6 { dst := some 31, op := .extract (.tmp 25) 2, type := 30, pos := "outright.go:33", after := #[{ on := 3, ground := .data }, { on := 9, ground := .gcOnly .lateStores }], guard := none } (.int .i64 0) (Or.inl ⟨by rfl, by intro w hSw; clear hSw; go_simp⟩) hS2 ?_
        try simp only [Act.put, zq1, zq2, zq3]
        refine wpAnyH_ready (rs := [7]) (by kernel_rfl) (by simp) ?_
        refine AllReadyH.cons (o := { dst := some 7, op := .alloc 25, type := 0, pos := "outright.go:33", after := #[], guard := none }) rfl (fun K hK => ?_) AllReadyH.nil
        go_simp
        refine hK.out _ _ (hS2.alloc _) (fun hS3 => ?_)
        clear hK K
        try simp only [Act.put, zq1, zq2, zq3]
        have gnb := Blk.new v2 #[.slice none 0 0, .slice none 0 0] 25
        have gnl := Lib.hid (Below.size hS2)
        generalize hvq : World.alloc v2 (Obj.cells #[.slice none 0 0, .slice none 0 0] 25) = v3 at gnb hS3 ⊢
        have gnk : Bel v2 v3 := by rw [← hvq]; exact (Bel.refl _).alloc _
        clear hvq
        obtain ⟨gn, hgq⟩ : ∃ g, (World.heap v2).size = g := ⟨_, rfl⟩
        rw [hgq] at gnb gnl ⊢
        clear hgq
        have gnb := Lib.hid gnb
        refine wpAnyH_ready (rs := [8]) (by kernel_rfl) (by simp) ?_
        refine AllReadyH.cons (o := { dst := none, op := .store 25 (.tmp 7) (.tmp 29), type := 0, pos := "outright.go:33", after := #[{ on := 7, ground := .data }, { on := 4, ground := .data }, { on := 2, ground := .chain }, { on := 0, ground := .phase }, { on := 1, ground := .phase }, { on := 2, ground := .phase }, { on := 3, ground := .phase }, { on := 4, ground := .phase }, { on := 5, ground := .textOnly .lateStores }, { on := 6, ground := .textOnly .lateStores }, { on := 7, ground := .phase }], guard := none }) rfl (fun K hK => ?_) AllReadyH.nil
        have QB : Blk v3 gn #[.slice none 0 0, .slice none 0 0] 25 := by first | exact gnb.out | exact gnb.out.bel kb | exact (gnb.out.bel ka).bel kb
        have OB1 : RS cC v3 E1 2 f1 aw2C := by first | exact own_rsC (OwnR.bel own1 gnk) | exact own_rsC own1
        have OB2 : RS cP v3 E2 3 f2 aw2P := by first | exact own_rsP (OwnR.bel own2 gnk) | exact own_rsP own2
        have OO1 : ∃ base, OwnR cC 90 v3 base (.slice E1 2 f1) aw2C := by first | exact ⟨_, OwnR.bel own1 gnk⟩ | exact ⟨_, own1⟩
        have OO2 : ∃ base, OwnR cP 93 v3 base (.slice E2 3 f2) aw2P := by first | exact ⟨_, OwnR.bel own2 gnk⟩ | exact ⟨_, own2⟩
        have q0 := QB.cell 0 rfl
        have q1 := QB.cell 1 rfl
        have qf0 := QB.frozen 0
        have qf1 := QB.frozen 1
        go_simp
        refine hK.out _ _ ((hS3.set (p := ⟨gn, 0, none⟩) gnl.out _).set (p := ⟨gn, 1, none⟩) gnl.out _) (fun hS4 => ?_)
        clear hK K
        try simp only [Act.put, zq1, zq2, zq3]
        refine ztk 9 { dst := some 8, op := .assign (.tmp 30), type := 32, pos := "outright.go:33", after := #[{ on := 5, ground := .data }, { on := 8, ground := .chain }, { on := 0, ground := .phase }, { on := 1, ground := .phase }, { on := 2, ground := .phase }, { on := 3, ground := .phase }, { on := 4, ground := .phase }, { on := 5, ground := .phase }, { on := 6, ground := .textOnly .lateStores }, { on := 7, ground := .phase }, { on := 8, ground := .phase }], guard := none } (.int .u64 4) (Or.inl ⟨by rfl, by intro w hSw; clear hSw; go_simp⟩) hS4 ?_
        try simp only [Act.put, zq1, zq2, zq3]
        refine ztk 10 { dst := some 9, op := .assign (.tmp 31), type := 30, pos := "outright.go:33", after := #[{ on := 6, ground := .data }, { on := 9, ground := .chain }, { on := 0, ground := .phase }, { on := 1, ground := .phase }, { on := 2, ground := .phase }, { on := 3, ground := .phase }, { on := 4, ground := .phase }, { on := 5, ground := .phase }, { on := 6, ground := .phase }, { on := 7, ground := .phase }, { on := 8, ground := .phase }, { on := 9, ground := .phase }], guard := none } (.int .i64 0) (Or.inl ⟨by rfl, by intro w hSw; clear hSw; go_simp⟩) hS4 ?_
        try simp only [Act.put, zq1, zq2, zq3]
        refine wpAnyH_done (by kernel_rfl) ?_ _
        have KQ : Kep (fun b => b = gn) v3 ((v3.setCell ⟨gn, 0, none⟩ (.slice E1 2 f1)).setCell ⟨gn, 1, none⟩ (.slice E2 3 f2)) := Kep.set (S := fun b => b = gn) (Kep.set (S := fun b => b = gn) (Kep.refl _ _) rfl _) rfl _
        obtain ⟨_, OO1⟩ := OO1
        obtain ⟨_, OO2⟩ := OO2
        go_wp2_with fail
        go_meet
        exact ⟨gn, E1, f1, E2, f2, rfl, rfl, rfl, Lib.hid ⟨⟨(QB.set 0 _).set 1 _, hh_of (own_rsC (OO1.kep KQ (fun i e e' => own_ne OO1 QB (by decide) (e' ▸ e)))) (own_rsP (OO2.kep KQ (fun i e e' => own_ne OO2 QB (by decide) (e' ▸ e)))) (by decide) (by decide) aw2_wd⟩, hS4⟩⟩
      · go_simp
        refine hK.out _ _ (hS1.alloc _) (fun hS2 => ?_)
        clear hK K
        try simp only [Act.put, zq1, zq2, zq3]
        have gnb := Blk.new v1 #[.slice none 0 0, .slice none 0 0] 25
        have gnl := Lib.hid (Below.size hS1)
        generalize hvq : World.alloc v1 (Obj.cells #[.slice none 0 0, .slice none 0 0] 25) = v2 at gnb hS2 ⊢
        have gnk : Bel v1 v2 := by rw [← hvq]; exact (Bel.refl _).alloc _
        clear hvq
        obtain ⟨gn, hgq⟩ : ∃ g, (World.heap v1).size = g := ⟨_, rfl⟩
        rw [hgq] at gnb gnl ⊢
        clear hgq
        have gnb := Lib.hid gnb
        refine wpAnyH_ready (rs := [2]) (by kernel_rfl) (by simp) ?_
        refine AllReadyH.cons (o := { dst := some 28, op := .call { callee := .value (.func 51), args := #[.tmp 26, .const (Value.int IntKind.i64 1), .tmp 27, .const (Value.int IntKind.u64 5)], argTypes := #[25, 3, 37, 32] }, type := 80, pos := "outright.go:33", after := #[{ on := 0, ground := .data }, { on := 1, ground := .data }, { on := 1, ground := .chain }], guard := none }) rfl (fun K hK => ?_) AllReadyH.nil
        go_simp
        refine (LE.out _ hS2).mono ?_
        rintro e v3 ⟨E1, f1, E2, f2, rfl, own1, own2, kb⟩
        go_wp2_with fail
        refine hK.out _ _ (hS2.trans kb) (fun hS3 => ?_)
        clear hK K
        try simp only [Act.put, zq1, zq2, zq3]
        refine ztk 3 { dst := some 25, op := .move (.tmp 28), type := 80, pos := "outright.go:33", after := #[{ on := 2, ground := .data }], guard := none } (.tuple #[.agg #[.slice E1 2 f1, .slice E2 3 f2], .int .u64 4, .int .i64 0]) (Or.inl ⟨by rfl, by intro w hSw; clear hSw; go_simp⟩) hS3 ?_
        try simp only [Act.put, zq1, zq2, zq3]
        refine ztk 4 { dst := some 29, op := .extract (.tmp 25) 0, type := 25, pos := "outright.go:33", after := #[{ on := 3, ground := .data }], guard := none } (.agg #[.slice E1 2 f1, .slice E2 3 f2]) (Or.inl ⟨by rfl, by intro w hSw; clear hSw; go_simp⟩) hS3 ?_
        try simp only [Act.put, zq1, zq2, zq3]
        refine ztk 5 { dst := some 30, op := .extract (.tmp 25) 1, type := 32, pos := "outright.go:33", after := #[{ on := 3, ground := .data }, { on := 8, ground := .gcOnly .lateStores }], guard := none } (.int .u64 4) (Or.inl ⟨by rfl, by intro w hSw; clear hSw; go_simp⟩) hS3 ?_
        try simp only [Act.put, zq1, zq2, zq3]
        refine ztk 6 { dst := some 31, op := .extract (.tmp 25) 2, type := 30, pos := "outright.go:33", after := #[{ on := 3, ground := .data }, { on := 9, ground := .gcOnly .lateStores }], guard := none } (.int .i64 0) (Or.inl ⟨by rfl, by intro w hSw; clear hSw; go_simp⟩) hS3 ?_
        try simp only [Act.put, zq1, zq2, zq3]
        refine wpAnyH_ready (rs := [8]) (by kernel_rfl) (by simp) ?_
        refine AllReadyH.cons (o := { dst := none, op := .store 25 (.tmp 7) (.tmp 29), type := 0, pos := "outright.go:33", after := #[{ on := 7, ground := .data }, { on := 4, ground := .data }, { on := 2, ground := .chain }, { on := 0, ground := .phase }, { on := 1, ground := .phase }, { on := 2, ground := .phase }, { on := 3, ground := .phase }, { on := 4, ground := .phase }, { on := 5, ground := .textOnly .lateStores }, { on := 6, ground := .textOnly .lateStores }, { on := 7, ground := .phase }], guard := none }) rfl (fun K hK => ?_) AllReadyH.nil
        have QB : Blk v3 gn #[.slice none 0 0, .slice none 0 0] 25 := by first | exact gnb.out | exact gnb.out.bel kb | exact (gnb.out.bel ka).bel kb
        have OB1 : RS cC v3 E1 2 f1 aw2C := by first | exact own_rsC (OwnR.bel own1 gnk) | exact own_rsC own1
        have OB2 : RS cP v3 E2 3 f2 aw2P := by first | exact own_rsP (OwnR.bel own2 gnk) | exact own_rsP own2
        have OO1 : ∃ base, OwnR cC 90 v3 base (.slice E1 2 f1) aw2C := by first | exact ⟨_, OwnR.bel own1 gnk⟩ | exact ⟨_, own1⟩
        have OO2 : ∃ base, OwnR cP 93 v3 base (.slice E2 3 f2) aw2P := by first | exact ⟨_, OwnR.bel own2 gnk⟩ | exact ⟨_, own2⟩
        have q0 := QB.cell 0 rfl
        have q1 := QB.cell 1 rfl
        have qf0 := QB.frozen 0
        have qf1 := QB.frozen 1
        go_simp
        refine hK.out _ _ ((hS3.set (p := ⟨gn, 0, none⟩) gnl.out _).set (p := ⟨gn, 1, none⟩) gnl.out _) (fun hS4 => ?_)
        clear hK K
        try simp only [Act.put, zq1, zq2, zq3]
        refine ztk 9 { dst := some 8, op := .assign (.tmp 30), type := 32, pos := "outright.go:33", after := #[{ on := 5, ground := .data }, { on := 8, ground := .chain }, { on := 0, ground := .phase }, { on := 1, ground := .phase }, { on := 2, ground := .phase }, { on := 3, ground := .phase }, { on := 4, ground := .phase }, { on := 5, ground := .phase }, { on := 6, ground := .textOnly .lateStores }, { on := 7, ground := .phase }, { on := 8, ground := .phase }], guard := none } (.int .u64 4) (Or.inl ⟨by rfl, by intro w hSw; clear hSw; go_simp⟩) hS4 ?_
        try simp only [Act.put, zq1, zq2, zq3]
        refine ztk 10 { dst := some 9, op := .assign (.tmp 31), type := 30, pos := "outright.go:33", after := #[{ on := 6, ground := .data }, { on := 9, ground := .chain }, { on := 0, ground := .phase }, { on := 1, ground := .phase }, { on := 2, ground := .phase }, { on := 3, ground := .phase }, { on := 4, ground := .phase }, { on := 5, ground := .phase }, { on := 6, ground := .phase }, { on := 7, ground := .phase }, { on := 8, ground := .phase }, { on := 9, ground := .phase }], guard := none } (.int .i64 0) (Or.inl ⟨by rfl, by intro w hSw; clear hSw; go_simp⟩) hS4 ?_
        try simp only [Act.put, zq1, zq2, zq3]
        refine wpAnyH_done (by kernel_rfl) ?_ _
        have KQ : Kep (fun b => b = gn) v3 ((v3.setCell ⟨gn, 0, none⟩ (.slice E1 2 f1)).setCell ⟨gn, 1, none⟩ (.slice E2 3 f2)) := Kep.set (S := fun b => b = gn) (Kep.set (S := fun b => b = gn) (Kep.refl _ _) rfl _) rfl _
        obtain ⟨_, OO1⟩ := OO1
        obtain ⟨_, OO2⟩ := OO2
        go_wp2_with fail
        go_meet
        exact ⟨gn, E1, f1, E2, f2, rfl, rfl, rfl, Lib.hid ⟨⟨(QB.set 0 _).set 1 _, hh_of (own_rsC (OO1.kep KQ (fun i e e' => own_ne OO1 QB (by decide) (e' ▸ e)))) (own_rsP (OO2.kep KQ (fun i e e' => own_ne OO2 QB (by decide) (e' ▸ e)))) (by decide) (by decide) aw2_wd⟩, hS4⟩⟩
    · go_simp
      refine hK.out _ _ (hS0.alloc _) (fun hS1 => ?_)
      clear hK K
      try simp only [Act.put, zq1, zq2, zq3]
      have gnb := Blk.new w6 #[.slice none 0 0, .slice none 0 0] 25
      have gnl := Lib.hid (Below.size hS0)
      generalize hvq : World.alloc w6 (Obj.cells #[.slice none 0 0, .slice none 0 0] 25) = v1 at gnb hS1 ⊢
      have gnk : Bel w6 v1 := by rw [← hvq]; exact (Bel.refl _).alloc _
      clear hvq
      obtain ⟨gn, hgq⟩ : ∃ g, (World.heap w6).size = g := ⟨_, rfl⟩
      rw [hgq] at gnb gnl ⊢
      clear hgq
      have gnb := Lib.hid gnb
      refine wpAnyH_ready (rs := [1]) (by kernel_rfl) (by simp) ?_
      refine AllReadyH.cons (o := { dst := some 27, op := .call { callee := .value (.func 50), args := #[.const (Value.int IntKind.i64 2), .const (Value.int IntKind.i64 5)], argTypes := #[3, 3] }, type := 37, pos := "outright.go:33", after := #[], guard := none }) rfl (fun K hK => ?_) AllReadyH.nil
      go_simp
      refine (AT.out 2 5 _).mono ?_
      rintro e v2 ⟨rfl, ka⟩
      go_wp2_with fail
      refine hK.out _ _ (hS1.trans ka) (fun hS2 => ?_)
      clear hK K
      try simp only [Act.put, zq1, zq2, zq3]
      refine wpAnyH_ready (rs := [2]) (by kernel_rfl) (by simp) ?_
      refine AllReadyH.cons (o := { dst := some 28, op := .call { callee := .value (.func 51), args := #[.tmp 26, .const (Value.int IntKind.i64 1), .tmp 27, .const (Value.int IntKind.u64 5)], argTypes := #[25, 3, 37, 32] }, type := 80, pos := "outright.go:33", after := #[{ on := 0, ground := .data }, { on := 1, ground := .data }, { on := 1, ground := .chain }], guard := none }) rfl (fun K hK => ?_) AllReadyH.nil
      go_simp
      refine (LE.out _ hS2).mono ?_
      rintro e v3 ⟨E1, f1, E2, f2, rfl, own1, own2, kb⟩
      go_wp2_with fail
      refine hK.out _ _ (hS2.trans kb) (fun hS3 => ?_)
      clear hK K
      try simp only [Act.put, zq1, zq2, zq3]
      refine ztk 3 { dst := some 25, op := .move (.tmp 28), type := 80, pos := "outright.go:33", after := #[{ on := 2, ground := .data }], guard := none } (.tuple #[.agg #[.slice E1 2 f1, .slice E2 3 f2], .int .u64 4, .int .i64 0]) (Or.inl ⟨by rfl, by intro w hSw; clear hSw; go_simp⟩) hS3 ?_
      try simp only [Act.put, zq1, zq2, zq3]
      refine ztk 4 { dst := some 29, op := .extract (.tmp 25) 0, type := 25, pos := "outright.go:33", after := #[{ on := 3, ground := .data }], guard := none } (.agg #[.slice E1 2 f1, .slice E2 3 f2]) (Or.inl ⟨by rfl, by intro w hSw; clear hSw; go_simp⟩) hS3 ?_
      try simp only [Act.put, zq1, zq2, zq3]
      refine ztk 5 { dst := some 30, op := .extract (.tmp 25) 1, type := 32, pos := "outright.go:33", after := #[{ on := 3, ground := .data }, { on := 8, ground := .gcOnly .lateStores }], guard := none } (.int .u64 4) (Or.inl ⟨by rfl, by intro w hSw; clear hSw; go_simp⟩) hS3 ?_
      try simp only [Act.put, zq1, zq2, zq3]
      refine ztk 6 { dst := some 31, op := .extract (.tmp 25) 2, type := 30, pos := "outright.go:33", after := #[{ on := 3, ground := .data }, { on := 9, ground := .gcOnly .lateStores }], guard := none } (.int .i64 0) (Or.inl ⟨by rfl, by intro w hSw; clear hSw; go_simp⟩) hS3 ?_
      try simp only [Act.put, zq1, zq2, zq3]
      refine wpAnyH_ready (rs := [8]) (by kernel_rfl) (by simp) ?_
      refine AllReadyH.cons (o := { dst := none, op := .store 25 (.tmp 7) (.tmp 29), type := 0, pos := "outright.go:33", after := #[{ on := 7, ground := .data }, { on := 4, ground := .data }, { on := 2, ground := .chain }, { on := 0, ground := .phase }, { on := 1, ground := .phase }, { on := 2, ground := .phase }, { on := 3, ground := .phase }, { on := 4, ground := .phase }, { on := 5, ground := .textOnly .lateStores }, { on := 6, ground := .textOnly .lateStores }, { on := 7, ground := .phase }], guard := none }) rfl (fun K hK => ?_) AllReadyH.nil
      have QB : Blk v3 gn #[.slice none 0 0, .slice none 0 0] 25 := by first | exact gnb.out | exact gnb.out.bel kb | exact (gnb.out.bel ka).bel kb
      have OB1 : RS cC v3 E1 2 f1 aw2C := by first | exact own_rsC (OwnR.bel own1 gnk) | exact own_rsC own1
      have OB2 : RS cP v3 E2 3 f2 aw2P := by first | exact own_rsP (OwnR.bel own2 gnk) | exact own_rsP own2
      have OO1 : ∃ base, OwnR cC 90 v3 base (.slice E1 2 f1) aw2C := by first | exact ⟨_, OwnR.bel own1 gnk⟩ | exact ⟨_, own1⟩
      have OO2 : ∃ base, OwnR cP 93 v3 base (.slice E2 3 f2) aw2P := by first | exact ⟨_, OwnR.bel own2 gnk⟩ | exact ⟨_, own2⟩
      have q0 := QB.cell 0 rfl
      have q1 := QB.cell 1 rfl
      have qf0 := QB.frozen 0
      have qf1 := QB.frozen 1
      go_simp
      refine hK.out _ _ ((hS3.set (p := ⟨gn, 0, none⟩) gnl.out _).set (p := ⟨gn, 1, none⟩) gnl.out _) (fun hS4 => ?_)
      clear hK K
      try simp only [Act.put, zq1, zq2, zq3]
      refine ztk 9 { dst := some 8, op := .assign (.tmp 30), type := 32, pos := "outright.go:33", after := #[{ on := 5, ground := .data }, { on := 8, ground := .chain }, { on := 0, ground := .phase }, { on := 1, ground := .phase }, { on := 2, ground := .phase }, { on := 3, ground := .phase }, { on := 4, ground := .phase }, { on := 5, ground := .phase }, { on := 6, ground := .textOnly .lateStores }, { on := 7, ground := .phase }, { on := 8, ground := .phase }], guard := none } (.int .u64 4) (Or.inl ⟨by rfl, by intro w hSw; clear hSw; go_simp⟩) hS4 ?_
      try simp only [Act.put, zq1, zq2, zq3]
      refine ztk 10 { dst := some 9, op := .assign (.tmp 31), type := 30, pos := "outright.go:33", after := #[{ on := 6, ground := .data }, { on := 9, ground := .chain }, { on := 0, ground := .phase }, { on := 1, ground := .phase }, { on := 2, ground := .phase }, { on := 3, ground := .phase }, { on := 4, ground := .phase }, { on := 5, ground := .phase }, { on := 6, ground := .phase }, { on := 7, ground := .phase }, { on := 8, ground := .phase }, { on := 9, ground := .phase }], guard := none } (.int .i64 0) (Or.inl ⟨by rfl, by intro w hSw; clear hSw; go_simp⟩) hS4 ?_
      try simp only [Act.put, zq1, zq2, zq3]
      refine wpAnyH_done (by kernel_rfl) ?_ _
      have KQ : Kep (fun b => b = gn) v3 ((v3.setCell ⟨gn, 0, none⟩ (.slice E1 2 f1)).setCell ⟨gn, 1, none⟩ (.slice E2 3 f2)) := Kep.set (S := fun b => b = gn) (Kep.set (S := fun b => b = gn) (Kep.refl _ _) rfl _) rfl _
      obtain ⟨_, OO1⟩ := OO1
      obtain ⟨_, OO2⟩ := OO2
      go_wp2_with fail
      go_meet
      exact ⟨gn, E1, f1, E2, f2, rfl, rfl, rfl, Lib.hid ⟨⟨(QB.set 0 _).set 1 _, hh_of (own_rsC (OO1.kep KQ (fun i e e' => own_ne OO1 QB (by decide) (e' ▸ e)))) (own_rsP (OO2.kep KQ (fun i e e' => own_ne OO2 QB (by decide) (e' ▸ e)))) (by decide) (by decide) aw2_wd⟩, hS4⟩⟩
  case rest =>
    obtain ⟨q, E1, f1, E2, f2, rfl, rfl, rfl, hh⟩ := hcut
    have VF := Lib.hid hh.out.1
    have BF := Lib.hid hh.out.2
    have KF := Lib.hid (KY.out.trans BF.out)
    have OL := Lib.hid (OL.out.bel BF.out)
    clear hh LE VG g0 g1 KY BF
    have VA := Lib.hid (fun Z hZ => value_ E1 2 f1 E2 3 f2 aw2C aw2P 0 2 5 (-1) 0 Z (VF.out.hh.bel hZ))
    replace VA := Lib.hid (show ∀ Z, Bel wc Z → Calls Tryz.prog 24 #[.agg #[.slice E1 2 f1, .slice E2 3 f2], .int .i64 0, .agg #[.int .i64 2, .int .i64 5, .int .i64 (-1), .int .i64 0]] Z fun r w' => r = .returned (.tuple #[.int .u64 9, .int .i64 0]) ∧ Bel Z w' from fun Z hZ => by
      have h := VA.out Z hZ
      rw [show (if chkH aw2C aw2P = 0 then vaN (polT aw2C (2, 5, -1, 0, 0, 0)) (polS aw2C (2, 5, -1, 0, 0, 0)) (shs aw2P (0, 2, 5, -1, 0, 0)) else 0) = 9 by kernel_rfl, show chE aw2C aw2P (vaE (polT aw2C (2, 5, -1, 0, 0, 0)) (polS aw2C (2, 5, -1, 0, 0, 0)) (shs aw2P (0, 2, 5, -1, 0, 0))) = 0 by kernel_rfl] at h
      exact h)
    have OW := Lib.hid (show ∀ Z, Bel wc Z → Calls Tryz.prog 26 #[.agg #[.slice E1 2 f1, .slice E2 3 f2], .int .i64 1, .int .i64 2] Z fun r w' => r = .returned (.tuple #[.int .u64 4, .int .i64 0]) ∧ Bel Z w' from fun Z hZ => by
      have h := own_ E1 2 f1 E2 3 f2 aw2C aw2P 1 2 Z (VF.out.hh.bel hZ)
      rw [show (if chkH aw2C aw2P = 0 then owN aw2C aw2P 1 2 else 0) = 4 by kernel_rfl, show chkH aw2C aw2P = 0 by kernel_rfl] at h
      exact h)
    go_upto_region 4 with fail
    refine wp_region_held_drew (S := fun Vx => Bel wc Vx) (by kernel_rfl) (Bel.refl _).drew (fun hS0 => ?_)
    obtain ⟨w6, hw6⟩ : ∃ w6, World.drew wc = w6 := ⟨_, rfl⟩
    rw [hw6] at hS0 ⊢
    clear hw6
    refine ztk 0 { dst := some 33, op := .load 25 (.tmp 7), type := 25, pos := "outright.go:34", after := #[], guard := none } (.agg #[.slice E1 2 f1, .slice E2 3 f2]) (yieldsIf_load_mid (by rfl) _ _ rfl _ _ rfl _ _ (fun w h => rng_bel (rngB (C := [.slice E1 2 f1, .slice E2 3 f2]) VF.out.blk) h) Tryz.underlying25 rfl info_h) hS0 ?_
    try simp only [Act.put, zq1, zq2, zq3]
    refine wpAnyH_ready (rs := [1]) (by kernel_rfl) (by simp) ?_
    refine AllReadyH.cons (o := { dst := some 34, op := .call { callee := .value (.func 50), args := #[.const (Value.int IntKind.i64 2), .const (Value.int IntKind.i64 5)], argTypes := #[3, 3] }, type := 37, pos := "outright.go:34", after := #[], guard := none }) rfl (fun K hK => ?_) AllReadyH.nil
    go_simp
    refine (AT.out 2 5 _).mono ?_
    rintro e v1 ⟨rfl, kb⟩
    go_wp2_with fail
    refine hK.out _ _ (hS0.trans kb) (fun hS1 => ?_)
    clear hK K
    try simp only [Act.put, zq1, zq2, zq3]
    refine wpAnyH_ready (rs := [2]) (by kernel_rfl) (by simp) ?_
    refine AllReadyH.cons (o := { dst := some 35, op := .call { callee := .value (.func 24), args := #[.tmp 33, .const (Value.int IntKind.i64 0), .tmp 34], argTypes := #[25, 3, 37] }, type := 49, pos := "outright.go:34", after := #[{ on := 0, ground := .data }, { on := 1, ground := .data }, { on := 1, ground := .chain }], guard := none }) rfl (fun K hK => ?_) AllReadyH.nil
    go_simp
    refine (VA.out _ hS1).mono ?_
    rintro e v2 ⟨rfl, kb⟩
    go_wp2_with fail
    refine hK.out _ _ (hS1.trans kb) (fun hS2 => ?_)
    clear hK K
    try simp only [Act.put, zq1, zq2, zq3]
    refine ztk 3 { dst := some 32, op := .move (.tmp 35), type := 49, pos := "outright.go:34", after := #[{ on := 2, ground := .data }], guard := none } (.tuple #[.int .u64 9, .int .i64 0]) (Or.inl ⟨by rfl, by intro w hSw; clear hSw; go_simp⟩) hS2 ?_
    try simp only [Act.put, zq1, zq2, zq3]
    refine ztk 4 { dst := some 36, op := .extract (.tmp 32) 0, type := 32, pos := "outright.go:34", after := #[{ on := 3, ground := .data }], guard := none } (.int .u64 9) (Or.inl ⟨by rfl, by intro w hSw; clear hSw; go_simp⟩) hS2 ?_
    try simp only [Act.put, zq1, zq2, zq3]
    refine ztk 5 { dst := some 37, op := .extract (.tmp 32) 1, type := 30, pos := "outright.go:34", after := #[{ on := 3, ground := .data }, { on := 6, ground := .gcOnly .lateStores }], guard := none } (.int .i64 0) (Or.inl ⟨by rfl, by intro w hSw; clear hSw; go_simp⟩) hS2 ?_
    try simp only [Act.put, zq1, zq2, zq3]
    refine ztk 6 { dst := some 10, op := .assign (.tmp 36), type := 32, pos := "outright.go:34", after := #[{ on := 4, ground := .data }, { on := 2, ground := .chain }, { on := 0, ground := .phase }, { on := 1, ground := .phase }, { on := 2, ground := .phase }, { on := 3, ground := .phase }, { on := 4, ground := .phase }, { on := 5, ground := .textOnly .lateStores }], guard := none } (.int .u64 9) (Or.inl ⟨by rfl, by intro w hSw; clear hSw; go_simp⟩) hS2 ?_
    try simp only [Act.put, zq1, zq2, zq3]
    refine ztk 7 { dst := some 11, op := .assign (.tmp 37), type := 30, pos := "outright.go:34", after := #[{ on := 5, ground := .data }, { on := 6, ground := .chain }, { on := 0, ground := .phase }, { on := 1, ground := .phase }, { on := 2, ground := .phase }, { on := 3, ground := .phase }, { on := 4, ground := .phase }, { on := 5, ground := .phase }, { on := 6, ground := .phase }], guard := none } (.int .i64 0) (Or.inl ⟨by rfl, by intro w hSw; clear hSw; go_simp⟩) hS2 ?_
    try simp only [Act.put, zq1, zq2, zq3]
    refine wpAnyH_done (by kernel_rfl) ?_ _
    have HE := Lib.hid hS2
    have f0 := (VF.out.blk.bel HE.out).cell 0 rfl
    have f1 := (VF.out.blk.bel HE.out).cell 1 rfl
    go_wp2_with fail
    refine (OW.out _ HE.out).mono ?_
    rintro r Z ⟨rfl, kb⟩
    have HZ := Lib.hid (HE.out.trans kb)
    clear kb f0 f1 HE
    go_wp2_with fail
    refine (AT.out 2 5 _).mono ?_
    rintro r Z2 ⟨rfl, kb⟩
    have HZ2 := Lib.hid (HZ.out.trans kb)
    obtain ⟨Z3, hZ3⟩ : ∃ X, Z2.alloc (.cells #[.int .i64 2, .int .i64 5, .int .i64 (-1), .int .i64 0, .int .u64 2] 84) = X := ⟨_, rfl⟩
    have BZ := Lib.hid (show Bel Z2 Z3 by rw [← hZ3]; exact (Bel.refl Z2).alloc _)
    have LB := Lib.hid (show Rw.RS wL Z3 (some ⟨Z2.heap.size, 0, none⟩) 1 1 [(2, 5, -1, 0, 2)] from Rw.rs_one wL (r := (2, 5, -1, 0, 2)) (by rw [← hZ3]; exact Blk.new _ _ _))
    have SL := Lib.hid (show Calls Tryz.prog 19 #[.slice B3 1 d3, .slice (some ⟨Z2.heap.size, 0, none⟩) 1 1] Z3 fun e w' => e = .returned (.bool true) ∧ Bel Z3 w' by
      obtain ⟨A, c, e, r⟩ := (OL.out.bel (HZ2.out.trans BZ.out)).slice
      injection e with e1 e2 e3
      subst e1 e3
      have h := same_losses _ (some ⟨Z2.heap.size, 0, none⟩) 1 _ 1 1 _ _ Z3 r LB.out (by decide) (by decide)
      rw [show decide (List.map r5 [(2, 5, -1, 0, 2, 0)] = [(2, 5, -1, 0, 2)]) = true by decide] at h
      exact h)
    clear kb
    go_wp2_with fail
    try rw [hZ3]
    refine SL.out.mono ?_
    rintro r Z4 ⟨rfl, kb⟩
    have HZ4 := Lib.hid (KF.out.trans (HZ2.out.trans (BZ.out.trans kb)))
    clear kb
    go_wp2_with fail
    go_ret
    exact ⟨rfl, HZ4.out⟩
end Ho
end Go.Proofs.YtneajcoiemkfbaaGreat
end
