/-
  The law HoldingDrifts returns true. Conditions: the acts' numbers are of their kinds.
-/
import Derived.Test.YtneajcoiemkfbaaGreatTk
import Derived.Test.YtneajcoiemkfbaaGreatCP
import Derived.Test.YtneajcoiemkfbaaGreatCV
import Derived.Test.YtneajcoiemkfbaaGreatCW
namespace Go.Proofs.YtneajcoiemkfbaaGreat
open Go.RowKit Go.Shelf
set_option linter.unusedVariables false
set_option linter.unusedSimpArgs false
namespace Ho
open Kk Pm

theorem gr_bel {w w' : World} {v : Value} {P : Int} {L : Nat} (h : Gt.Gr w v P L) (hb : Bel w w') : Gt.Gr w' v P L := Gt.Gr.bel h hb
theorem great_ (N : Int) (w : World) (n0 : 0 ≤ N) (n1 : N ≤ 18446744073709551615) : Calls Tryz.prog 59 #[.int .u64 N] w fun e w' => ∃ v, e = .returned v ∧ Gt.Gr w' v N 4 ∧ Bel w w' := Gt.great N w n0 n1
theorem times_ (v u : Value) (P Q : Int) (L M : Nat) (w : World) (hp : Gt.Gr w v P L) (hq : Gt.Gr w u Q M) (hL : L ≤ 100000) (hM : M ≤ 100000) : Calls Tryz.prog 58 #[v, u] w fun e w' => ∃ r, e = .returned r ∧ Gt.Gr w' r (P * Q) (L + M + 1) ∧ Bel w w' := Gt.times v u P Q L M w hp hq hL hM
theorem sum_ (v u : Value) (P Q : Int) (L M : Nat) (w : World) (hp : Gt.Gr w v P L) (hq : Gt.Gr w u Q M) (hL : L ≤ 100000) (hM : M ≤ 100000) : Calls Tryz.prog 61 #[v, u] w fun e w' => ∃ r, e = .returned r ∧ Gt.Gr w' r (P + Q) (L + M + 1) ∧ Bel w w' := Gt.sum v u P Q L M w hp hq hL hM
theorem less_ (v u : Value) (P Q : Int) (L M : Nat) (w : World) (hp : Gt.Gr w v P L) (hq : Gt.Gr w u Q M) (hL : L ≤ 100000) (hM : M ≤ 100000) : Calls Tryz.prog 60 #[v, u] w fun e w' => e = .returned (.bool (decide (P < Q))) ∧ Bel w w' := Gt.less v u P Q L M w hp hq hL hM
/-- A variable that holds a holding that may be, whose rows are of newer memory. -/
structure Vq (V : World) (g b0 : Nat) (A : Option Addr) (n c : Nat) (B : Option Addr) (m d : Nat) (cs ps : List R6) : Prop where
  blk : Blk V g #[.slice A n c, .slice B m d] 25
  oc : OwnR cC 90 V b0 (.slice A n c) cs
  op : OwnR cP 93 V b0 (.slice B m d) ps
  hd : Hd6 cs ps
theorem Vq.bel {V V' : World} {g b0 : Nat} {A : Option Addr} {n c : Nat} {B : Option Addr} {m d : Nat} {cs ps : List R6} (h : Vq V g b0 A n c B m d cs ps) (hb : Bel V V') : Vq V' g b0 A n c B m d cs ps := ⟨h.blk.bel hb, h.oc.bel hb, h.op.bel hb, h.hd⟩
theorem Vq.hh {V : World} {g b0 : Nat} {A : Option Addr} {n c : Nat} {B : Option Addr} {m d : Nat} {cs ps : List R6} (h : Vq V g b0 A n c B m d cs ps) (hm : ps.length ≤ 1000000) : HH V A n c B m d cs ps := by
  have h1 := own_rsC h.oc
  have h2 := own_rsP h.op
  have e1 := h1.len
  have e2 := h2.len
  exact ⟨h1, h2, by have := h.hd.ok.len; omega, by omega, h.hd.wc, h.hd.wp⟩
theorem Vq.put {V : World} {g b0 : Nat} {A : Option Addr} {n c : Nat} {B : Option Addr} {m d : Nat} {cs ps : List R6} (h : Vq V g b0 A n c B m d cs ps) {A' : Option Addr} {n' c' : Nat} {B' : Option Addr} {m' d' base : Nat} {cs' ps' : List R6} (o1 : OwnR cC 90 V base (.slice A' n' c') cs') (o2 : OwnR cP 93 V base (.slice B' m' d') ps') (hb : b0 ≤ base) (hd : Hd6 cs' ps') :
    Vq ((V.setCell ⟨g, 0, none⟩ (.slice A' n' c')).setCell ⟨g, 1, none⟩ (.slice B' m' d')) g b0 A' n' c' B' m' d' cs' ps' := by
  have K : Kep (fun b => b = g) V ((V.setCell ⟨g, 0, none⟩ (.slice A' n' c')).setCell ⟨g, 1, none⟩ (.slice B' m' d')) := Kep.set (S := fun b => b = g) (Kep.set (S := fun b => b = g) (Kep.refl _ _) rfl _) rfl _
  exact ⟨(h.blk.set 0 _).set 1 _, (o1.mono hb).kep K (fun i e e' => own_ne o1 h.blk (by decide) (e' ▸ e)), (o2.mono hb).kep K (fun i e e' => own_ne o2 h.blk (by decide) (e' ▸ e)), hd⟩
theorem find_of {V : World} {A : Option Addr} {n c : Nat} {B : Option Addr} {m d : Nat} {cs ps : List R6} (hh : HH V A n c B m d cs ps) (hd : Hd6 cs ps) {r1 r2 r3 r4 r5 s : Int} (hs : shs ps (r1, r2, r3, r4, r5, 0) = s) (s0 : 0 < s) :
    Calls Tryz.prog 22 #[.agg #[.slice A n c, .slice B m d], .agg #[.int .i64 r2, .int .i64 r3, .int .i64 r4, .int .i64 r5]] V fun r w' => r = .returned (.tuple #[.agg #[.int .u64 (polT cs (r2, r3, r4, r5, 0, 0)), .int .u64 (polS cs (r2, r3, r4, r5, 0, 0))], .bool true]) ∧ Bel V w' := by
  have h := find_ A n c B m d cs r2 r3 r4 r5 V hh.cls hh.cn
  obtain ⟨e1, e2⟩ := fnT_pol hd.ok.sc r2 r3 r4 r5
  rw [e1, e2, fnd_some hd hs s0] at h
  exact h

set_option maxRecDepth 100000 in
set_option maxHeartbeats 32000000 in
theorem driftsLaw (A : Option Addr) (n c : Nat) (B : Option Addr) (m d0 : Nat) (z : Int) (w : World) (hn : n ≤ 9223372036854775807) (hm : m ≤ 9223372036854775807) (ha : Acts w A n) (hb : Acts w B m) (z0 : -9223372036854775808 ≤ z) (z1 : z ≤ 9223372036854775807) :
    Calls Tryz.prog 9 #[.slice A n c, .slice B m d0, .int .i64 z] w fun r w' => r = .returned (.bool true) ∧ Bel w w' := by
  have HA := Lib.hid ha
  have HB := Lib.hid hb
  have HZ := Lib.hid (⟨z0, z1⟩ : -9223372036854775808 ≤ z ∧ z ≤ 9223372036854775807)
  clear ha hb z0 z1
  have KN := Lib.hid (known w)
  go_enter Tryz.func9, Tryz.ntmps9
  go_wp2_with fail
  refine KN.out.mono ?_
  rintro r W ⟨rfl, kb⟩
  have BW := Lib.hid kb
  clear kb KN
  by_cases h30 : n ≤ 30
  case neg =>
    have h31 : (30 : Int) < n := by omega
    go_wp2_with fail
    go_ret
    exact ⟨rfl, BW.out⟩
  have h31 : ¬ (30 : Int) < n := by omega
  by_cases h20 : m ≤ 20
  case neg =>
    have h21 : (20 : Int) < m := by omega
    go_wp2_with fail
    go_ret
    exact ⟨rfl, BW.out⟩
  have h21 : ¬ (20 : Int) < m := by omega
  have MD := Lib.hid (made_ A n c W h30 (HA.out.bel BW.out))
  go_wp2_with fail
  refine MD.out.mono ?_
  rintro r U ⟨F1, n1, f1, F2, n2, f2, cs0, ps0, rfl, o1, o2, hd, hpl, kb⟩
  obtain ⟨V, hV⟩ : ∃ V, U.alloc (.cells #[.slice F1 n1 f1, .slice F2 n2 f2] 25) = V := ⟨_, rfl⟩
  have BV0 := Lib.hid (show Bel U V by rw [← hV]; exact (Bel.refl _).alloc _)
  have BV := Lib.hid (BW.out.trans (kb.trans BV0.out))
  have VH := Lib.hid (show Vq V U.heap.size w.heap.size F1 n1 f1 F2 n2 f2 cs0 ps0 from ⟨by rw [← hV]; exact Blk.new _ _ _, (o1.bel BV0.out).mono (Below.size BW.out), (o2.bel BV0.out).mono (Below.size BW.out), hd⟩)
  have HPL := Lib.hid hpl
  have HGE := Lib.hid (show w.heap.size ≤ U.heap.size from Nat.le_trans (Below.size BW.out) (Below.size kb))
  clear o1 o2 hd hpl kb MD BW
  go_upto_region 5 with fail
  try rw [hV]
  obtain ⟨g, hg⟩ : ∃ g, U.heap.size = g := ⟨_, rfl⟩
  rw [hg] at VH HGE ⊢
  clear hg hV BV0
  have u0 := VH.out.blk.cell 0 rfl
  have u1 := VH.out.blk.cell 1 rfl
  by_cases hn0 : n2 = 0
  · subst hn0
    go_wp2_with fail
    go_ret
    exact ⟨rfl, BV.out⟩
  have hn2 : (0 : Int) < n2 := by omega
  have hnb : ((n2 : Int) == 0) = false := by rw [beq_eq_false_iff_ne]; omega
  have RP := own_rsP VH.out.op
  have hle : n2 ≤ 30 := by have h1 := RP.len; have := HPL.out; omega
  have i0 := Int.emod_nonneg z (b := (n2 : Int)) (by omega)
  have i1 := Int.emod_lt_of_pos z hn2
  obtain ⟨j, hj⟩ : ∃ j : Nat, (j : Int) = HMod.hMod z (n2 : Int) := ⟨(HMod.hMod z (n2 : Int)).toNat, by omega⟩
  have PK := Lib.hid (fun V => pick z n2 V HZ.out.1 HZ.out.2 hn2 (by omega))
  rw [← hj] at PK i1
  have hlt : j < n2 := by omega
  have hlt3 : (j : Int) < n2 := by omega
  have hj0 : (0 : Int) ≤ j := by omega
  obtain ⟨⟨r1, r2, r3, r4, r5, r6⟩, hr⟩ := RP.get hlt
  obtain ⟨bF, oF, rfl, _, hrow⟩ := RP.at hlt hr
  have hrm := List.mem_of_getElem? hr
  have hpo := VH.out.hd.ok.po _ hrm
  have hck := ck_pos VH.out.hd.ok hrm
  have hwr := VH.out.hd.wp _ hrm
  have h6 : 0 < r6 := by
    have h1 : 0 ≤ r6 := hwr.1
    have h2 : r6 ≠ 0 := hpo.2.2.1
    omega
  have H6 := Lib.hid (⟨h6, hwr.2⟩ : 0 < r6 ∧ r6 ≤ 18446744073709551615)
  have HCK := Lib.hid hck
  have HSH := Lib.hid (show shs ps0 (r1, r2, r3, r4, r5, 0) = r6 by
    have e0 : ordP (r1, r2, r3, r4, r5, r6) (r1, r2, r3, r4, r5, 0) = 0 := odP.self (r1, r2, r3, r4, r5, 0)
    have hg := get_mem odP VH.out.hd.ok.sp hrm e0
    unfold shs
    rw [hg]
    rfl)
  have HRW := Lib.hid (show V.rangeAt bF (oF + j * 6) [.int .i64 r1, .int .i64 r2, .int .i64 r3, .int .i64 r4, .int .i64 r5, .int .u64 r6] from hrow)
  clear hr hrow hrm hpo hck hwr h6 RP hj i0 i1 u0 u1 hn0
  have u1 := VH.out.blk.cell 1 rfl
  go_upto_region 9 with fail
  refine wp_region_held_drew (S := fun Vx => Bel V Vx) (by kernel_rfl) (Bel.refl _).drew (fun hS0 => ?_)
  obtain ⟨w6, hw6⟩ : ∃ w6, World.drew V = w6 := ⟨_, rfl⟩
  rw [hw6] at hS0 ⊢
  clear hw6
  refine ztk 0 { dst := some 47, op := .fieldAddr 25 (.tmp 8) 1, type := 0, pos := "outright.go:221", after := #[], guard := none } (.pointer (some ⟨g, 1, none⟩)) (Or.inl ⟨by rfl, by intro w hSw; clear hSw; go_simp⟩) hS0 ?_
  try simp only [Act.put, zq1, zq2, zq3]
  refine ztk 1 { dst := some 48, op := .load 23 (.tmp 47), type := 23, pos := "outright.go:221", after := #[{ on := 0, ground := .data }], guard := none } (.slice (some ⟨bF, oF, none⟩) n2 f2) (Or.inl ⟨by rfl, by intro w h; have hcell := ((VH.out.blk.bel h).cell 1 rfl); clear h; go_simp⟩) hS0 ?_
  try simp only [Act.put, zq1, zq2, zq3]
  refine ztk 2 { dst := some 49, op := .move (.tmp 2), type := 3, pos := "outright.go:221", after := #[], guard := none } (.int .i64 z) (Or.inl ⟨by rfl, by intro w hSw; clear hSw; go_simp⟩) hS0 ?_
  try simp only [Act.put, zq1, zq2, zq3]
  refine ztk 3 { dst := some 50, op := .fieldAddr 25 (.tmp 8) 1, type := 0, pos := "outright.go:221", after := #[], guard := none } (.pointer (some ⟨g, 1, none⟩)) (Or.inl ⟨by rfl, by intro w hSw; clear hSw; go_simp⟩) hS0 ?_
  try simp only [Act.put, zq1, zq2, zq3]
  refine ztk 4 { dst := some 51, op := .load 23 (.tmp 50), type := 23, pos := "outright.go:221", after := #[{ on := 3, ground := .data }], guard := none } (.slice (some ⟨bF, oF, none⟩) n2 f2) (Or.inl ⟨by rfl, by intro w h; have hcell := ((VH.out.blk.bel h).cell 1 rfl); clear h; go_simp⟩) hS0 ?_
  try simp only [Act.put, zq1, zq2, zq3]
  refine ztk 5 { dst := some 52, op := .call { callee := .builtin .len, args := #[.tmp 51], argTypes := #[23] }, type := 3, pos := "outright.go:221", after := #[{ on := 4, ground := .data }], guard := none } (.int .i64 n2) (Or.inl ⟨by rfl, by intro w hSw; clear hSw; go_simp⟩) hS0 ?_
  try simp only [Act.put, zq1, zq2, zq3]
  refine Rw.still_take (i := 6) (x := { dst := some 53, op := .call { callee := .value (.func 55), args := #[.tmp 49, .tmp 52], argTypes := #[3, 3] }, type := 3, pos := "outright.go:221", after := #[{ on := 2, ground := .data }, { on := 5, ground := .data }], guard := none }) (v := .int .i64 j) rfl (by kernel_rfl) (by kernel_rfl) (by kernel_rfl) (fun _ _ _ h => h) ⟨by rfl, 55, #[.int .i64 z, .int .i64 n2], by intro w hSw; clear hSw; go_simp, fun w h => PK.out w⟩ hS0 ?_
  try simp only [Act.put, zq1, zq2, zq3]
  refine ztk 7 { dst := some 54, op := .indexAddr 23 (.tmp 48) (.tmp 53), type := 0, pos := "outright.go:221", after := #[{ on := 1, ground := .data }, { on := 6, ground := .data }], guard := none } (.pointer (some ⟨bF, oF + j * 6, none⟩)) (Or.inl ⟨by rfl, by intro w hSw; clear hSw; go_simp⟩) hS0 ?_
  try simp only [Act.put, zq1, zq2, zq3]
  refine ztk 8 { dst := some 55, op := .load 93 (.tmp 54), type := 93, pos := "outright.go:221", after := #[{ on := 7, ground := .data }], guard := none } (.agg #[.int .i64 r1, .int .i64 r2, .int .i64 r3, .int .i64 r4, .int .i64 r5, .int .u64 r6]) (yieldsIf_load_mid (by rfl) _ _ rfl _ _ rfl _ _ (fun w h => rng_bel HRW.out h) Tryz.underlying93 rfl info_p) hS0 ?_
  try simp only [Act.put, zq1, zq2, zq3]
  refine wpAnyH_ready (rs := [9]) (by kernel_rfl) (by simp) ?_
  refine AllReadyH.cons (o := { dst := some 10, op := .alloc 93, type := 0, pos := "outright.go:221", after := #[], guard := none }) rfl (fun K hK => ?_) AllReadyH.nil
  go_simp
  refine hK.out _ _ (hS0.alloc _) (fun hS1 => ?_)
  clear hK K
  try simp only [Act.put, zq1, zq2, zq3]
  have gpb := Blk.new w6 #[.int .i64 0, .int .i64 0, .int .i64 0, .int .i64 0, .int .i64 0, .int .u64 0] 93
  have gpl := Lib.hid (Below.size hS0)
  generalize hvq : World.alloc w6 (Obj.cells #[.int .i64 0, .int .i64 0, .int .i64 0, .int .i64 0, .int .i64 0, .int .u64 0] 93) = v1 at gpb hS1 ⊢
  have gpk : Bel w6 v1 := by rw [← hvq]; exact (Bel.refl _).alloc _
  clear hvq
  obtain ⟨gp, hgq⟩ : ∃ g, (World.heap w6).size = g := ⟨_, rfl⟩
  rw [hgq] at gpb gpl ⊢
  clear hgq
  have gpb := Lib.hid gpb
  refine wpAnyH_ready (rs := [10]) (by kernel_rfl) (by simp) ?_
  refine AllReadyH.cons (o := { dst := none, op := .store 93 (.tmp 10) (.tmp 55), type := 0, pos := "outright.go:221", after := #[{ on := 9, ground := .data }, { on := 8, ground := .data }, { on := 6, ground := .chain }, { on := 0, ground := .phase }, { on := 1, ground := .phase }, { on := 2, ground := .phase }, { on := 3, ground := .phase }, { on := 4, ground := .phase }, { on := 5, ground := .phase }, { on := 6, ground := .phase }, { on := 7, ground := .phase }, { on := 8, ground := .phase }, { on := 9, ground := .phase }], guard := none }) rfl (fun K hK => ?_) AllReadyH.nil
  have QB : Blk v1 gp ([.int .i64 0, .int .i64 0, .int .i64 0, .int .i64 0, .int .i64 0, .int .u64 0] : List Value).toArray 93 := gpb.out
  obtain ⟨q0, q1, q2, q3, q4, q5⟩ : (_ ∧ _ ∧ _ ∧ _ ∧ _ ∧ _) := ⟨QB.cell 0 rfl, QB.cell 1 rfl, QB.cell 2 rfl, QB.cell 3 rfl, QB.cell 4 rfl, QB.cell 5 rfl⟩
  obtain ⟨qf0, qf1, qf2, qf3, qf4, qf5⟩ : (_ ∧ _ ∧ _ ∧ _ ∧ _ ∧ _) := ⟨QB.frozen 0, QB.frozen 1, QB.frozen 2, QB.frozen 3, QB.frozen 4, QB.frozen 5⟩
  go_simp
  refine hK.out _ _ ((((((hS1.set (p := ⟨gp, 0, none⟩) gpl.out _).set (p := ⟨gp, 1, none⟩) gpl.out _).set (p := ⟨gp, 2, none⟩) gpl.out _).set (p := ⟨gp, 3, none⟩) gpl.out _).set (p := ⟨gp, 4, none⟩) gpl.out _).set (p := ⟨gp, 5, none⟩) gpl.out _) (fun hS2 => ?_)
  clear hK K
  try simp only [Act.put, zq1, zq2, zq3]
  refine wpAnyH_done (by kernel_rfl) ?_ _
  have HE := Lib.hid hS2
  have PP := Lib.hid (bset (Y := [.int .i64 r1, .int .i64 r2, .int .i64 r3, .int .i64 r4, .int .i64 r5, .int .u64 0]) (Y' := [.int .i64 r1, .int .i64 r2, .int .i64 r3, .int .i64 r4, .int .i64 r5, .int .u64 r6]) (bset (Y := [.int .i64 r1, .int .i64 r2, .int .i64 r3, .int .i64 r4, .int .i64 0, .int .u64 0]) (Y' := [.int .i64 r1, .int .i64 r2, .int .i64 r3, .int .i64 r4, .int .i64 r5, .int .u64 0]) (bset (Y := [.int .i64 r1, .int .i64 r2, .int .i64 r3, .int .i64 0, .int .i64 0, .int .u64 0]) (Y' := [.int .i64 r1, .int .i64 r2, .int .i64 r3, .int .i64 r4, .int .i64 0, .int .u64 0]) (bset (Y := [.int .i64 r1, .int .i64 r2, .int .i64 0, .int .i64 0, .int .i64 0, .int .u64 0]) (Y' := [.int .i64 r1, .int .i64 r2, .int .i64 r3, .int .i64 0, .int .i64 0, .int .u64 0]) (bset (Y := [.int .i64 r1, .int .i64 0, .int .i64 0, .int .i64 0, .int .i64 0, .int .u64 0]) (Y' := [.int .i64 r1, .int .i64 r2, .int .i64 0, .int .i64 0, .int .i64 0, .int .u64 0]) (bset (Y := [.int .i64 0, .int .i64 0, .int .i64 0, .int .i64 0, .int .i64 0, .int .u64 0]) (Y' := [.int .i64 r1, .int .i64 0, .int .i64 0, .int .i64 0, .int .i64 0, .int .u64 0]) (QB) 0 (.int .i64 r1) rfl) 1 (.int .i64 r2) rfl) 2 (.int .i64 r3) rfl) 3 (.int .i64 r4) rfl) 4 (.int .i64 r5) rfl) 5 (.int .u64 r6) rfl)
  obtain ⟨X, hX⟩ : ∃ X, ((((((v1.setCell ⟨gp, 0, none⟩ (.int .i64 r1)).setCell ⟨gp, 1, none⟩ (.int .i64 r2)).setCell ⟨gp, 2, none⟩ (.int .i64 r3)).setCell ⟨gp, 3, none⟩ (.int .i64 r4)).setCell ⟨gp, 4, none⟩ (.int .i64 r5)).setCell ⟨gp, 5, none⟩ (.int .u64 r6)) = X := ⟨_, rfl⟩
  rw [hX] at PP HE ⊢
  clear hX QB q0 q1 q2 q3 q4 q5 qf0 qf1 qf2 qf3 qf4 qf5 hS2 u1 HRW PK
  have VX := Lib.hid (VH.out.bel HE.out)
  have BX := Lib.hid (BV.out.trans HE.out)
  clear VH BV HE
  have FI := Lib.hid (find_of (VX.out.hh (by have := HPL.out; omega)) VX.out.hd HSH.out H6.out.1)
  have hS0 : 0 < polS cs0 (r2, r3, r4, r5, 0, 0) := by
    have h1 := (VX.out.hd.shs r1 r2 r3 r4 r5).2
    rw [HSH.out] at h1
    have := H6.out.1
    omega
  have hDR := drift_0 r6 (polT cs0 (r2, r3, r4, r5, 0, 0)) (polS cs0 (r2, r3, r4, r5, 0, 0))
  have hPW := pol_ok VX.out.hd.ok VX.out.hd.wc (r2, r3, r4, r5, 0, 0)
  obtain ⟨T0, hT0⟩ : ∃ T, polT cs0 (r2, r3, r4, r5, 0, 0) = T := ⟨_, rfl⟩
  obtain ⟨S0, hS0e⟩ : ∃ S, polS cs0 (r2, r3, r4, r5, 0, 0) = S := ⟨_, rfl⟩
  rw [hS0e] at hS0
  have HDR := Lib.hid (show Drift r6 T0 S0 (polT cs0 (r2, r3, r4, r5, 0, 0)) (polS cs0 (r2, r3, r4, r5, 0, 0)) 0 by rw [hT0, hS0e] at hDR ⊢; exact hDR)
  rw [hT0, hS0e] at FI hPW
  have HS0 := Lib.hid hS0
  have HPW := Lib.hid hPW
  have u0 := VX.out.blk.cell 0 rfl
  have u1 := VX.out.blk.cell 1 rfl
  obtain ⟨t1, t2, t3, t4⟩ : (_ ∧ _ ∧ _ ∧ _) := ⟨PP.out.cell 1 rfl, PP.out.cell 2 rfl, PP.out.cell 3 rfl, PP.out.cell 4 rfl⟩
  clear hT0 hS0e hS0 hDR hPW
  go_wp2_with fail
  refine FI.out.mono ?_
  rintro r U2 ⟨rfl, kb⟩
  obtain ⟨Y, hY⟩ : ∃ Y, U2.alloc (.cells #[.int .u64 T0, .int .u64 S0] 46) = Y := ⟨_, rfl⟩
  have BY := Lib.hid (show Bel X Y by rw [← hY]; exact kb.alloc _)
  have PW := Lib.hid (show Blk Y U2.heap.size #[.int .u64 T0, .int .u64 S0] 46 by rw [← hY]; exact Blk.new _ _ _)
  clear u0 u1 t1 t2 t3 t4 kb FI
  go_upto_region 11 with fail
  try rw [hY]
  obtain ⟨gw, hgw⟩ : ∃ g, U2.heap.size = g := ⟨_, rfl⟩
  rw [hgw] at PW ⊢
  clear hgw hY
  have VY := Lib.hid (VX.out.bel BY.out)
  have PY := Lib.hid (PP.out.bel BY.out)
  have BYW := Lib.hid (BX.out.trans BY.out)
  clear VX PP BX BY
  go_wp2_with fail
  go_loopw [13, 14] (fun s13 i wr => ∃ (k nn : Nat), i = .int .i64 k ∧ s13 = .int .u64 nn ∧ k ≤ m ∧ nn ≤ k ∧ ∃ A1 n1 c1 A2 n2 c2 cs ps, Hid (Vq wr g w.heap.size A1 n1 c1 A2 n2 c2 cs ps ∧ ps.length ≤ n + k ∧ Bel w wr ∧ Blk wr gp ([.int .i64 r1, .int .i64 r2, .int .i64 r3, .int .i64 r4, .int .i64 r5, .int .u64 r6] : List Value).toArray 93 ∧ Blk wr gw #[.int .u64 T0, .int .u64 S0] 46 ∧ shs ps (r1, r2, r3, r4, r5, 0) = r6 ∧ Drift r6 T0 S0 (polT cs (r2, r3, r4, r5, 0, 0)) (polS cs (r2, r3, r4, r5, 0, 0)) nn)) (fun _ i _ => m - (intOf i).toNat)
  case atStart => exact ⟨0, 0, rfl, rfl, Nat.zero_le _, Nat.le_refl _, _, _, _, _, _, _, _, _, Lib.hid ⟨VY.out, HPL.out, BYW.out, PY.out, PW.out, HSH.out, HDR.out⟩⟩
  case round =>
    obtain ⟨i, nn, rfl, rfl, hi, hnn, A1, n1', c1, A2, n2', c2, cs, ps, hh⟩ := hrel
    clear VY PY PW HDR BYW HSH HPL
    have VX := Lib.hid hh.out.1
    have HPL := Lib.hid hh.out.2.1
    have BL := Lib.hid hh.out.2.2.1
    have PP := Lib.hid hh.out.2.2.2.1
    have PW := Lib.hid hh.out.2.2.2.2.1
    have HSH := Lib.hid hh.out.2.2.2.2.2.1
    have HDR := Lib.hid hh.out.2.2.2.2.2.2
    clear hh
    by_cases hlt : i < m
    case neg =>
      obtain rfl : i = m := by omega
      have FI := Lib.hid (find_of (VX.out.hh (by have := HPL.out; omega)) VX.out.hd HSH.out H6.out.1)
      have hP := pol_ok VX.out.hd.ok VX.out.hd.wc (r2, r3, r4, r5, 0, 0)
      obtain ⟨T, hT⟩ : ∃ T, polT cs (r2, r3, r4, r5, 0, 0) = T := ⟨_, rfl⟩
      obtain ⟨S, hS2⟩ : ∃ S, polS cs (r2, r3, r4, r5, 0, 0) = S := ⟨_, rfl⟩
      rw [hT, hS2] at FI HDR hP
      have H6b := Lib.hid (⟨by have := H6.out; omega, H6.out.2⟩ : 0 ≤ r6 ∧ r6 ≤ 18446744073709551615)
      have HT := Lib.hid (⟨hP.1, by have := hP.2.1; omega⟩ : 0 ≤ T ∧ T ≤ 18446744073709551615)
      have HS := Lib.hid (⟨by have := hP.1; have := hP.2.2.1; omega, hP.2.2.2.1⟩ : 0 ≤ S ∧ S ≤ 18446744073709551615)
      have HT0 := Lib.hid (⟨HPW.out.1, by have := HPW.out.2.1; omega⟩ : 0 ≤ T0 ∧ T0 ≤ 18446744073709551615)
      have HS00 := Lib.hid (⟨by have := HS0.out; omega, HPW.out.2.2.2.1⟩ : 0 ≤ S0 ∧ S0 ≤ 18446744073709551615)
      have HNN := Lib.hid (⟨by omega, by omega⟩ : 0 ≤ (nn : Int) ∧ (nn : Int) ≤ 18446744073709551615)
      have GR := Lib.hid (fun x (x0 : 0 ≤ x) (x1 : x ≤ 18446744073709551615) U => great_ x U x0 x1)
      have TM := Lib.hid (fun v u P Q L M U hp hq hL hM => times_ v u P Q L M U hp hq hL hM)
      have u0 := VX.out.blk.cell 0 rfl
      have u1 := VX.out.blk.cell 1 rfl
      obtain ⟨t1, t2, t3, t4⟩ : (_ ∧ _ ∧ _ ∧ _) := ⟨PP.out.cell 1 rfl, PP.out.cell 2 rfl, PP.out.cell 3 rfl, PP.out.cell 4 rfl⟩
      clear hT hS2 hP
      go_wp2_with fail
      refine FI.out.mono ?_
      rintro r U2 ⟨rfl, kb⟩
      obtain ⟨Y, hY⟩ : ∃ Y, U2.alloc (.cells #[.int .u64 T, .int .u64 S] 46) = Y := ⟨_, rfl⟩
      have BY := Lib.hid (show Bel wr Y by rw [← hY]; exact kb.alloc _)
      have PZ := Lib.hid (show Blk Y U2.heap.size #[.int .u64 T, .int .u64 S] 46 by rw [← hY]; exact Blk.new _ _ _)
      clear u0 u1 t1 t2 t3 t4 kb FI
      go_upto_region 24 with fail
      try rw [hY]
      obtain ⟨gz, hgz⟩ : ∃ y, U2.heap.size = y := ⟨_, rfl⟩
      rw [hgz] at PZ ⊢
      clear hgz hY
      have PP := Lib.hid (PP.out.bel BY.out)
      have PW := Lib.hid (PW.out.bel BY.out)
      have BE := Lib.hid (BL.out.trans BY.out)
      clear VX HPL BL
      go_upto_region 26 with fail
      go_cut [22] (fun s wx => Hid (Gt.Gr wx s (r6 * T * S0) 14 ∧ Bel Y wx))
      case first =>
        refine wp_region_held_drew (S := fun Vx => Bel Y Vx) (by kernel_rfl) (Bel.refl _).drew (fun hS0 => ?_)
        obtain ⟨w6, hw6⟩ : ∃ w6, World.drew Y = w6 := ⟨_, rfl⟩
        rw [hw6] at hS0 ⊢
        clear hw6
        refine ztk 0 { dst := some 118, op := .fieldAddr 93 (.tmp 10) 2, type := 0, pos := "outright.go:241", after := #[], guard := none } (.pointer (some ⟨gp, 5, none⟩)) (Or.inl ⟨by rfl, by intro w hSw; clear hSw; go_simp⟩) hS0 ?_
        try simp only [Act.put, zq1, zq2, zq3]
        refine ztk 1 { dst := some 119, op := .load 32 (.tmp 118), type := 32, pos := "outright.go:241", after := #[{ on := 0, ground := .data }], guard := none } (.int .u64 r6) (Or.inl ⟨by rfl, by intro w h; have hcell := ((PP.out.bel h).cell 5 rfl); clear h; go_simp⟩) hS0 ?_
        try simp only [Act.put, zq1, zq2, zq3]
        refine ztk 3 { dst := some 121, op := .fieldAddr 46 (.tmp 20) 0, type := 0, pos := "outright.go:241", after := #[], guard := none } (.pointer (some ⟨gz, 0, none⟩)) (Or.inl ⟨by rfl, by intro w hSw; clear hSw; go_simp⟩) hS0 ?_
        try simp only [Act.put, zq1, zq2, zq3]
        refine ztk 4 { dst := some 122, op := .load 32 (.tmp 121), type := 32, pos := "outright.go:241", after := #[{ on := 3, ground := .data }], guard := none } (.int .u64 T) (Or.inl ⟨by rfl, by intro w h; have hcell := ((PZ.out.bel h).cell 0 rfl); clear h; go_simp⟩) hS0 ?_
        try simp only [Act.put, zq1, zq2, zq3]
        refine ztk 7 { dst := some 125, op := .fieldAddr 46 (.tmp 11) 1, type := 0, pos := "outright.go:241", after := #[], guard := none } (.pointer (some ⟨gw, 1, none⟩)) (Or.inl ⟨by rfl, by intro w hSw; clear hSw; go_simp⟩) hS0 ?_
        try simp only [Act.put, zq1, zq2, zq3]
        refine ztk 8 { dst := some 126, op := .load 32 (.tmp 125), type := 32, pos := "outright.go:241", after := #[{ on := 7, ground := .data }], guard := none } (.int .u64 S0) (Or.inl ⟨by rfl, by intro w h; have hcell := ((PW.out.bel h).cell 1 rfl); clear h; go_simp⟩) hS0 ?_
        try simp only [Act.put, zq1, zq2, zq3]
        refine wpAnyH_ready (rs := [2]) (by kernel_rfl) (by simp) ?_
        refine AllReadyH.cons (o := { dst := some 120, op := .call { callee := .value (.func 59), args := #[.tmp 119], argTypes := #[32] }, type := 96, pos := "outright.go:241", after := #[{ on := 1, ground := .data }], guard := none }) rfl (fun K hK => ?_) AllReadyH.nil
        go_simp
        refine (GR.out r6 H6b.out.1 H6b.out.2 _).mono ?_
        rintro e v1 ⟨ga, rfl, hga, ka⟩
        go_wp2_with fail
        refine hK.out _ _ (hS0.trans ka) (fun hS1 => ?_)
        clear hK K
        try simp only [Act.put, zq1, zq2, zq3]
        refine wpAnyH_ready (rs := [5]) (by kernel_rfl) (by simp) ?_
        refine AllReadyH.cons (o := { dst := some 123, op := .call { callee := .value (.func 59), args := #[.tmp 122], argTypes := #[32] }, type := 96, pos := "outright.go:241", after := #[{ on := 4, ground := .data }, { on := 2, ground := .chain }], guard := none }) rfl (fun K hK => ?_) AllReadyH.nil
        go_simp
        refine (GR.out T HT.out.1 HT.out.2 _).mono ?_
        rintro e v2 ⟨gb, rfl, hgb, kb⟩
        go_wp2_with fail
        refine hK.out _ _ (hS1.trans kb) (fun hS2 => ?_)
        clear hK K
        try simp only [Act.put, zq1, zq2, zq3]
        refine wpAnyH_ready (rs := [6]) (by kernel_rfl) (by simp) ?_
        refine AllReadyH.cons (o := { dst := some 124, op := .call { callee := .value (.func 58), args := #[.tmp 120, .tmp 123], argTypes := #[96, 96] }, type := 96, pos := "outright.go:241", after := #[{ on := 2, ground := .data }, { on := 5, ground := .data }, { on := 5, ground := .chain }], guard := none }) rfl (fun K hK => ?_) AllReadyH.nil
        go_simp
        refine (TM.out ga gb r6 T 4 4 _ (by first |exact hga |exact (gr_bel hga kb) |exact (gr_bel hga kd) |exact (gr_bel (gr_bel hga kb) kd) |exact (gr_bel (gr_bel hga kd) kb)) (by first |exact hgb |exact (gr_bel hgb ka) |exact (gr_bel hgb kd) |exact (gr_bel (gr_bel hgb ka) kd) |exact (gr_bel (gr_bel hgb kd) ka)) (by decide) (by decide)).mono ?_
        rintro e v3 ⟨gc, rfl, hgc, kc⟩
        go_wp2_with fail
        refine hK.out _ _ (hS2.trans kc) (fun hS3 => ?_)
        clear hK K
        try simp only [Act.put, zq1, zq2, zq3]
        refine wpAnyH_ready (rs := [9]) (by kernel_rfl) (by simp) ?_
        refine AllReadyH.cons (o := { dst := some 127, op := .call { callee := .value (.func 59), args := #[.tmp 126], argTypes := #[32] }, type := 96, pos := "outright.go:241", after := #[{ on := 8, ground := .data }, { on := 6, ground := .chain }], guard := none }) rfl (fun K hK => ?_) AllReadyH.nil
        go_simp
        refine (GR.out S0 HS00.out.1 HS00.out.2 _).mono ?_
        rintro e v4 ⟨gd, rfl, hgd, kd⟩
        go_wp2_with fail
        refine hK.out _ _ (hS3.trans kd) (fun hS4 => ?_)
        clear hK K
        try simp only [Act.put, zq1, zq2, zq3]
        refine wpAnyH_ready (rs := [10]) (by kernel_rfl) (by simp) ?_
        refine AllReadyH.cons (o := { dst := some 128, op := .call { callee := .value (.func 58), args := #[.tmp 124, .tmp 127], argTypes := #[96, 96] }, type := 96, pos := "outright.go:241", after := #[{ on := 6, ground := .data }, { on := 9, ground := .data }, { on := 9, ground := .chain }], guard := none }) rfl (fun K hK => ?_) AllReadyH.nil
        go_simp
        refine (TM.out gc gd (r6 * T) S0 9 4 _ (by first |exact hgc |exact (gr_bel hgc kd)) (by first |exact hgd |exact (gr_bel hgd kc) |exact (gr_bel (gr_bel hgd kb) kc) |exact (gr_bel (gr_bel hgd ka) kc) |exact (gr_bel (gr_bel (gr_bel hgd ka) kb) kc) |exact (gr_bel (gr_bel (gr_bel hgd kb) ka) kc)) (by decide) (by decide)).mono ?_
        rintro e v5 ⟨ge, rfl, hge, ke⟩
        go_wp2_with fail
        refine hK.out _ _ (hS4.trans ke) (fun hS5 => ?_)
        clear hK K
        try simp only [Act.put, zq1, zq2, zq3]
        refine ztk 11 { dst := some 22, op := .assign (.tmp 128), type := 96, pos := "outright.go:241", after := #[{ on := 10, ground := .data }, { on := 10, ground := .chain }, { on := 0, ground := .phase }, { on := 1, ground := .phase }, { on := 2, ground := .phase }, { on := 3, ground := .phase }, { on := 4, ground := .phase }, { on := 5, ground := .phase }, { on := 6, ground := .phase }, { on := 7, ground := .phase }, { on := 8, ground := .phase }, { on := 9, ground := .phase }, { on := 10, ground := .phase }], guard := none } (ge) (Or.inl ⟨by rfl, by intro w hSw; clear hSw; go_simp⟩) hS5 ?_
        try simp only [Act.put, zq1, zq2, zq3]
        refine wpAnyH_done (by kernel_rfl) ?_ _
        go_wp2_with fail
        go_meet
        exact Lib.hid ⟨hge, hS5⟩
      case rest =>
        rename_i sl
        obtain ⟨hgl, hb1⟩ := hcut.out
        have GL := Lib.hid hgl
        have B1 := Lib.hid hb1
        clear hcut hgl hb1
        obtain ⟨Y1, hY1⟩ : ∃ x, wc = x := ⟨_, rfl⟩
        rw [hY1] at GL B1 ⊢
        clear hY1
        go_upto_region 27 with fail
        go_cut [23] (fun s wx => Hid (Gt.Gr wx s (r6 * T0 * S) 14 ∧ Bel Y1 wx))
        case first =>
          refine wp_region_held_drew (S := fun Vx => Bel Y1 Vx) (by kernel_rfl) (Bel.refl _).drew (fun hS0 => ?_)
          obtain ⟨w6, hw6⟩ : ∃ w6, World.drew Y1 = w6 := ⟨_, rfl⟩
          rw [hw6] at hS0 ⊢
          clear hw6
          refine ztk 0 { dst := some 129, op := .fieldAddr 93 (.tmp 10) 2, type := 0, pos := "outright.go:242", after := #[], guard := none } (.pointer (some ⟨gp, 5, none⟩)) (Or.inl ⟨by rfl, by intro w hSw; clear hSw; go_simp⟩) hS0 ?_
          try simp only [Act.put, zq1, zq2, zq3]
          refine ztk 1 { dst := some 130, op := .load 32 (.tmp 129), type := 32, pos := "outright.go:242", after := #[{ on := 0, ground := .data }], guard := none } (.int .u64 r6) (Or.inl ⟨by rfl, by intro w h; have hcell := ((PP.out.bel (B1.out.trans h)).cell 5 rfl); clear h; go_simp⟩) hS0 ?_
          try simp only [Act.put, zq1, zq2, zq3]
          refine ztk 3 { dst := some 132, op := .fieldAddr 46 (.tmp 11) 0, type := 0, pos := "outright.go:242", after := #[], guard := none } (.pointer (some ⟨gw, 0, none⟩)) (Or.inl ⟨by rfl, by intro w hSw; clear hSw; go_simp⟩) hS0 ?_
          try simp only [Act.put, zq1, zq2, zq3]
          refine ztk 4 { dst := some 133, op := .load 32 (.tmp 132), type := 32, pos := "outright.go:242", after := #[{ on := 3, ground := .data }], guard := none } (.int .u64 T0) (Or.inl ⟨by rfl, by intro w h; have hcell := ((PW.out.bel (B1.out.trans h)).cell 0 rfl); clear h; go_simp⟩) hS0 ?_
          try simp only [Act.put, zq1, zq2, zq3]
          refine ztk 7 { dst := some 136, op := .fieldAddr 46 (.tmp 20) 1, type := 0, pos := "outright.go:242", after := #[], guard := none } (.pointer (some ⟨gz, 1, none⟩)) (Or.inl ⟨by rfl, by intro w hSw; clear hSw; go_simp⟩) hS0 ?_
          try simp only [Act.put, zq1, zq2, zq3]
          refine ztk 8 { dst := some 137, op := .load 32 (.tmp 136), type := 32, pos := "outright.go:242", after := #[{ on := 7, ground := .data }], guard := none } (.int .u64 S) (Or.inl ⟨by rfl, by intro w h; have hcell := ((PZ.out.bel (B1.out.trans h)).cell 1 rfl); clear h; go_simp⟩) hS0 ?_
          try simp only [Act.put, zq1, zq2, zq3]
          refine wpAnyH_ready (rs := [2]) (by kernel_rfl) (by simp) ?_
          refine AllReadyH.cons (o := { dst := some 131, op := .call { callee := .value (.func 59), args := #[.tmp 130], argTypes := #[32] }, type := 96, pos := "outright.go:242", after := #[{ on := 1, ground := .data }], guard := none }) rfl (fun K hK => ?_) AllReadyH.nil
          go_simp
          refine (GR.out r6 H6b.out.1 H6b.out.2 _).mono ?_
          rintro e v1 ⟨ga, rfl, hga, ka⟩
          go_wp2_with fail
          refine hK.out _ _ (hS0.trans ka) (fun hS1 => ?_)
          clear hK K
          try simp only [Act.put, zq1, zq2, zq3]
          refine wpAnyH_ready (rs := [5]) (by kernel_rfl) (by simp) ?_
          refine AllReadyH.cons (o := { dst := some 134, op := .call { callee := .value (.func 59), args := #[.tmp 133], argTypes := #[32] }, type := 96, pos := "outright.go:242", after := #[{ on := 4, ground := .data }, { on := 2, ground := .chain }], guard := none }) rfl (fun K hK => ?_) AllReadyH.nil
          go_simp
          refine (GR.out T0 HT0.out.1 HT0.out.2 _).mono ?_
          rintro e v2 ⟨gb, rfl, hgb, kb⟩
          go_wp2_with fail
          refine hK.out _ _ (hS1.trans kb) (fun hS2 => ?_)
          clear hK K
          try simp only [Act.put, zq1, zq2, zq3]
          refine wpAnyH_ready (rs := [6]) (by kernel_rfl) (by simp) ?_
          refine AllReadyH.cons (o := { dst := some 135, op := .call { callee := .value (.func 58), args := #[.tmp 131, .tmp 134], argTypes := #[96, 96] }, type := 96, pos := "outright.go:242", after := #[{ on := 2, ground := .data }, { on := 5, ground := .data }, { on := 5, ground := .chain }], guard := none }) rfl (fun K hK => ?_) AllReadyH.nil
          go_simp
          refine (TM.out ga gb r6 T0 4 4 _ (by first |exact hga |exact (gr_bel hga kb) |exact (gr_bel hga kd) |exact (gr_bel (gr_bel hga kb) kd) |exact (gr_bel (gr_bel hga kd) kb)) (by first |exact hgb |exact (gr_bel hgb ka) |exact (gr_bel hgb kd) |exact (gr_bel (gr_bel hgb ka) kd) |exact (gr_bel (gr_bel hgb kd) ka)) (by decide) (by decide)).mono ?_
          rintro e v3 ⟨gc, rfl, hgc, kc⟩
          go_wp2_with fail
          refine hK.out _ _ (hS2.trans kc) (fun hS3 => ?_)
          clear hK K
          try simp only [Act.put, zq1, zq2, zq3]
          refine wpAnyH_ready (rs := [9]) (by kernel_rfl) (by simp) ?_
          refine AllReadyH.cons (o := { dst := some 138, op := .call { callee := .value (.func 59), args := #[.tmp 137], argTypes := #[32] }, type := 96, pos := "outright.go:242", after := #[{ on := 8, ground := .data }, { on := 6, ground := .chain }], guard := none }) rfl (fun K hK => ?_) AllReadyH.nil
          go_simp
          refine (GR.out S HS.out.1 HS.out.2 _).mono ?_
          rintro e v4 ⟨gd, rfl, hgd, kd⟩
          go_wp2_with fail
          refine hK.out _ _ (hS3.trans kd) (fun hS4 => ?_)
          clear hK K
          try simp only [Act.put, zq1, zq2, zq3]
          refine wpAnyH_ready (rs := [10]) (by kernel_rfl) (by simp) ?_
          refine AllReadyH.cons (o := { dst := some 139, op := .call { callee := .value (.func 58), args := #[.tmp 135, .tmp 138], argTypes := #[96, 96] }, type := 96, pos := "outright.go:242", after := #[{ on := 6, ground := .data }, { on := 9, ground := .data }, { on := 9, ground := .chain }], guard := none }) rfl (fun K hK => ?_) AllReadyH.nil
          go_simp
          refine (TM.out gc gd (r6 * T0) S 9 4 _ (by first |exact hgc |exact (gr_bel hgc kd)) (by first |exact hgd |exact (gr_bel hgd kc) |exact (gr_bel (gr_bel hgd kb) kc) |exact (gr_bel (gr_bel hgd ka) kc) |exact (gr_bel (gr_bel (gr_bel hgd ka) kb) kc) |exact (gr_bel (gr_bel (gr_bel hgd kb) ka) kc)) (by decide) (by decide)).mono ?_
          rintro e v5 ⟨ge, rfl, hge, ke⟩
          go_wp2_with fail
          refine hK.out _ _ (hS4.trans ke) (fun hS5 => ?_)
          clear hK K
          try simp only [Act.put, zq1, zq2, zq3]
          refine ztk 11 { dst := some 23, op := .assign (.tmp 139), type := 96, pos := "outright.go:242", after := #[{ on := 10, ground := .data }, { on := 10, ground := .chain }, { on := 0, ground := .phase }, { on := 1, ground := .phase }, { on := 2, ground := .phase }, { on := 3, ground := .phase }, { on := 4, ground := .phase }, { on := 5, ground := .phase }, { on := 6, ground := .phase }, { on := 7, ground := .phase }, { on := 8, ground := .phase }, { on := 9, ground := .phase }, { on := 10, ground := .phase }], guard := none } (ge) (Or.inl ⟨by rfl, by intro w hSw; clear hSw; go_simp⟩) hS5 ?_
          try simp only [Act.put, zq1, zq2, zq3]
          refine wpAnyH_done (by kernel_rfl) ?_ _
          go_wp2_with fail
          go_meet
          exact Lib.hid ⟨hge, hS5⟩
        case rest =>
          rename_i sr
          obtain ⟨hgl, hb1⟩ := hcut.out
          have GRt := Lib.hid hgl
          have B2 := Lib.hid hb1
          clear hcut hgl hb1
          obtain ⟨Y2, hY2⟩ : ∃ x, wc = x := ⟨_, rfl⟩
          rw [hY2] at GRt B2 ⊢
          clear hY2
          go_upto_region 28 with fail
          go_cut [24] (fun s wx => Hid (Gt.Gr wx s (S0 * S * nn) 14 ∧ Bel Y2 wx))
          case first =>
            refine wp_region_held_drew (S := fun Vx => Bel Y2 Vx) (by kernel_rfl) (Bel.refl _).drew (fun hS0 => ?_)
            obtain ⟨w6, hw6⟩ : ∃ w6, World.drew Y2 = w6 := ⟨_, rfl⟩
            rw [hw6] at hS0 ⊢
            clear hw6
            refine ztk 0 { dst := some 140, op := .fieldAddr 46 (.tmp 11) 1, type := 0, pos := "outright.go:243", after := #[], guard := none } (.pointer (some ⟨gw, 1, none⟩)) (Or.inl ⟨by rfl, by intro w hSw; clear hSw; go_simp⟩) hS0 ?_
            try simp only [Act.put, zq1, zq2, zq3]
            refine ztk 1 { dst := some 141, op := .load 32 (.tmp 140), type := 32, pos := "outright.go:243", after := #[{ on := 0, ground := .data }], guard := none } (.int .u64 S0) (Or.inl ⟨by rfl, by intro w h; have hcell := ((PW.out.bel (B1.out.trans (B2.out.trans h))).cell 1 rfl); clear h; go_simp⟩) hS0 ?_
            try simp only [Act.put, zq1, zq2, zq3]
            refine ztk 3 { dst := some 143, op := .fieldAddr 46 (.tmp 20) 1, type := 0, pos := "outright.go:243", after := #[], guard := none } (.pointer (some ⟨gz, 1, none⟩)) (Or.inl ⟨by rfl, by intro w hSw; clear hSw; go_simp⟩) hS0 ?_
            try simp only [Act.put, zq1, zq2, zq3]
            refine ztk 4 { dst := some 144, op := .load 32 (.tmp 143), type := 32, pos := "outright.go:243", after := #[{ on := 3, ground := .data }], guard := none } (.int .u64 S) (Or.inl ⟨by rfl, by intro w h; have hcell := ((PZ.out.bel (B1.out.trans (B2.out.trans h))).cell 1 rfl); clear h; go_simp⟩) hS0 ?_
            try simp only [Act.put, zq1, zq2, zq3]
            refine ztk 7 { dst := some 147, op := .move (.tmp 13), type := 32, pos := "outright.go:243", after := #[], guard := none } (.int .u64 nn) (Or.inl ⟨by rfl, by intro w hSw; clear hSw; go_simp⟩) hS0 ?_
            try simp only [Act.put, zq1, zq2, zq3]
            refine wpAnyH_ready (rs := [2]) (by kernel_rfl) (by simp) ?_
            refine AllReadyH.cons (o := { dst := some 142, op := .call { callee := .value (.func 59), args := #[.tmp 141], argTypes := #[32] }, type := 96, pos := "outright.go:243", after := #[{ on := 1, ground := .data }], guard := none }) rfl (fun K hK => ?_) AllReadyH.nil
            go_simp
            refine (GR.out S0 HS00.out.1 HS00.out.2 _).mono ?_
            rintro e v1 ⟨ga, rfl, hga, ka⟩
            go_wp2_with fail
            refine hK.out _ _ (hS0.trans ka) (fun hS1 => ?_)
            clear hK K
            try simp only [Act.put, zq1, zq2, zq3]
            refine wpAnyH_ready (rs := [5]) (by kernel_rfl) (by simp) ?_
            refine AllReadyH.cons (o := { dst := some 145, op := .call { callee := .value (.func 59), args := #[.tmp 144], argTypes := #[32] }, type := 96, pos := "outright.go:243", after := #[{ on := 4, ground := .data }, { on := 2, ground := .chain }], guard := none }) rfl (fun K hK => ?_) AllReadyH.nil
            go_simp
            refine (GR.out S HS.out.1 HS.out.2 _).mono ?_
            rintro e v2 ⟨gb, rfl, hgb, kb⟩
            go_wp2_with fail
            refine hK.out _ _ (hS1.trans kb) (fun hS2 => ?_)
            clear hK K
            try simp only [Act.put, zq1, zq2, zq3]
            refine wpAnyH_ready (rs := [6]) (by kernel_rfl) (by simp) ?_
            refine AllReadyH.cons (o := { dst := some 146, op := .call { callee := .value (.func 58), args := #[.tmp 142, .tmp 145], argTypes := #[96, 96] }, type := 96, pos := "outright.go:243", after := #[{ on := 2, ground := .data }, { on := 5, ground := .data }, { on := 5, ground := .chain }], guard := none }) rfl (fun K hK => ?_) AllReadyH.nil
            go_simp
            refine (TM.out ga gb S0 S 4 4 _ (by first |exact hga |exact (gr_bel hga kb) |exact (gr_bel hga kd) |exact (gr_bel (gr_bel hga kb) kd) |exact (gr_bel (gr_bel hga kd) kb)) (by first |exact hgb |exact (gr_bel hgb ka) |exact (gr_bel hgb kd) |exact (gr_bel (gr_bel hgb ka) kd) |exact (gr_bel (gr_bel hgb kd) ka)) (by decide) (by decide)).mono ?_
            rintro e v3 ⟨gc, rfl, hgc, kc⟩
            go_wp2_with fail
            refine hK.out _ _ (hS2.trans kc) (fun hS3 => ?_)
            clear hK K
            try simp only [Act.put, zq1, zq2, zq3]
            refine wpAnyH_ready (rs := [8]) (by kernel_rfl) (by simp) ?_
            refine AllReadyH.cons (o := { dst := some 148, op := .call { callee := .value (.func 59), args := #[.tmp 147], argTypes := #[32] }, type := 96, pos := "outright.go:243", after := #[{ on := 7, ground := .data }, { on := 6, ground := .chain }], guard := none }) rfl (fun K hK => ?_) AllReadyH.nil
            go_simp
            refine (GR.out nn HNN.out.1 HNN.out.2 _).mono ?_
            rintro e v4 ⟨gd, rfl, hgd, kd⟩
            go_wp2_with fail
            refine hK.out _ _ (hS3.trans kd) (fun hS4 => ?_)
            clear hK K
            try simp only [Act.put, zq1, zq2, zq3]
            refine wpAnyH_ready (rs := [9]) (by kernel_rfl) (by simp) ?_
            refine AllReadyH.cons (o := { dst := some 149, op := .call { callee := .value (.func 58), args := #[.tmp 146, .tmp 148], argTypes := #[96, 96] }, type := 96, pos := "outright.go:243", after := #[{ on := 6, ground := .data }, { on := 8, ground := .data }, { on := 8, ground := .chain }], guard := none }) rfl (fun K hK => ?_) AllReadyH.nil
            go_simp
            refine (TM.out gc gd (S0 * S) nn 9 4 _ (by first |exact hgc |exact (gr_bel hgc kd)) (by first |exact hgd |exact (gr_bel hgd kc) |exact (gr_bel (gr_bel hgd kb) kc) |exact (gr_bel (gr_bel hgd ka) kc) |exact (gr_bel (gr_bel (gr_bel hgd ka) kb) kc) |exact (gr_bel (gr_bel (gr_bel hgd kb) ka) kc)) (by decide) (by decide)).mono ?_
            rintro e v5 ⟨ge, rfl, hge, ke⟩
            go_wp2_with fail
            refine hK.out _ _ (hS4.trans ke) (fun hS5 => ?_)
            clear hK K
            try simp only [Act.put, zq1, zq2, zq3]
            refine ztk 10 { dst := some 24, op := .assign (.tmp 149), type := 96, pos := "outright.go:243", after := #[{ on := 9, ground := .data }, { on := 9, ground := .chain }, { on := 0, ground := .phase }, { on := 1, ground := .phase }, { on := 2, ground := .phase }, { on := 3, ground := .phase }, { on := 4, ground := .phase }, { on := 5, ground := .phase }, { on := 6, ground := .phase }, { on := 7, ground := .phase }, { on := 8, ground := .phase }, { on := 9, ground := .phase }], guard := none } (ge) (Or.inl ⟨by rfl, by intro w hSw; clear hSw; go_simp⟩) hS5 ?_
            try simp only [Act.put, zq1, zq2, zq3]
            refine wpAnyH_done (by kernel_rfl) ?_ _
            go_wp2_with fail
            go_meet
            exact Lib.hid ⟨hge, hS5⟩
          case rest =>
            rename_i su
            obtain ⟨hgl, hb1⟩ := hcut.out
            have GU := Lib.hid hgl
            have B3 := Lib.hid hb1
            clear hcut hgl hb1
            have BZ := Lib.hid (B1.out.trans (B2.out.trans B3.out))
            have BF := Lib.hid (BE.out.trans BZ.out)
            obtain ⟨dr1, dr2, dr3⟩ := HDR.out
            by_cases hn0 : nn = 0
            · subst hn0
              obtain ⟨rfl, rfl⟩ := dr2 rfl
              have a0 := (PZ.out.bel BZ.out).cell 0 rfl
              have a1 := (PZ.out.bel BZ.out).cell 1 rfl
              have c0 := (PW.out.bel BZ.out).cell 0 rfl
              have c1 := (PW.out.bel BZ.out).cell 1 rfl
              clear dr1 dr2 dr3
              go_wp2_with fail
              go_ret
              exact ⟨rfl, BF.out⟩
            · have hnb : ((nn : Int) == 0) = false := by rw [beq_eq_false_iff_ne]; omega
              have L1 := Lib.hid (less_ _ _ _ _ 14 14 wc (gr_bel (gr_bel GL.out B2.out) B3.out) (gr_bel GRt.out B3.out) (by decide) (by decide))
              rw [decide_eq_false (by omega : ¬ r6 * T * S0 < r6 * T0 * S)] at L1
              have hd3 := dr3 (by omega)
              clear dr1 dr2 dr3 hn0
              have HD3 := Lib.hid hd3
              clear hd3
              go_wp2_with fail
              refine L1.out.mono ?_
              rintro r Z1 ⟨rfl, kb⟩
              have SM := Lib.hid (sum_ _ _ _ _ 14 14 Z1 (gr_bel (gr_bel GRt.out B3.out) kb) (gr_bel GU.out kb) (by decide) (by decide))
              have BK1 := Lib.hid kb
              clear kb L1
              go_wp2_with fail
              refine SM.out.mono ?_
              rintro r Z2 ⟨gs, rfl, hgs, kb⟩
              have L2 := Lib.hid (less_ _ _ _ _ 14 29 Z2 (gr_bel (gr_bel (gr_bel (gr_bel GL.out B2.out) B3.out) BK1.out) kb) hgs (by decide) (by decide))
              rw [decide_eq_true HD3.out] at L2
              have BK2 := Lib.hid kb
              clear kb hgs SM
              go_wp2_with fail
              refine L2.out.mono ?_
              rintro r Z3 ⟨rfl, kb⟩
              have BG := Lib.hid (BF.out.trans (BK1.out.trans (BK2.out.trans kb)))
              clear kb
              go_wp2_with fail
              go_ret
              exact ⟨rfl, BG.out⟩
    obtain ⟨bl, ol, rfl, _, hrows⟩ := HB.out (by omega)
    obtain ⟨k, o, a, b, d, e, v, h, x, haw, hrow⟩ := hrows i hlt
    have HAW := Lib.hid haw
    have HRW := Lib.hid (rng_bel hrow BL.out)
    have hlt4 : (i : Int) < m := by omega
    have hi0 : (0 : Int) ≤ i := by omega
    have HH1 := Lib.hid (VX.out.hh (by have := HPL.out; omega))
    have NR := Lib.hid (fun U (hU : Bel wr U) => near A1 n1' c1 A2 n2' c2 cs ps k o a b d e v h x U (HH1.out.bel hU) VX.out.hd.ok HAW.out)
    clear haw hrow hrows
    go_upto_region 15 with fail
    go_cut [15] (fun s6 wx => ∃ (q : Nat) (k' o' a' b' d' e' v' h' x' : Int), s6 = .pointer (some ⟨q, 0, none⟩) ∧ Hid (NearA k' o' a' b' d' e' v' h' x' ∧ Blk wx q ([.int .i64 k', .int .i64 o', .int .i64 a', .int .i64 b', .int .i64 d', .int .i64 e', .int .i64 v', .int .i64 h', .int .u64 x'] : List Value).toArray 39 ∧ Bel wr wx ∧ wr.heap.size ≤ q))
    case first =>
      refine wp_region_held_drew (S := fun Vx => Bel wr Vx) (by kernel_rfl) (Bel.refl _).drew (fun hS0 => ?_)
      obtain ⟨w6, hw6⟩ : ∃ w6, World.drew wr = w6 := ⟨_, rfl⟩
      rw [hw6] at hS0 ⊢
      clear hw6
      refine ztk 0 { dst := some 69, op := .load 25 (.tmp 8), type := 25, pos := "outright.go:225", after := #[], guard := none } (.agg #[.slice A1 n1' c1, .slice A2 n2' c2]) (yieldsIf_load_mid (by rfl) _ _ rfl _ _ rfl _ _ (fun w h => rng_bel (rngB (C := [.slice A1 n1' c1, .slice A2 n2' c2]) VX.out.blk) h) Tryz.underlying25 rfl info_h) hS0 ?_
      try simp only [Act.put, zq1, zq2, zq3]
      refine ztk 1 { dst := some 70, op := .move (.tmp 1), type := 26, pos := "outright.go:225", after := #[], guard := none } (.slice (some ⟨bl, ol, none⟩) m d0) (Or.inl ⟨by rfl, by intro w hSw; clear hSw; go_simp⟩) hS0 ?_
      try simp only [Act.put, zq1, zq2, zq3]
      refine ztk 2 { dst := some 71, op := .move (.tmp 14), type := 3, pos := "outright.go:225", after := #[], guard := none } (.int .i64 i) (Or.inl ⟨by rfl, by intro w hSw; clear hSw; go_simp⟩) hS0 ?_
      try simp only [Act.put, zq1, zq2, zq3]
      refine ztk 3 { dst := some 72, op := .indexAddr 26 (.tmp 70) (.tmp 71), type := 0, pos := "outright.go:225", after := #[{ on := 1, ground := .data }, { on := 2, ground := .data }], guard := none } (.pointer (some ⟨bl, ol + i * 9, none⟩)) (Or.inl ⟨by rfl, by intro w hSw; clear hSw; go_simp⟩) hS0 ?_
      try simp only [Act.put, zq1, zq2, zq3]
      refine ztk 4 { dst := some 73, op := .load 39 (.tmp 72), type := 39, pos := "outright.go:225", after := #[{ on := 3, ground := .data }], guard := none } (.agg #[.int .i64 k, .int .i64 o, .int .i64 a, .int .i64 b, .int .i64 d, .int .i64 e, .int .i64 v, .int .i64 h, .int .u64 x]) (yieldsIf_load_mid (by rfl) _ _ rfl _ _ rfl _ _ (fun w h => rng_bel HRW.out h) Tryz.underlying39 rfl (by kernel_rfl)) hS0 ?_
      try simp only [Act.put, zq1, zq2, zq3]
      refine wpAnyH_ready (rs := [5, 6]) (by kernel_rfl) (by simp) ?_
      refine AllReadyH.cons (o := { dst := some 74, op := .call { callee := .value (.func 52), args := #[.tmp 69, .tmp 73], argTypes := #[25, 39] }, type := 39, pos := "outright.go:225", after := #[{ on := 0, ground := .data }, { on := 4, ground := .data }], guard := none }) rfl (fun K hK => ?_) (AllReadyH.cons (o := { dst := some 15, op := .alloc 39, type := 0, pos := "outright.go:225", after := #[], guard := none }) rfl (fun K hK => ?_) AllReadyH.nil)
      · go_simp
        refine (NR.out _ hS0).mono ?_
        rintro e v1 ⟨k', o', a', b', d', e', v', h', x', rfl, hna, kb⟩
        go_wp2_with fail
        refine hK.out _ _ (hS0.trans kb) (fun hS1 => ?_)
        clear hK K
        try simp only [Act.put, zq1, zq2, zq3]
        refine wpAnyH_ready (rs := [6]) (by kernel_rfl) (by simp) ?_
        refine AllReadyH.cons (o := { dst := some 15, op := .alloc 39, type := 0, pos := "outright.go:225", after := #[], guard := none }) rfl (fun K hK => ?_) AllReadyH.nil
        go_simp
        refine hK.out _ _ (hS1.alloc _) (fun hS2 => ?_)
        clear hK K
        try simp only [Act.put, zq1, zq2, zq3]
        have gnb := Blk.new v1 #[.int .i64 0, .int .i64 0, .int .i64 0, .int .i64 0, .int .i64 0, .int .i64 0, .int .i64 0, .int .i64 0, .int .u64 0] 39
        have gnl := Lib.hid (Below.size hS1)
        generalize hvq : World.alloc v1 (Obj.cells #[.int .i64 0, .int .i64 0, .int .i64 0, .int .i64 0, .int .i64 0, .int .i64 0, .int .i64 0, .int .i64 0, .int .u64 0] 39) = v2 at gnb hS2 ⊢
        have gnk : Bel v1 v2 := by rw [← hvq]; exact (Bel.refl _).alloc _
        clear hvq
        obtain ⟨gn, hgq⟩ : ∃ g, (World.heap v1).size = g := ⟨_, rfl⟩
        rw [hgq] at gnb gnl ⊢
        clear hgq
        have gnb := Lib.hid gnb
        refine wpAnyH_ready (rs := [7]) (by kernel_rfl) (by simp) ?_
        refine AllReadyH.cons (o := { dst := none, op := .store 39 (.tmp 15) (.tmp 74), type := 0, pos := "outright.go:225", after := #[{ on := 6, ground := .data }, { on := 5, ground := .data }, { on := 5, ground := .chain }, { on := 0, ground := .phase }, { on := 1, ground := .phase }, { on := 2, ground := .phase }, { on := 3, ground := .phase }, { on := 4, ground := .phase }, { on := 5, ground := .phase }, { on := 6, ground := .phase }], guard := none }) rfl (fun K hK => ?_) AllReadyH.nil
        have QB : Blk v2 gn #[.int .i64 0, .int .i64 0, .int .i64 0, .int .i64 0, .int .i64 0, .int .i64 0, .int .i64 0, .int .i64 0, .int .u64 0] 39 := by first | exact gnb.out | exact gnb.out.bel kb
        obtain ⟨q0, q1, q2, q3, q4, q5, q6, q7, q8⟩ : (_ ∧ _ ∧ _ ∧ _ ∧ _ ∧ _ ∧ _ ∧ _ ∧ _) := ⟨QB.cell 0 rfl, QB.cell 1 rfl, QB.cell 2 rfl, QB.cell 3 rfl, QB.cell 4 rfl, QB.cell 5 rfl, QB.cell 6 rfl, QB.cell 7 rfl, QB.cell 8 rfl⟩
        obtain ⟨qf0, qf1, qf2, qf3, qf4, qf5, qf6, qf7, qf8⟩ : (_ ∧ _ ∧ _ ∧ _ ∧ _ ∧ _ ∧ _ ∧ _ ∧ _) := ⟨QB.frozen 0, QB.frozen 1, QB.frozen 2, QB.frozen 3, QB.frozen 4, QB.frozen 5, QB.frozen 6, QB.frozen 7, QB.frozen 8⟩
        go_simp
        refine hK.out _ _ (((((((((hS2.set (p := ⟨gn, 0, none⟩) gnl.out _).set (p := ⟨gn, 1, none⟩) gnl.out _).set (p := ⟨gn, 2, none⟩) gnl.out _).set (p := ⟨gn, 3, none⟩) gnl.out _).set (p := ⟨gn, 4, none⟩) gnl.out _).set (p := ⟨gn, 5, none⟩) gnl.out _).set (p := ⟨gn, 6, none⟩) gnl.out _).set (p := ⟨gn, 7, none⟩) gnl.out _).set (p := ⟨gn, 8, none⟩) gnl.out _) (fun hS3 => ?_)
        clear hK K
        try simp only [Act.put, zq1, zq2, zq3]
        refine wpAnyH_done (by kernel_rfl) ?_ _
        have RB := Lib.hid (bset (Y := [.int .i64 k', .int .i64 o', .int .i64 a', .int .i64 b', .int .i64 d', .int .i64 e', .int .i64 v', .int .i64 h', .int .u64 0]) (Y' := [.int .i64 k', .int .i64 o', .int .i64 a', .int .i64 b', .int .i64 d', .int .i64 e', .int .i64 v', .int .i64 h', .int .u64 x']) (bset (Y := [.int .i64 k', .int .i64 o', .int .i64 a', .int .i64 b', .int .i64 d', .int .i64 e', .int .i64 v', .int .i64 0, .int .u64 0]) (Y' := [.int .i64 k', .int .i64 o', .int .i64 a', .int .i64 b', .int .i64 d', .int .i64 e', .int .i64 v', .int .i64 h', .int .u64 0]) (bset (Y := [.int .i64 k', .int .i64 o', .int .i64 a', .int .i64 b', .int .i64 d', .int .i64 e', .int .i64 0, .int .i64 0, .int .u64 0]) (Y' := [.int .i64 k', .int .i64 o', .int .i64 a', .int .i64 b', .int .i64 d', .int .i64 e', .int .i64 v', .int .i64 0, .int .u64 0]) (bset (Y := [.int .i64 k', .int .i64 o', .int .i64 a', .int .i64 b', .int .i64 d', .int .i64 0, .int .i64 0, .int .i64 0, .int .u64 0]) (Y' := [.int .i64 k', .int .i64 o', .int .i64 a', .int .i64 b', .int .i64 d', .int .i64 e', .int .i64 0, .int .i64 0, .int .u64 0]) (bset (Y := [.int .i64 k', .int .i64 o', .int .i64 a', .int .i64 b', .int .i64 0, .int .i64 0, .int .i64 0, .int .i64 0, .int .u64 0]) (Y' := [.int .i64 k', .int .i64 o', .int .i64 a', .int .i64 b', .int .i64 d', .int .i64 0, .int .i64 0, .int .i64 0, .int .u64 0]) (bset (Y := [.int .i64 k', .int .i64 o', .int .i64 a', .int .i64 0, .int .i64 0, .int .i64 0, .int .i64 0, .int .i64 0, .int .u64 0]) (Y' := [.int .i64 k', .int .i64 o', .int .i64 a', .int .i64 b', .int .i64 0, .int .i64 0, .int .i64 0, .int .i64 0, .int .u64 0]) (bset (Y := [.int .i64 k', .int .i64 o', .int .i64 0, .int .i64 0, .int .i64 0, .int .i64 0, .int .i64 0, .int .i64 0, .int .u64 0]) (Y' := [.int .i64 k', .int .i64 o', .int .i64 a', .int .i64 0, .int .i64 0, .int .i64 0, .int .i64 0, .int .i64 0, .int .u64 0]) (bset (Y := [.int .i64 k', .int .i64 0, .int .i64 0, .int .i64 0, .int .i64 0, .int .i64 0, .int .i64 0, .int .i64 0, .int .u64 0]) (Y' := [.int .i64 k', .int .i64 o', .int .i64 0, .int .i64 0, .int .i64 0, .int .i64 0, .int .i64 0, .int .i64 0, .int .u64 0]) (bset (Y := [.int .i64 0, .int .i64 0, .int .i64 0, .int .i64 0, .int .i64 0, .int .i64 0, .int .i64 0, .int .i64 0, .int .u64 0]) (Y' := [.int .i64 k', .int .i64 0, .int .i64 0, .int .i64 0, .int .i64 0, .int .i64 0, .int .i64 0, .int .i64 0, .int .u64 0]) (QB) 0 (.int .i64 k') rfl) 1 (.int .i64 o') rfl) 2 (.int .i64 a') rfl) 3 (.int .i64 b') rfl) 4 (.int .i64 d') rfl) 5 (.int .i64 e') rfl) 6 (.int .i64 v') rfl) 7 (.int .i64 h') rfl) 8 (.int .u64 x') rfl)
        have HE := Lib.hid hS3
        clear q0 q1 q2 q3 q4 q5 q6 q7 q8 qf0 qf1 qf2 qf3 qf4 qf5 qf6 qf7 qf8
        go_wp2_with fail
        go_meet
        exact ⟨gn, k', o', a', b', d', e', v', h', x', rfl, Lib.hid ⟨hna, RB.out, HE.out, gnl.out⟩⟩
      · go_simp
        refine hK.out _ _ (hS0.alloc _) (fun hS1 => ?_)
        clear hK K
        try simp only [Act.put, zq1, zq2, zq3]
        have gnb := Blk.new w6 #[.int .i64 0, .int .i64 0, .int .i64 0, .int .i64 0, .int .i64 0, .int .i64 0, .int .i64 0, .int .i64 0, .int .u64 0] 39
        have gnl := Lib.hid (Below.size hS0)
        generalize hvq : World.alloc w6 (Obj.cells #[.int .i64 0, .int .i64 0, .int .i64 0, .int .i64 0, .int .i64 0, .int .i64 0, .int .i64 0, .int .i64 0, .int .u64 0] 39) = v1 at gnb hS1 ⊢
        have gnk : Bel w6 v1 := by rw [← hvq]; exact (Bel.refl _).alloc _
        clear hvq
        obtain ⟨gn, hgq⟩ : ∃ g, (World.heap w6).size = g := ⟨_, rfl⟩
        rw [hgq] at gnb gnl ⊢
        clear hgq
        have gnb := Lib.hid gnb
        refine wpAnyH_ready (rs := [5]) (by kernel_rfl) (by simp) ?_
        refine AllReadyH.cons (o := { dst := some 74, op := .call { callee := .value (.func 52), args := #[.tmp 69, .tmp 73], argTypes := #[25, 39] }, type := 39, pos := "outright.go:225", after := #[{ on := 0, ground := .data }, { on := 4, ground := .data }], guard := none }) rfl (fun K hK => ?_) AllReadyH.nil
        go_simp
        refine (NR.out _ hS1).mono ?_
        rintro e v2 ⟨k', o', a', b', d', e', v', h', x', rfl, hna, kb⟩
        go_wp2_with fail
        refine hK.out _ _ (hS1.trans kb) (fun hS2 => ?_)
        clear hK K
        try simp only [Act.put, zq1, zq2, zq3]
        refine wpAnyH_ready (rs := [7]) (by kernel_rfl) (by simp) ?_
        refine AllReadyH.cons (o := { dst := none, op := .store 39 (.tmp 15) (.tmp 74), type := 0, pos := "outright.go:225", after := #[{ on := 6, ground := .data }, { on := 5, ground := .data }, { on := 5, ground := .chain }, { on := 0, ground := .phase }, { on := 1, ground := .phase }, { on := 2, ground := .phase }, { on := 3, ground := .phase }, { on := 4, ground := .phase }, { on := 5, ground := .phase }, { on := 6, ground := .phase }], guard := none }) rfl (fun K hK => ?_) AllReadyH.nil
        have QB : Blk v2 gn #[.int .i64 0, .int .i64 0, .int .i64 0, .int .i64 0, .int .i64 0, .int .i64 0, .int .i64 0, .int .i64 0, .int .u64 0] 39 := by first | exact gnb.out | exact gnb.out.bel kb
        obtain ⟨q0, q1, q2, q3, q4, q5, q6, q7, q8⟩ : (_ ∧ _ ∧ _ ∧ _ ∧ _ ∧ _ ∧ _ ∧ _ ∧ _) := ⟨QB.cell 0 rfl, QB.cell 1 rfl, QB.cell 2 rfl, QB.cell 3 rfl, QB.cell 4 rfl, QB.cell 5 rfl, QB.cell 6 rfl, QB.cell 7 rfl, QB.cell 8 rfl⟩
        obtain ⟨qf0, qf1, qf2, qf3, qf4, qf5, qf6, qf7, qf8⟩ : (_ ∧ _ ∧ _ ∧ _ ∧ _ ∧ _ ∧ _ ∧ _ ∧ _) := ⟨QB.frozen 0, QB.frozen 1, QB.frozen 2, QB.frozen 3, QB.frozen 4, QB.frozen 5, QB.frozen 6, QB.frozen 7, QB.frozen 8⟩
        go_simp
        refine hK.out _ _ (((((((((hS2.set (p := ⟨gn, 0, none⟩) gnl.out _).set (p := ⟨gn, 1, none⟩) gnl.out _).set (p := ⟨gn, 2, none⟩) gnl.out _).set (p := ⟨gn, 3, none⟩) gnl.out _).set (p := ⟨gn, 4, none⟩) gnl.out _).set (p := ⟨gn, 5, none⟩) gnl.out _).set (p := ⟨gn, 6, none⟩) gnl.out _).set (p := ⟨gn, 7, none⟩) gnl.out _).set (p := ⟨gn, 8, none⟩) gnl.out _) (fun hS3 => ?_)
        clear hK K
        try simp only [Act.put, zq1, zq2, zq3]
        refine wpAnyH_done (by kernel_rfl) ?_ _
        have RB := Lib.hid (bset (Y := [.int .i64 k', .int .i64 o', .int .i64 a', .int .i64 b', .int .i64 d', .int .i64 e', .int .i64 v', .int .i64 h', .int .u64 0]) (Y' := [.int .i64 k', .int .i64 o', .int .i64 a', .int .i64 b', .int .i64 d', .int .i64 e', .int .i64 v', .int .i64 h', .int .u64 x']) (bset (Y := [.int .i64 k', .int .i64 o', .int .i64 a', .int .i64 b', .int .i64 d', .int .i64 e', .int .i64 v', .int .i64 0, .int .u64 0]) (Y' := [.int .i64 k', .int .i64 o', .int .i64 a', .int .i64 b', .int .i64 d', .int .i64 e', .int .i64 v', .int .i64 h', .int .u64 0]) (bset (Y := [.int .i64 k', .int .i64 o', .int .i64 a', .int .i64 b', .int .i64 d', .int .i64 e', .int .i64 0, .int .i64 0, .int .u64 0]) (Y' := [.int .i64 k', .int .i64 o', .int .i64 a', .int .i64 b', .int .i64 d', .int .i64 e', .int .i64 v', .int .i64 0, .int .u64 0]) (bset (Y := [.int .i64 k', .int .i64 o', .int .i64 a', .int .i64 b', .int .i64 d', .int .i64 0, .int .i64 0, .int .i64 0, .int .u64 0]) (Y' := [.int .i64 k', .int .i64 o', .int .i64 a', .int .i64 b', .int .i64 d', .int .i64 e', .int .i64 0, .int .i64 0, .int .u64 0]) (bset (Y := [.int .i64 k', .int .i64 o', .int .i64 a', .int .i64 b', .int .i64 0, .int .i64 0, .int .i64 0, .int .i64 0, .int .u64 0]) (Y' := [.int .i64 k', .int .i64 o', .int .i64 a', .int .i64 b', .int .i64 d', .int .i64 0, .int .i64 0, .int .i64 0, .int .u64 0]) (bset (Y := [.int .i64 k', .int .i64 o', .int .i64 a', .int .i64 0, .int .i64 0, .int .i64 0, .int .i64 0, .int .i64 0, .int .u64 0]) (Y' := [.int .i64 k', .int .i64 o', .int .i64 a', .int .i64 b', .int .i64 0, .int .i64 0, .int .i64 0, .int .i64 0, .int .u64 0]) (bset (Y := [.int .i64 k', .int .i64 o', .int .i64 0, .int .i64 0, .int .i64 0, .int .i64 0, .int .i64 0, .int .i64 0, .int .u64 0]) (Y' := [.int .i64 k', .int .i64 o', .int .i64 a', .int .i64 0, .int .i64 0, .int .i64 0, .int .i64 0, .int .i64 0, .int .u64 0]) (bset (Y := [.int .i64 k', .int .i64 0, .int .i64 0, .int .i64 0, .int .i64 0, .int .i64 0, .int .i64 0, .int .i64 0, .int .u64 0]) (Y' := [.int .i64 k', .int .i64 o', .int .i64 0, .int .i64 0, .int .i64 0, .int .i64 0, .int .i64 0, .int .i64 0, .int .u64 0]) (bset (Y := [.int .i64 0, .int .i64 0, .int .i64 0, .int .i64 0, .int .i64 0, .int .i64 0, .int .i64 0, .int .i64 0, .int .u64 0]) (Y' := [.int .i64 k', .int .i64 0, .int .i64 0, .int .i64 0, .int .i64 0, .int .i64 0, .int .i64 0, .int .i64 0, .int .u64 0]) (QB) 0 (.int .i64 k') rfl) 1 (.int .i64 o') rfl) 2 (.int .i64 a') rfl) 3 (.int .i64 b') rfl) 4 (.int .i64 d') rfl) 5 (.int .i64 e') rfl) 6 (.int .i64 v') rfl) 7 (.int .i64 h') rfl) 8 (.int .u64 x') rfl)
        have HE := Lib.hid hS3
        clear q0 q1 q2 q3 q4 q5 q6 q7 q8 qf0 qf1 qf2 qf3 qf4 qf5 qf6 qf7 qf8
        go_wp2_with fail
        go_meet
        exact ⟨gn, k', o', a', b', d', e', v', h', x', rfl, Lib.hid ⟨hna, RB.out, HE.out, gnl.out⟩⟩
    case rest =>
      obtain ⟨q, k', o', a', b', d', e', v', h', x', rfl, hh⟩ := hcut
      have HNA := Lib.hid hh.out.1
      have XB := Lib.hid hh.out.2.1
      have BC := Lib.hid hh.out.2.2.1
      have HQ := Lib.hid hh.out.2.2.2
      clear hh NR HAW HRW
      have p0 := XB.out.cell 0 rfl
      have p1 := XB.out.cell 1 rfl
      have t0 := (PP.out.bel BC.out).cell 0 rfl
      have NX := Lib.hid (show Vq wc g w.heap.size A1 n1' c1 A2 n2' c2 cs ps ∧ ps.length ≤ n + (i + 1) ∧ Bel w wc ∧ Blk wc gp ([.int .i64 r1, .int .i64 r2, .int .i64 r3, .int .i64 r4, .int .i64 r5, .int .u64 r6] : List Value).toArray 93 ∧ Blk wc gw #[.int .u64 T0, .int .u64 S0] 46 ∧ shs ps (r1, r2, r3, r4, r5, 0) = r6 ∧ Drift r6 T0 S0 (polT cs (r2, r3, r4, r5, 0, 0)) (polS cs (r2, r3, r4, r5, 0, 0)) (nn : Int) from ⟨VX.out.bel BC.out, by have := HPL.out; omega, BL.out.trans BC.out, PP.out.bel BC.out, PW.out.bel BC.out, HSH.out, HDR.out⟩)
      by_cases c2 : k' = 2
      · have hb : (k' == 2) = true := beq_iff_eq.2 c2
        go_wp2_with fail
        go_roundw
        case rel => exact ⟨i + 1, nn, by go_num, rfl, by omega, by omega, _, _, _, _, _, _, _, _, NX⟩
        case measure => simp [intOf]; omega
      have hb2 : (k' == 2) = false := beq_eq_false_iff_ne.2 c2
      by_cases co : o' = r1
      · have hb : (o' == r1) = true := beq_iff_eq.2 co
        go_wp2_with fail
        go_roundw
        case rel => exact ⟨i + 1, nn, by go_num, rfl, by omega, by omega, _, _, _, _, _, _, _, _, NX⟩
        case measure => simp [intOf]; omega
      have hbo : (o' == r1) = false := beq_eq_false_iff_ne.2 co
      have HC2 := Lib.hid c2
      have HCO := Lib.hid co
      clear NX c2 co
      obtain ⟨im, him⟩ : ∃ y, (i : Int).tmod 2 = y := ⟨_, rfl⟩
      have wim : IntKind.i64.wrap im = im := by
        have h1 := Int.tmod_lt_of_pos (i : Int) (show (0 : Int) < 2 by decide)
        have h2 := Int.lt_tmod_of_pos (i : Int) (show (0 : Int) < 2 by decide)
        exact IntWalk.i64_in _ (by omega)
      go_upto_region 17 with fail
      clear t0 p1 hb2 hbo
      by_cases c0 : k' = 0
      case neg =>
        have hb : (k' == 0) = false := beq_eq_false_iff_ne.2 c0
        have hcut : Hid (∃ a2 b2 d2 e2, Sm.ck a2 b2 d2 e2 = 0 ∧ Blk wc q ([.int .i64 k', .int .i64 o', .int .i64 a2, .int .i64 b2, .int .i64 d2, .int .i64 e2, .int .i64 v', .int .i64 h', .int .u64 x'] : List Value).toArray 39 ∧ Bel wr wc) := Lib.hid ⟨a', b', d', e', HNA.out.ck, XB.out, BC.out⟩
        go_upto_region 19 with fail
        obtain ⟨wd, hwd⟩ : ∃ x, wc = x := ⟨_, rfl⟩
        rw [hwd] at hcut XB BC p0 ⊢
        clear hwd c0 hb
        obtain ⟨a2, b2, d2, e2, hck, hq, hbw⟩ := hcut.out
        have NA2 := Lib.hid (show NearA k' o' a2 b2 d2 e2 v' h' x' from ⟨HNA.out.k0, HNA.out.k2, HNA.out.o0, HNA.out.o3, hck, HNA.out.v0, HNA.out.v3, HNA.out.h0, HNA.out.h1, HNA.out.x0, HNA.out.x1, HNA.out.x2⟩)
        have XB2 := Lib.hid hq
        have BW2 := Lib.hid hbw
        clear hcut hck hq hbw XB BC HNA p0 wim him
        have VC := Lib.hid (VX.out.bel BW2.out)
        have DO := Lib.hid (does_ A1 n1' c1 A2 n2' c2 cs ps k' o' a2 b2 d2 e2 v' h' x' wd (HH1.out.bel BW2.out) NA2.out.x0 NA2.out.x1)
        have AK := Lib.hid (fun hE => act_keeps VX.out.hd NA2.out hE)
        have AD := Lib.hid (fun hE => act_drift VX.out.hd NA2.out hE HC2.out (fun e => HCO.out e.symm) HSH.out H6.out.1 (by omega) HS0.out HDR.out)
        obtain ⟨EE, hEE⟩ : ∃ E, aE cs ps (k', o', a2, b2, d2, e2, v', h', x') = E := ⟨_, rfl⟩
        obtain ⟨NN, hNN⟩ : ∃ N, aN cs ps (k', o', a2, b2, d2, e2, v', h', x') = N := ⟨_, rfl⟩
        obtain ⟨CC, hCC⟩ : ∃ l, aC cs ps (k', o', a2, b2, d2, e2, v', h', x') = l := ⟨_, rfl⟩
        obtain ⟨PQ, hPQ⟩ : ∃ l, aP cs ps (k', o', a2, b2, d2, e2, v', h', x') = l := ⟨_, rfl⟩
        rw [hEE, hNN, hCC, hPQ] at DO
        rw [hEE, hCC, hPQ] at AK AD
        have u0 := VC.out.blk.cell 0 rfl
        have u1 := VC.out.blk.cell 1 rfl
        have HXR := Lib.hid (rngB XB2.out)
        clear hEE hNN hCC hPQ HH1
        go_wp2_with ((with_reducible refine Rw.load_g ?_ 39 (.tmp 15) ?_ q 0 ?_ [.int .i64 k', .int .i64 o', .int .i64 a2, .int .i64 b2, .int .i64 d2, .int .i64 e2, .int .i64 v', .int .i64 h', .int .u64 x'] _ HXR.out Tryz.underlying39 ?_ ?_ ?_); rfl; rfl; rfl; rfl; kernel_rfl)
        refine DO.out.mono ?_
        rintro r U2 ⟨v1, v2, lv, rfl, _, _, ol', kb, hown⟩
        obtain ⟨own1, own2⟩ := hown NA2.out.k0 NA2.out.k2
        obtain ⟨F1, f1, e1, s1, _⟩ := own1.rs c6C
        obtain ⟨F2, f2, e2', s2, _⟩ := own2.rs c6P
        obtain ⟨F3, f3, e3⟩ := ownL_slice ol'
        subst e1 e2' e3
        obtain ⟨N1, hN1⟩ : ∃ N, CC.length = N := ⟨_, rfl⟩
        obtain ⟨N2, hN2⟩ : ∃ N, PQ.length = N := ⟨_, rfl⟩
        rw [hN1] at own1 s1 ⊢
        rw [hN2] at own2 s2 ⊢
        obtain ⟨V2, hV2⟩ : ∃ V2, U2.alloc (.cells #[.slice F1 N1 f1, .slice F2 N2 f2] 25) = V2 := ⟨_, rfl⟩
        have BV2 := Lib.hid (show Bel U2 V2 by rw [← hV2]; exact (Bel.refl U2).alloc _)
        have PG := Lib.hid (show Blk V2 U2.heap.size #[.slice F1 N1 f1, .slice F2 N2 f2] 25 by rw [← hV2]; exact Blk.new _ _ _)
        have O1 := Lib.hid (own1.bel BV2.out)
        have O2 := Lib.hid (own2.bel BV2.out)
        have BT := Lib.hid (BW2.out.trans (kb.trans BV2.out))
        have HBS := Lib.hid (show w.heap.size ≤ wd.heap.size from Below.size (BL.out.trans BW2.out))
        clear own1 own2 ol' kb s1 s2 hN1 hN2 u0 u1 HXR DO hown
        go_upto_region 20 with fail
        try rw [hV2]
        obtain ⟨gg, hgg⟩ : ∃ y, U2.heap.size = y := ⟨_, rfl⟩
        rw [hgg] at PG ⊢
        clear hgg hV2 BV2
        by_cases hE0 : EE = 0
        case neg =>
          have hEb : (EE == 0) = false := beq_eq_false_iff_ne.2 hE0
          have NX := Lib.hid (show Vq V2 g w.heap.size A1 n1' c1 A2 n2' c2 cs ps ∧ ps.length ≤ n + (i + 1) ∧ Bel w V2 ∧ Blk V2 gp ([.int .i64 r1, .int .i64 r2, .int .i64 r3, .int .i64 r4, .int .i64 r5, .int .u64 r6] : List Value).toArray 93 ∧ Blk V2 gw #[.int .u64 T0, .int .u64 S0] 46 ∧ shs ps (r1, r2, r3, r4, r5, 0) = r6 ∧ Drift r6 T0 S0 (polT cs (r2, r3, r4, r5, 0, 0)) (polS cs (r2, r3, r4, r5, 0, 0)) (nn : Int) from ⟨VX.out.bel BT.out, by have := HPL.out; omega, BL.out.trans BT.out, PP.out.bel BT.out, PW.out.bel BT.out, HSH.out, HDR.out⟩)
          go_wp2_with fail
          go_roundw
          case rel => exact ⟨i + 1, nn, by go_num, rfl, by omega, by omega, _, _, _, _, _, _, _, _, NX⟩
          case measure => simp [intOf]; omega
        subst hE0
        obtain ⟨hd, hpl, _⟩ := AK.out rfl
        obtain ⟨ad1, ad2⟩ := AD.out rfl
        have w0 := PG.out.cell 0 rfl
        have w1 := PG.out.cell 1 rfl
        have VE := Lib.hid (VX.out.bel BT.out)
        have y0 := VE.out.blk.cell 0 rfl
        have y1 := VE.out.blk.cell 1 rfl
        have yf0 := VE.out.blk.frozen 0
        have yf1 := VE.out.blk.frozen 1
        have P2 := PP.out.bel BT.out
        have P3 := PW.out.bel BT.out
        have n2' : ((nn : Int) + 1) = ((nn + 1 : Nat) : Int) := by omega
        rw [n2'] at ad2
        have NX := Lib.hid (show Vq ((V2.setCell ⟨g, 0, none⟩ (.slice F1 N1 f1)).setCell ⟨g, 1, none⟩ (.slice F2 N2 f2)) g w.heap.size F1 N1 f1 F2 N2 f2 CC PQ ∧ PQ.length ≤ n + (i + 1) ∧ Bel w ((V2.setCell ⟨g, 0, none⟩ (.slice F1 N1 f1)).setCell ⟨g, 1, none⟩ (.slice F2 N2 f2)) ∧ Blk ((V2.setCell ⟨g, 0, none⟩ (.slice F1 N1 f1)).setCell ⟨g, 1, none⟩ (.slice F2 N2 f2)) gp ([.int .i64 r1, .int .i64 r2, .int .i64 r3, .int .i64 r4, .int .i64 r5, .int .u64 r6] : List Value).toArray 93 ∧ Blk ((V2.setCell ⟨g, 0, none⟩ (.slice F1 N1 f1)).setCell ⟨g, 1, none⟩ (.slice F2 N2 f2)) gw #[.int .u64 T0, .int .u64 S0] 46 ∧ shs PQ (r1, r2, r3, r4, r5, 0) = r6 ∧ Drift r6 T0 S0 (polT CC (r2, r3, r4, r5, 0, 0)) (polS CC (r2, r3, r4, r5, 0, 0)) ((nn + 1 : Nat) : Int) from
          ⟨VE.out.put O1.out O2.out HBS.out hd, by have := HPL.out; omega, ((BL.out.trans BT.out).set (p := ⟨g, 0, none⟩) HGE.out _).set (p := ⟨g, 1, none⟩) HGE.out _, (P2.other (blk_ne P2 VE.out.blk (by decide)) 0 _).other (blk_ne P2 VE.out.blk (by decide)) 1 _, (P3.other (blk_ne P3 VE.out.blk (by decide)) 0 _).other (blk_ne P3 VE.out.blk (by decide)) 1 _, ad1, ad2⟩)
        have hnn3 : nn ≤ 20 := by omega
        clear hd hpl ad1 ad2 P2 P3 n2'
        go_wp2_with fail
        go_roundw
        case rel => exact ⟨i + 1, nn + 1, by go_num, by go_num, by omega, by omega, _, _, _, _, _, _, _, _, NX⟩
        case measure => simp [intOf]; omega
      have hb : (k' == 0) = true := beq_iff_eq.2 c0
      by_cases ci : im = 0
      case neg =>
        have hbi : (im == 0) = false := beq_eq_false_iff_ne.2 ci
        have hcut : Hid (∃ a2 b2 d2 e2, Sm.ck a2 b2 d2 e2 = 0 ∧ Blk wc q ([.int .i64 k', .int .i64 o', .int .i64 a2, .int .i64 b2, .int .i64 d2, .int .i64 e2, .int .i64 v', .int .i64 h', .int .u64 x'] : List Value).toArray 39 ∧ Bel wr wc) := Lib.hid ⟨a', b', d', e', HNA.out.ck, XB.out, BC.out⟩
        go_upto_region 19 with fail
        obtain ⟨wd, hwd⟩ : ∃ x, wc = x := ⟨_, rfl⟩
        rw [hwd] at hcut XB BC p0 ⊢
        clear hwd c0 hb hbi ci
        obtain ⟨a2, b2, d2, e2, hck, hq, hbw⟩ := hcut.out
        have NA2 := Lib.hid (show NearA k' o' a2 b2 d2 e2 v' h' x' from ⟨HNA.out.k0, HNA.out.k2, HNA.out.o0, HNA.out.o3, hck, HNA.out.v0, HNA.out.v3, HNA.out.h0, HNA.out.h1, HNA.out.x0, HNA.out.x1, HNA.out.x2⟩)
        have XB2 := Lib.hid hq
        have BW2 := Lib.hid hbw
        clear hcut hck hq hbw XB BC HNA p0 wim him
        have VC := Lib.hid (VX.out.bel BW2.out)
        have DO := Lib.hid (does_ A1 n1' c1 A2 n2' c2 cs ps k' o' a2 b2 d2 e2 v' h' x' wd (HH1.out.bel BW2.out) NA2.out.x0 NA2.out.x1)
        have AK := Lib.hid (fun hE => act_keeps VX.out.hd NA2.out hE)
        have AD := Lib.hid (fun hE => act_drift VX.out.hd NA2.out hE HC2.out (fun e => HCO.out e.symm) HSH.out H6.out.1 (by omega) HS0.out HDR.out)
        obtain ⟨EE, hEE⟩ : ∃ E, aE cs ps (k', o', a2, b2, d2, e2, v', h', x') = E := ⟨_, rfl⟩
        obtain ⟨NN, hNN⟩ : ∃ N, aN cs ps (k', o', a2, b2, d2, e2, v', h', x') = N := ⟨_, rfl⟩
        obtain ⟨CC, hCC⟩ : ∃ l, aC cs ps (k', o', a2, b2, d2, e2, v', h', x') = l := ⟨_, rfl⟩
        obtain ⟨PQ, hPQ⟩ : ∃ l, aP cs ps (k', o', a2, b2, d2, e2, v', h', x') = l := ⟨_, rfl⟩
        rw [hEE, hNN, hCC, hPQ] at DO
        rw [hEE, hCC, hPQ] at AK AD
        have u0 := VC.out.blk.cell 0 rfl
        have u1 := VC.out.blk.cell 1 rfl
        have HXR := Lib.hid (rngB XB2.out)
        clear hEE hNN hCC hPQ HH1
        go_wp2_with ((with_reducible refine Rw.load_g ?_ 39 (.tmp 15) ?_ q 0 ?_ [.int .i64 k', .int .i64 o', .int .i64 a2, .int .i64 b2, .int .i64 d2, .int .i64 e2, .int .i64 v', .int .i64 h', .int .u64 x'] _ HXR.out Tryz.underlying39 ?_ ?_ ?_); rfl; rfl; rfl; rfl; kernel_rfl)
        refine DO.out.mono ?_
        rintro r U2 ⟨v1, v2, lv, rfl, _, _, ol', kb, hown⟩
        obtain ⟨own1, own2⟩ := hown NA2.out.k0 NA2.out.k2
        obtain ⟨F1, f1, e1, s1, _⟩ := own1.rs c6C
        obtain ⟨F2, f2, e2', s2, _⟩ := own2.rs c6P
        obtain ⟨F3, f3, e3⟩ := ownL_slice ol'
        subst e1 e2' e3
        obtain ⟨N1, hN1⟩ : ∃ N, CC.length = N := ⟨_, rfl⟩
        obtain ⟨N2, hN2⟩ : ∃ N, PQ.length = N := ⟨_, rfl⟩
        rw [hN1] at own1 s1 ⊢
        rw [hN2] at own2 s2 ⊢
        obtain ⟨V2, hV2⟩ : ∃ V2, U2.alloc (.cells #[.slice F1 N1 f1, .slice F2 N2 f2] 25) = V2 := ⟨_, rfl⟩
        have BV2 := Lib.hid (show Bel U2 V2 by rw [← hV2]; exact (Bel.refl U2).alloc _)
        have PG := Lib.hid (show Blk V2 U2.heap.size #[.slice F1 N1 f1, .slice F2 N2 f2] 25 by rw [← hV2]; exact Blk.new _ _ _)
        have O1 := Lib.hid (own1.bel BV2.out)
        have O2 := Lib.hid (own2.bel BV2.out)
        have BT := Lib.hid (BW2.out.trans (kb.trans BV2.out))
        have HBS := Lib.hid (show w.heap.size ≤ wd.heap.size from Below.size (BL.out.trans BW2.out))
        clear own1 own2 ol' kb s1 s2 hN1 hN2 u0 u1 HXR DO hown
        go_upto_region 20 with fail
        try rw [hV2]
        obtain ⟨gg, hgg⟩ : ∃ y, U2.heap.size = y := ⟨_, rfl⟩
        rw [hgg] at PG ⊢
        clear hgg hV2 BV2
        by_cases hE0 : EE = 0
        case neg =>
          have hEb : (EE == 0) = false := beq_eq_false_iff_ne.2 hE0
          have NX := Lib.hid (show Vq V2 g w.heap.size A1 n1' c1 A2 n2' c2 cs ps ∧ ps.length ≤ n + (i + 1) ∧ Bel w V2 ∧ Blk V2 gp ([.int .i64 r1, .int .i64 r2, .int .i64 r3, .int .i64 r4, .int .i64 r5, .int .u64 r6] : List Value).toArray 93 ∧ Blk V2 gw #[.int .u64 T0, .int .u64 S0] 46 ∧ shs ps (r1, r2, r3, r4, r5, 0) = r6 ∧ Drift r6 T0 S0 (polT cs (r2, r3, r4, r5, 0, 0)) (polS cs (r2, r3, r4, r5, 0, 0)) (nn : Int) from ⟨VX.out.bel BT.out, by have := HPL.out; omega, BL.out.trans BT.out, PP.out.bel BT.out, PW.out.bel BT.out, HSH.out, HDR.out⟩)
          go_wp2_with fail
          go_roundw
          case rel => exact ⟨i + 1, nn, by go_num, rfl, by omega, by omega, _, _, _, _, _, _, _, _, NX⟩
          case measure => simp [intOf]; omega
        subst hE0
        obtain ⟨hd, hpl, _⟩ := AK.out rfl
        obtain ⟨ad1, ad2⟩ := AD.out rfl
        have w0 := PG.out.cell 0 rfl
        have w1 := PG.out.cell 1 rfl
        have VE := Lib.hid (VX.out.bel BT.out)
        have y0 := VE.out.blk.cell 0 rfl
        have y1 := VE.out.blk.cell 1 rfl
        have yf0 := VE.out.blk.frozen 0
        have yf1 := VE.out.blk.frozen 1
        have P2 := PP.out.bel BT.out
        have P3 := PW.out.bel BT.out
        have n2' : ((nn : Int) + 1) = ((nn + 1 : Nat) : Int) := by omega
        rw [n2'] at ad2
        have NX := Lib.hid (show Vq ((V2.setCell ⟨g, 0, none⟩ (.slice F1 N1 f1)).setCell ⟨g, 1, none⟩ (.slice F2 N2 f2)) g w.heap.size F1 N1 f1 F2 N2 f2 CC PQ ∧ PQ.length ≤ n + (i + 1) ∧ Bel w ((V2.setCell ⟨g, 0, none⟩ (.slice F1 N1 f1)).setCell ⟨g, 1, none⟩ (.slice F2 N2 f2)) ∧ Blk ((V2.setCell ⟨g, 0, none⟩ (.slice F1 N1 f1)).setCell ⟨g, 1, none⟩ (.slice F2 N2 f2)) gp ([.int .i64 r1, .int .i64 r2, .int .i64 r3, .int .i64 r4, .int .i64 r5, .int .u64 r6] : List Value).toArray 93 ∧ Blk ((V2.setCell ⟨g, 0, none⟩ (.slice F1 N1 f1)).setCell ⟨g, 1, none⟩ (.slice F2 N2 f2)) gw #[.int .u64 T0, .int .u64 S0] 46 ∧ shs PQ (r1, r2, r3, r4, r5, 0) = r6 ∧ Drift r6 T0 S0 (polT CC (r2, r3, r4, r5, 0, 0)) (polS CC (r2, r3, r4, r5, 0, 0)) ((nn + 1 : Nat) : Int) from
          ⟨VE.out.put O1.out O2.out HBS.out hd, by have := HPL.out; omega, ((BL.out.trans BT.out).set (p := ⟨g, 0, none⟩) HGE.out _).set (p := ⟨g, 1, none⟩) HGE.out _, (P2.other (blk_ne P2 VE.out.blk (by decide)) 0 _).other (blk_ne P2 VE.out.blk (by decide)) 1 _, (P3.other (blk_ne P3 VE.out.blk (by decide)) 0 _).other (blk_ne P3 VE.out.blk (by decide)) 1 _, ad1, ad2⟩)
        have hnn3 : nn ≤ 20 := by omega
        clear hd hpl ad1 ad2 P2 P3 n2'
        go_wp2_with fail
        go_roundw
        case rel => exact ⟨i + 1, nn + 1, by go_num, by go_num, by omega, by omega, _, _, _, _, _, _, _, _, NX⟩
        case measure => simp [intOf]; omega
      have hbi : (im == 0) = true := beq_iff_eq.2 ci
      obtain ⟨t1, t2, t3, t4⟩ : (_ ∧ _ ∧ _ ∧ _) := ⟨(PP.out.bel BC.out).cell 1 rfl, (PP.out.bel BC.out).cell 2 rfl, (PP.out.bel BC.out).cell 3 rfl, (PP.out.bel BC.out).cell 4 rfl⟩
      obtain ⟨q2, q3, q4, q5⟩ : (_ ∧ _ ∧ _ ∧ _) := ⟨XB.out.cell 2 rfl, XB.out.cell 3 rfl, XB.out.cell 4 rfl, XB.out.cell 5 rfl⟩
      obtain ⟨qf2, qf3, qf4, qf5⟩ : (_ ∧ _ ∧ _ ∧ _) := ⟨XB.out.frozen 2, XB.out.frozen 3, XB.out.frozen 4, XB.out.frozen 5⟩
      have XN := Lib.hid (bset (Y := [.int .i64 k', .int .i64 o', .int .i64 r2, .int .i64 r3, .int .i64 r4, .int .i64 e', .int .i64 v', .int .i64 h', .int .u64 x']) (Y' := [.int .i64 k', .int .i64 o', .int .i64 r2, .int .i64 r3, .int .i64 r4, .int .i64 r5, .int .i64 v', .int .i64 h', .int .u64 x']) (bset (Y := [.int .i64 k', .int .i64 o', .int .i64 r2, .int .i64 r3, .int .i64 d', .int .i64 e', .int .i64 v', .int .i64 h', .int .u64 x']) (Y' := [.int .i64 k', .int .i64 o', .int .i64 r2, .int .i64 r3, .int .i64 r4, .int .i64 e', .int .i64 v', .int .i64 h', .int .u64 x']) (bset (Y := [.int .i64 k', .int .i64 o', .int .i64 r2, .int .i64 b', .int .i64 d', .int .i64 e', .int .i64 v', .int .i64 h', .int .u64 x']) (Y' := [.int .i64 k', .int .i64 o', .int .i64 r2, .int .i64 r3, .int .i64 d', .int .i64 e', .int .i64 v', .int .i64 h', .int .u64 x']) (bset (Y := [.int .i64 k', .int .i64 o', .int .i64 a', .int .i64 b', .int .i64 d', .int .i64 e', .int .i64 v', .int .i64 h', .int .u64 x']) (Y' := [.int .i64 k', .int .i64 o', .int .i64 r2, .int .i64 b', .int .i64 d', .int .i64 e', .int .i64 v', .int .i64 h', .int .u64 x']) (XB.out) 2 (.int .i64 r2) rfl) 3 (.int .i64 r3) rfl) 4 (.int .i64 r4) rfl) 5 (.int .i64 r5) rfl)
      have BN := Lib.hid (((((BC.out).set (p := ⟨q, 2, none⟩) HQ.out (.int .i64 r2)).set (p := ⟨q, 3, none⟩) HQ.out (.int .i64 r3)).set (p := ⟨q, 4, none⟩) HQ.out (.int .i64 r4)).set (p := ⟨q, 5, none⟩) HQ.out (.int .i64 r5))
      obtain ⟨wd, hwd⟩ : ∃ x, ((((wc.setCell ⟨q, 2, none⟩ (.int .i64 r2)).setCell ⟨q, 3, none⟩ (.int .i64 r3)).setCell ⟨q, 4, none⟩ (.int .i64 r4)).setCell ⟨q, 5, none⟩ (.int .i64 r5)) = x := ⟨_, rfl⟩
      rw [hwd] at XN BN
      have hcut : Hid (∃ a2 b2 d2 e2, Sm.ck a2 b2 d2 e2 = 0 ∧ Blk wd q ([.int .i64 k', .int .i64 o', .int .i64 a2, .int .i64 b2, .int .i64 d2, .int .i64 e2, .int .i64 v', .int .i64 h', .int .u64 x'] : List Value).toArray 39 ∧ Bel wr wd) := Lib.hid ⟨r2, r3, r4, r5, HCK.out, XN.out, BN.out⟩
      go_upto_region 19 with fail
      try rw [hwd]
      clear hwd c0 hb hbi ci XN BN t1 t2 t3 t4 q2 q3 q4 q5 qf2 qf3 qf4 qf5
      obtain ⟨a2, b2, d2, e2, hck, hq, hbw⟩ := hcut.out
      have NA2 := Lib.hid (show NearA k' o' a2 b2 d2 e2 v' h' x' from ⟨HNA.out.k0, HNA.out.k2, HNA.out.o0, HNA.out.o3, hck, HNA.out.v0, HNA.out.v3, HNA.out.h0, HNA.out.h1, HNA.out.x0, HNA.out.x1, HNA.out.x2⟩)
      have XB2 := Lib.hid hq
      have BW2 := Lib.hid hbw
      clear hcut hck hq hbw XB BC HNA p0 wim him
      have VC := Lib.hid (VX.out.bel BW2.out)
      have DO := Lib.hid (does_ A1 n1' c1 A2 n2' c2 cs ps k' o' a2 b2 d2 e2 v' h' x' wd (HH1.out.bel BW2.out) NA2.out.x0 NA2.out.x1)
      have AK := Lib.hid (fun hE => act_keeps VX.out.hd NA2.out hE)
      have AD := Lib.hid (fun hE => act_drift VX.out.hd NA2.out hE HC2.out (fun e => HCO.out e.symm) HSH.out H6.out.1 (by omega) HS0.out HDR.out)
      obtain ⟨EE, hEE⟩ : ∃ E, aE cs ps (k', o', a2, b2, d2, e2, v', h', x') = E := ⟨_, rfl⟩
      obtain ⟨NN, hNN⟩ : ∃ N, aN cs ps (k', o', a2, b2, d2, e2, v', h', x') = N := ⟨_, rfl⟩
      obtain ⟨CC, hCC⟩ : ∃ l, aC cs ps (k', o', a2, b2, d2, e2, v', h', x') = l := ⟨_, rfl⟩
      obtain ⟨PQ, hPQ⟩ : ∃ l, aP cs ps (k', o', a2, b2, d2, e2, v', h', x') = l := ⟨_, rfl⟩
      rw [hEE, hNN, hCC, hPQ] at DO
      rw [hEE, hCC, hPQ] at AK AD
      have u0 := VC.out.blk.cell 0 rfl
      have u1 := VC.out.blk.cell 1 rfl
      have HXR := Lib.hid (rngB XB2.out)
      clear hEE hNN hCC hPQ HH1
      go_wp2_with ((with_reducible refine Rw.load_g ?_ 39 (.tmp 15) ?_ q 0 ?_ [.int .i64 k', .int .i64 o', .int .i64 a2, .int .i64 b2, .int .i64 d2, .int .i64 e2, .int .i64 v', .int .i64 h', .int .u64 x'] _ HXR.out Tryz.underlying39 ?_ ?_ ?_); rfl; rfl; rfl; rfl; kernel_rfl)
      refine DO.out.mono ?_
      rintro r U2 ⟨v1, v2, lv, rfl, _, _, ol', kb, hown⟩
      obtain ⟨own1, own2⟩ := hown NA2.out.k0 NA2.out.k2
      obtain ⟨F1, f1, e1, s1, _⟩ := own1.rs c6C
      obtain ⟨F2, f2, e2', s2, _⟩ := own2.rs c6P
      obtain ⟨F3, f3, e3⟩ := ownL_slice ol'
      subst e1 e2' e3
      obtain ⟨N1, hN1⟩ : ∃ N, CC.length = N := ⟨_, rfl⟩
      obtain ⟨N2, hN2⟩ : ∃ N, PQ.length = N := ⟨_, rfl⟩
      rw [hN1] at own1 s1 ⊢
      rw [hN2] at own2 s2 ⊢
      obtain ⟨V2, hV2⟩ : ∃ V2, U2.alloc (.cells #[.slice F1 N1 f1, .slice F2 N2 f2] 25) = V2 := ⟨_, rfl⟩
      have BV2 := Lib.hid (show Bel U2 V2 by rw [← hV2]; exact (Bel.refl U2).alloc _)
      have PG := Lib.hid (show Blk V2 U2.heap.size #[.slice F1 N1 f1, .slice F2 N2 f2] 25 by rw [← hV2]; exact Blk.new _ _ _)
      have O1 := Lib.hid (own1.bel BV2.out)
      have O2 := Lib.hid (own2.bel BV2.out)
      have BT := Lib.hid (BW2.out.trans (kb.trans BV2.out))
      have HBS := Lib.hid (show w.heap.size ≤ wd.heap.size from Below.size (BL.out.trans BW2.out))
      clear own1 own2 ol' kb s1 s2 hN1 hN2 u0 u1 HXR DO hown
      go_upto_region 20 with fail
      try rw [hV2]
      obtain ⟨gg, hgg⟩ : ∃ y, U2.heap.size = y := ⟨_, rfl⟩
      rw [hgg] at PG ⊢
      clear hgg hV2 BV2
      by_cases hE0 : EE = 0
      case neg =>
        have hEb : (EE == 0) = false := beq_eq_false_iff_ne.2 hE0
        have NX := Lib.hid (show Vq V2 g w.heap.size A1 n1' c1 A2 n2' c2 cs ps ∧ ps.length ≤ n + (i + 1) ∧ Bel w V2 ∧ Blk V2 gp ([.int .i64 r1, .int .i64 r2, .int .i64 r3, .int .i64 r4, .int .i64 r5, .int .u64 r6] : List Value).toArray 93 ∧ Blk V2 gw #[.int .u64 T0, .int .u64 S0] 46 ∧ shs ps (r1, r2, r3, r4, r5, 0) = r6 ∧ Drift r6 T0 S0 (polT cs (r2, r3, r4, r5, 0, 0)) (polS cs (r2, r3, r4, r5, 0, 0)) (nn : Int) from ⟨VX.out.bel BT.out, by have := HPL.out; omega, BL.out.trans BT.out, PP.out.bel BT.out, PW.out.bel BT.out, HSH.out, HDR.out⟩)
        go_wp2_with fail
        go_roundw
        case rel => exact ⟨i + 1, nn, by go_num, rfl, by omega, by omega, _, _, _, _, _, _, _, _, NX⟩
        case measure => simp [intOf]; omega
      subst hE0
      obtain ⟨hd, hpl, _⟩ := AK.out rfl
      obtain ⟨ad1, ad2⟩ := AD.out rfl
      have w0 := PG.out.cell 0 rfl
      have w1 := PG.out.cell 1 rfl
      have VE := Lib.hid (VX.out.bel BT.out)
      have y0 := VE.out.blk.cell 0 rfl
      have y1 := VE.out.blk.cell 1 rfl
      have yf0 := VE.out.blk.frozen 0
      have yf1 := VE.out.blk.frozen 1
      have P2 := PP.out.bel BT.out
      have P3 := PW.out.bel BT.out
      have n2' : ((nn : Int) + 1) = ((nn + 1 : Nat) : Int) := by omega
      rw [n2'] at ad2
      have NX := Lib.hid (show Vq ((V2.setCell ⟨g, 0, none⟩ (.slice F1 N1 f1)).setCell ⟨g, 1, none⟩ (.slice F2 N2 f2)) g w.heap.size F1 N1 f1 F2 N2 f2 CC PQ ∧ PQ.length ≤ n + (i + 1) ∧ Bel w ((V2.setCell ⟨g, 0, none⟩ (.slice F1 N1 f1)).setCell ⟨g, 1, none⟩ (.slice F2 N2 f2)) ∧ Blk ((V2.setCell ⟨g, 0, none⟩ (.slice F1 N1 f1)).setCell ⟨g, 1, none⟩ (.slice F2 N2 f2)) gp ([.int .i64 r1, .int .i64 r2, .int .i64 r3, .int .i64 r4, .int .i64 r5, .int .u64 r6] : List Value).toArray 93 ∧ Blk ((V2.setCell ⟨g, 0, none⟩ (.slice F1 N1 f1)).setCell ⟨g, 1, none⟩ (.slice F2 N2 f2)) gw #[.int .u64 T0, .int .u64 S0] 46 ∧ shs PQ (r1, r2, r3, r4, r5, 0) = r6 ∧ Drift r6 T0 S0 (polT CC (r2, r3, r4, r5, 0, 0)) (polS CC (r2, r3, r4, r5, 0, 0)) ((nn + 1 : Nat) : Int) from
        ⟨VE.out.put O1.out O2.out HBS.out hd, by have := HPL.out; omega, ((BL.out.trans BT.out).set (p := ⟨g, 0, none⟩) HGE.out _).set (p := ⟨g, 1, none⟩) HGE.out _, (P2.other (blk_ne P2 VE.out.blk (by decide)) 0 _).other (blk_ne P2 VE.out.blk (by decide)) 1 _, (P3.other (blk_ne P3 VE.out.blk (by decide)) 0 _).other (blk_ne P3 VE.out.blk (by decide)) 1 _, ad1, ad2⟩)
      have hnn3 : nn ≤ 20 := by omega
      clear hd hpl ad1 ad2 P2 P3 n2'
      go_wp2_with fail
      go_roundw
      case rel => exact ⟨i + 1, nn + 1, by go_num, by go_num, by omega, by omega, _, _, _, _, _, _, _, _, NX⟩
      case measure => simp [intOf]; omega
end Ho
end Go.Proofs.YtneajcoiemkfbaaGreat
