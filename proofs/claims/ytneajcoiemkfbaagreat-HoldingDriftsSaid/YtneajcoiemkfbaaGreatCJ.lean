/-
  Texts of this claim, put together: Ho22, Ho23, Ho24, Ho25. What each one says, and under which conditions, stands ahead of it.
-/
import Derived.Test.YtneajcoiemkfbaaGreatTk
import Derived.Test.YtneajcoiemkfbaaGreatCI

section
/-
  What holding.changed makes of a copy. Conditions: the holding has at most a million rows; amounts are words; the change keeps to the book and to Y.
-/
namespace Go.Proofs.YtneajcoiemkfbaaGreat
open Go.RowKit Go.Shelf
set_option linter.unusedVariables false
set_option linter.unusedSimpArgs false
namespace Ho
open Kk Pm

theorem cloneC' (A : Option Addr) (n c : Nat) (l : List R6) (w : World) (hi : RS cC w A n c l) (hn : n ≤ 1000000) :
    Calls Tryz.prog 135 #[.slice A n c] w fun e w' => ∃ A2 n2 c2, e = .returned (.slice A2 n2 c2) ∧ OwnR cC 90 w' w.heap.size (.slice A2 n2 c2) l ∧ Bel w w' := by
  refine (cloneC A n c l w hi (by omega)).mono ?_
  rintro e w' ⟨v, rfl, ho, kb⟩
  obtain ⟨A2, c2, rfl, _⟩ := ho.rs c6C
  exact ⟨_, _, _, rfl, ho, kb⟩
theorem cloneP' (A : Option Addr) (n c : Nat) (l : List R6) (w : World) (hi : RS cP w A n c l) (hn : n ≤ 1000000) :
    Calls Tryz.prog 172 #[.slice A n c] w fun e w' => ∃ A2 n2 c2, e = .returned (.slice A2 n2 c2) ∧ OwnR cP 93 w' w.heap.size (.slice A2 n2 c2) l ∧ Bel w w' := by
  refine (cloneP A n c l w hi (by omega)).mono ?_
  rintro e w' ⟨v, rfl, ho, kb⟩
  obtain ⟨A2, c2, rfl, _⟩ := ho.rs c6P
  exact ⟨_, _, _, rfl, ho, kb⟩
theorem own_ge {k : R6 → List Value} {t : TypeId} {w : World} {base b : Nat} {v : Value} {l : List R6} (h : OwnR k t w base v l) (hb : v.ownBlock = some b) : base ≤ b := by
  rcases h.2 with ⟨rfl, _⟩ | ⟨g, cap, cur, rfl, hge, _⟩
  · cases hb
  · obtain rfl : g = b := Option.some.inj hb
    exact hge
theorem kep_after {S Y : Nat → Prop} {w V V' : World} (hb : Kep Y w V) (hk : Kep S V V') (hs : ∀ k, S k → w.heap.size ≤ k) : Kep Y w V' :=
  ⟨hk.os.trans hb.os, hk.tape.trans hb.tape, hk.output.trans hb.output, Nat.le_trans hb.size hk.size, fun i hi hY => (hk.block i (Nat.lt_of_lt_of_le hi hb.size) (fun h => absurd (hs i h) (by omega))).trans (hb.block i hi hY)⟩
theorem res_cii' {fn : Func} {p q s : Tmp} {tp : TypeId} (h : fn.results = #[.cell p tp, .tmp q, .tmp s]) (tmps : Array Value) (w : World) (a : Addr) (X U V : Value)
    (hp : tmps.getD p undef = .pointer (some a)) (hq : tmps.getD q undef = U) (hs : tmps.getD s undef = V) (hX : (loadVar tp a).run Tryz.prog w = .ok X w) :
    (results fn tmps).run Tryz.prog w = .ok (.tuple #[X, U, V]) w := Sh.res_cii h tmps w a X U V hp hq hs hX
theorem kep_from {S Y : Nat → Prop} {w V V' : World} (hb : Bel w V) (hk : Kep S V V') (hs : ∀ k, k < w.heap.size → S k → Y k) : Kep Y w V' :=
  ⟨hk.os.trans (Below.os hb), hk.tape.trans (Below.tape hb), hk.output.trans (Below.output hb), Nat.le_trans (Below.size hb) hk.size, fun i hi hY => (hk.block i (Nat.lt_of_lt_of_le hi (Below.size hb)) (fun h => hY (hs i hi h))).trans (Below.block hb i hi)⟩
/-- What changed tells of E, the change's own. -/
def chE (cs ps : List R6) (E : Int) : Int := Sh.fE [chkH cs ps, E]
theorem chE_ways (cs ps : List R6) (E : Int) : (¬ chkH cs ps = 0 → chE cs ps E = chkH cs ps) ∧ (chkH cs ps = 0 → chE cs ps E = E) := by
  unfold chE
  refine ⟨fun h => fE_no h, fun h => ?_⟩
  rw [h, fE_go]
  by_cases h2 : E = 0
  · rw [h2]; rfl
  · rw [fE_no h2]
set_option maxRecDepth 100000 in
set_option maxHeartbeats 8000000 in
theorem changed_ (A : Option Addr) (n c : Nat) (B : Option Addr) (m d : Nat) (cs ps cs' ps' : List R6) (F : Nat) (lb : Array Value) (N E : Int) (Y : Nat → Prop) (R R0 : World → Prop) (w : World) (hh : HH w A n c B m d cs ps) (hY : ∀ b, Y b → b < w.heap.size)
    (eg : ∀ args w, (callFunc F args).run Tryz.prog w = .ok (.enter F args) w)
    (hR : ∀ V V' g C, Blk V g C 25 → w.heap.size ≤ g → Kep (fun b => b = g) V V' → (R V → R V') ∧ (R0 V → R0 V')) (hR0 : ∀ V, Bel w V → R0 V)
    (hF : Ok cs ps → ∀ base p k1 k2 V, Bel w V → w.heap.size ≤ p → w.heap.size ≤ base → base ≤ V.heap.size → BK V base p k1 k2 cs ps → Calls Tryz.prog F (#[.pointer (some ⟨p, 0, none⟩)] ++ lb) V fun e V' => e = .returned (.tuple #[.int .u64 N, .int .i64 E]) ∧ Kep (fun b => (b = p ∨ k1.ownBlock = some b ∨ k2.ownBlock = some b) ∨ Y b) V V' ∧ (E = 0 → R V' ∧ ∃ k1' k2', BK V' base p k1' k2' cs' ps') ∧ (¬ E = 0 → R0 V')) :
    Calls Tryz.prog 116 #[.agg #[.slice A n c, .slice B m d], .func (.func F) #[] lb] w fun e w' => ∃ v1 v2, e = .returned (.tuple #[.agg #[v1, v2], .int .u64 (if chE cs ps E = 0 then N else 0), .int .i64 (chE cs ps E)]) ∧
      OwnR cC 90 w' w.heap.size v1 (if chE cs ps E = 0 then cs' else []) ∧ OwnR cP 93 w' w.heap.size v2 (if chE cs ps E = 0 then ps' else []) ∧ Kep Y w w' ∧ (chE cs ps E = 0 → R w') ∧ (¬ chE cs ps E = 0 → R0 w') := by
  obtain ⟨W, hW⟩ : ∃ W, (w.alloc (.cells #[.slice A n c, .slice B m d] 25)).alloc (.cells #[.slice none 0 0, .slice none 0 0] 25) = W := ⟨_, rfl⟩
  have B0 := Lib.hid (show Bel w W by rw [← hW]; exact ((Bel.refl w).alloc _).alloc _)
  have PG := Lib.hid (show Blk W w.heap.size #[.slice A n c, .slice B m d] 25 by rw [← hW]; exact (Blk.new _ _ _).alloc _)
  have PR := Lib.hid (show Blk W (w.heap.size + 1) #[.slice none 0 0, .slice none 0 0] 25 by rw [← hW]; have h := Blk.new (w.alloc (.cells #[.slice A n c, .slice B m d] 25)) #[.slice none 0 0, .slice none 0 0] 25; simpa using h)
  have HH0 := Lib.hid hh
  have CK := Lib.hid (hh.bel B0.out).chk
  have HF := Lib.hid hF
  have HR := Lib.hid hR
  have HR0 := Lib.hid hR0
  have HYW := Lib.hid hY
  have hok := ok_iff cs ps
  obtain ⟨Q, hQ⟩ : ∃ Q, chkH cs ps = Q := ⟨_, rfl⟩
  obtain ⟨G, hG⟩ : ∃ G, chE cs ps E = G := ⟨_, rfl⟩
  have hw := chE_ways cs ps E
  rw [hQ, hG] at hw
  rw [hQ] at CK hok
  rw [hG]
  have HWY := Lib.hid hw
  have HOK := Lib.hid hok
  clear hh hF hR hR0 hY hQ hG hw hok
  go_enter Tryz.func116, Tryz.ntmps116
  go_upto_region 1 with fail
  try rw [hW]
  obtain ⟨g, hg⟩ : ∃ g, w.heap.size = g := ⟨_, rfl⟩
  have HG := Lib.hid hg
  rw [hg] at PG PR ⊢
  clear hg hW
  have g0 := PG.out.cell 0 rfl
  have g1 := PG.out.cell 1 rfl
  go_wp2_with fail
  refine CK.out.mono ?_
  rintro e V ⟨rfl, kb⟩
  have BV := Lib.hid (B0.out.trans kb)
  have PGV := Lib.hid (PG.out.bel kb)
  have PRV := Lib.hid (PR.out.bel kb)
  clear kb g0 g1 PG PR CK
  by_cases hQ0 : Q = 0
  case neg =>
    obtain rfl : G = Q := HWY.out.1 hQ0
    have hne : (G != 0) = true := by rw [bne_iff_ne]; exact hQ0
    have r0 := PRV.out.cell 0 rfl
    have r1 := PRV.out.cell 1 rfl
    have rf0 := PRV.out.frozen 0
    have rf1 := PRV.out.frozen 1
    go_wp2_with fail
    have PR2 : Blk ((V.setCell ⟨g + 1, 0, none⟩ (.slice none 0 0)).setCell ⟨g + 1, 1, none⟩ (.slice none 0 0)) (g + 1) #[.slice none 0 0, .slice none 0 0] 25 := (PRV.out.set 0 _).set 1 _
    have hge : w.heap.size ≤ g + 1 := by have := HG.out; omega
    refine bodyPost_ret (v := .tuple #[.agg #[.slice none 0 0, .slice none 0 0], .int .u64 0, .int .i64 G]) (res_cii' rfl _ _ ⟨g + 1, 0, none⟩ _ _ _ rfl rfl rfl (Pm.load_b (C := [.slice none 0 0, .slice none 0 0]) PR2 Tryz.underlying25 rfl info_h)) rfl ?_
    have hbe := (BV.out.set (p := ⟨g + 1, 0, none⟩) hge (.slice none 0 0)).set (p := ⟨g + 1, 1, none⟩) hge (.slice none 0 0)
    first
      | exact ⟨_, _, rfl, OwnR.nil_ _ _ _ _, OwnR.nil_ _ _ _ _, Kep.of_bel hbe, HR0.out _ hbe⟩
      | exact ⟨_, _, rfl, OwnR.nil_ _ _ _ _, OwnR.nil_ _ _ _ _, Kep.of_bel hbe, fun _ => HR0.out _ hbe⟩
      | exact ⟨_, _, rfl, OwnR.nil_ _ _ _ _, OwnR.nil_ _ _ _ _, Kep.of_bel hbe, fun h => absurd h hQ0, fun _ => HR0.out _ hbe⟩
  subst hQ0
  go_upto_region 4 with fail
  refine wp_region_held_drew (S := fun Vx => Bel V Vx) (by kernel_rfl) (Bel.refl _).drew (fun hS0 => ?_)
  obtain ⟨w6, hw6⟩ : ∃ w6, World.drew V = w6 := ⟨_, rfl⟩
  rw [hw6] at hS0 ⊢
  clear hw6
  refine ztk 0 { dst := some 17, op := .fieldAddr 25 (.tmp 2) 0, type := 0, pos := "book.go:19", after := #[], guard := none } (.pointer (some ⟨g, 0, none⟩)) (Or.inl ⟨by rfl, by intro w hSw; clear hSw; go_simp⟩) hS0 ?_
  try simp only [Act.put, zq1, zq2, zq3]
  refine ztk 1 { dst := some 18, op := .load 22 (.tmp 17), type := 22, pos := "book.go:19", after := #[{ on := 0, ground := .data }], guard := none } (.slice A n c) (Or.inl ⟨by rfl, by intro w h; have hcell := ((PGV.out.bel h).cell 0 rfl); clear h; go_simp⟩) hS0 ?_
  try simp only [Act.put, zq1, zq2, zq3]
  refine ztk 3 { dst := some 20, op := .fieldAddr 25 (.tmp 2) 1, type := 0, pos := "book.go:19", after := #[], guard := none } (.pointer (some ⟨g, 1, none⟩)) (Or.inl ⟨by rfl, by intro w hSw; clear hSw; go_simp⟩) hS0 ?_
  try simp only [Act.put, zq1, zq2, zq3]
  refine ztk 4 { dst := some 21, op := .load 23 (.tmp 20), type := 23, pos := "book.go:19", after := #[{ on := 3, ground := .data }], guard := none } (.slice B m d) (Or.inl ⟨by rfl, by intro w h; have hcell := ((PGV.out.bel h).cell 1 rfl); clear h; go_simp⟩) hS0 ?_
  try simp only [Act.put, zq1, zq2, zq3]
  refine wpAnyH_ready (rs := [2]) (by kernel_rfl) (by simp) ?_
  refine AllReadyH.cons (o := { dst := some 19, op := .call { callee := .value (.func 135), args := #[.tmp 18], argTypes := #[22] }, type := 22, pos := "book.go:19", after := #[{ on := 1, ground := .data }], guard := none }) rfl (fun K hK => ?_) AllReadyH.nil
  go_simp
  refine (cloneC' A n c cs _ (HH0.out.cls.bel (BV.out.trans hS0)) HH0.out.cn).mono ?_
  rintro e v1 ⟨A2, n2, c2, rfl, co, kb⟩
  go_wp2_with fail
  refine hK.out _ _ (hS0.trans kb) (fun hS1 => ?_)
  clear hK K
  try simp only [Act.put, zq1, zq2, zq3]
  refine wpAnyH_ready (rs := [5]) (by kernel_rfl) (by simp) ?_
  refine AllReadyH.cons (o := { dst := some 22, op := .call { callee := .value (.func 172), args := #[.tmp 21], argTypes := #[23] }, type := 23, pos := "book.go:19", after := #[{ on := 4, ground := .data }, { on := 2, ground := .chain }], guard := none }) rfl (fun K hK => ?_) AllReadyH.nil
  go_simp
  refine (cloneP' B m d ps _ (HH0.out.pos.bel (BV.out.trans hS1)) HH0.out.pm).mono ?_
  rintro e v2 ⟨B2, m2, d2, rfl, po, kc⟩
  go_wp2_with fail
  refine hK.out _ _ (hS1.trans kc) (fun hS2 => ?_)
  clear hK K
  try simp only [Act.put, zq1, zq2, zq3]
  refine ztk 6 { dst := some 23, op := .build 210 #[(0, .tmp 19), (1, .tmp 22)], type := 210, pos := "book.go:19", after := #[{ on := 2, ground := .data }, { on := 5, ground := .data }], guard := none } (.agg #[.slice A2 n2 c2, .slice B2 m2 d2]) (Or.inl ⟨by rfl, by intro w hSw; clear hSw; go_simp⟩) hS2 ?_
  try simp only [Act.put, zq1, zq2, zq3]
  refine wpAnyH_ready (rs := [7]) (by kernel_rfl) (by simp) ?_
  refine AllReadyH.cons (o := { dst := some 24, op := .box 210 (.tmp 23), type := 152, pos := "book.go:19", after := #[{ on := 6, ground := .data }], guard := none }) rfl (fun K hK => ?_) AllReadyH.nil
  go_simp
  refine hK.out _ _ (hS2.alloc _) (fun hS3 => ?_)
  clear hK K
  try simp only [Act.put, zq1, zq2, zq3]
  have glb := Blk.new v2 #[.slice A2 n2 c2, .slice B2 m2 d2] 210
  have gll := Lib.hid (Below.size hS2)
  generalize hvq : World.alloc v2 (Obj.cells #[.slice A2 n2 c2, .slice B2 m2 d2] 210) = v3 at glb hS3 ⊢
  have glk : Bel v2 v3 := by rw [← hvq]; exact (Bel.refl _).alloc _
  clear hvq
  obtain ⟨gl, hgq⟩ : ∃ g, (World.heap v2).size = g := ⟨_, rfl⟩
  rw [hgq] at glb gll ⊢
  clear hgq
  have glb := Lib.hid glb
  refine ztk 8 { dst := some 8, op := .assign (.tmp 24), type := 152, pos := "book.go:19", after := #[{ on := 7, ground := .data }, { on := 5, ground := .chain }, { on := 0, ground := .phase }, { on := 1, ground := .phase }, { on := 2, ground := .phase }, { on := 3, ground := .phase }, { on := 4, ground := .phase }, { on := 5, ground := .phase }, { on := 6, ground := .phase }, { on := 7, ground := .phase }], guard := none } (.pointer (some ⟨gl, 0, none⟩)) (Or.inl ⟨by rfl, by intro w hSw; clear hSw; go_simp⟩) hS3 ?_
  try simp only [Act.put, zq1, zq2, zq3]
  refine wpAnyH_done (by kernel_rfl) ?_ _
  have hgl : V.heap.size ≤ gl := gll.out
  have CO : OwnR cC 90 v3 V.heap.size (.slice A2 n2 c2) cs := by first | exact ((co.mono (Below.size hS0)).bel kc).bel glk | exact (co.mono (Below.size hS1)).bel glk
  have PO : OwnR cP 93 v3 V.heap.size (.slice B2 m2 d2) ps := by first | exact (po.mono (Below.size hS1)).bel glk | exact ((po.mono (Below.size hS0)).bel kb).bel glk
  have HBK := Lib.hid (⟨glb.out, CO, PO⟩ : BK v3 V.heap.size gl (.slice A2 n2 c2) (.slice B2 m2 d2) cs ps)
  have HS := Lib.hid hS3
  have HC := Lib.hid (HF.out (HOK.out.1 (by first | rfl | trivial)) V.heap.size gl _ _ v3 (BV.out.trans hS3) (Nat.le_trans (Below.size BV.out) hgl) (Below.size BV.out) (Below.size hS3) HBK.out)
  have HGL := Lib.hid (Nat.le_trans (Below.size BV.out) hgl)
  have PR3 := Lib.hid (PRV.out.bel hS3)
  have HGE := Lib.hid (show G = E from HWY.out.2 (by first | rfl | trivial))
  have NR := Lib.hid (show ¬ ((g + 1 = gl ∨ (Value.slice A2 n2 c2).ownBlock = some (g + 1) ∨ (Value.slice B2 m2 d2).ownBlock = some (g + 1)) ∨ Y (g + 1)) from fun e => by
    rcases e with e | e
    · exact HBK.out.not_in PR3.out (by decide) (by decide) (by decide) e
    · have := HYW.out _ e
      have := HG.out
      omega)
  clear CO PO co po kb kc glb glk gll hS0 hS1 hS2 hS3 hgl
  go_upto_region 5 with fail
  go_wp2_with fail
  refine HC.out.mono ?_
  rintro e V4 ⟨rfl, hk, hpost, hpost0⟩
  have HK4 := Lib.hid (kep_from (Y := Y) (BV.out.trans HS.out) hk (fun i hi h => by
    rcases h with (h | h | h) | h
    · have := HGL.out; omega
    · have := own_ge HBK.out.oc h; have := Below.size BV.out; omega
    · have := own_ge HBK.out.op h; have := Below.size BV.out; omega
    · exact h))
  have PR4 := Lib.hid (PR3.out.kep hk NR.out)
  have HPO := Lib.hid hpost
  have HPO0 := Lib.hid hpost0
  have hge : w.heap.size ≤ g + 1 := by have := HG.out; omega
  have HGW := Lib.hid hge
  clear hk hpost hpost0 hge
  have r0 := PR4.out.cell 0 rfl
  have r1 := PR4.out.cell 1 rfl
  have rf0 := PR4.out.frozen 0
  have rf1 := PR4.out.frozen 1
  by_cases hE : E = 0
  case neg =>
    obtain rfl : G = E := HGE.out
    have hne : (G != 0) = true := by rw [bne_iff_ne]; exact hE
    have PR5 := Lib.hid (show Blk ((V4.setCell ⟨g + 1, 0, none⟩ (.slice none 0 0)).setCell ⟨g + 1, 1, none⟩ (.slice none 0 0)) (g + 1) #[.slice none 0 0, .slice none 0 0] 25 from (PR4.out.set 0 _).set 1 _)
    go_wp2_with fail
    refine bodyPost_ret (v := .tuple #[.agg #[.slice none 0 0, .slice none 0 0], .int .u64 0, .int .i64 G]) (res_cii' rfl _ _ ⟨g + 1, 0, none⟩ _ _ _ rfl rfl rfl (Pm.load_b (C := [.slice none 0 0, .slice none 0 0]) PR5.out Tryz.underlying25 rfl info_h)) rfl ?_
    have hk5 : Kep (fun b => b = g + 1) V4 ((V4.setCell ⟨g + 1, 0, none⟩ (.slice none 0 0)).setCell ⟨g + 1, 1, none⟩ (.slice none 0 0)) := Kep.set (S := fun b => b = g + 1) (Kep.set (S := fun b => b = g + 1) (Kep.refl _ _) rfl _) rfl _
    have hkY := Lib.hid (kep_after HK4.out hk5 (fun k hk => by rw [hk]; exact HGW.out))
    have r00 := (HR.out _ _ _ _ PR4.out HGW.out hk5).2 (HPO0.out (by first | exact hE | trivial))
    first
      | exact ⟨_, _, rfl, OwnR.nil_ _ _ _ _, OwnR.nil_ _ _ _ _, hkY.out, r00⟩
      | exact ⟨_, _, rfl, OwnR.nil_ _ _ _ _, OwnR.nil_ _ _ _ _, hkY.out, fun _ => r00⟩
      | exact ⟨_, _, by rw [if_neg hE], by rw [if_neg hE]; exact OwnR.nil_ _ _ _ _, by rw [if_neg hE]; exact OwnR.nil_ _ _ _ _, hkY.out, fun h => absurd h hE, fun _ => r00⟩
  subst hE
  obtain rfl : G = 0 := HGE.out
  obtain ⟨hr, k1, k2, hbk⟩ := HPO.out (by first | rfl | trivial)
  obtain ⟨A3, c3, rfl, _⟩ := hbk.oc.rs c6C
  obtain ⟨B3, d3, rfl, _⟩ := hbk.op.rs c6P
  obtain ⟨n3, hn3⟩ : ∃ n, cs'.length = n := ⟨_, rfl⟩
  obtain ⟨m3, hm3⟩ : ∃ n, ps'.length = n := ⟨_, rfl⟩
  rw [hn3, hm3] at hbk
  have HB4 := Lib.hid hbk
  have HR4 := Lib.hid hr
  have b0 := hbk.blk.cell 0 rfl
  have b1 := hbk.blk.cell 1 rfl
  clear hbk hr hn3 hm3
  have PR5 := Lib.hid (show Blk ((V4.setCell ⟨g + 1, 0, none⟩ (.slice A3 n3 c3)).setCell ⟨g + 1, 1, none⟩ (.slice B3 m3 d3)) (g + 1) #[.slice A3 n3 c3, .slice B3 m3 d3] 25 from (PR4.out.set 0 _).set 1 _)
  have HK5 := Lib.hid (show Kep (fun b => b = g + 1) V4 ((V4.setCell ⟨g + 1, 0, none⟩ (.slice A3 n3 c3)).setCell ⟨g + 1, 1, none⟩ (.slice B3 m3 d3)) from Kep.set (S := fun b => b = g + 1) (Kep.set (S := fun b => b = g + 1) (Kep.refl _ _) rfl _) rfl _)
  go_wp2_with fail
  refine bodyPost_ret (v := .tuple #[.agg #[.slice A3 n3 c3, .slice B3 m3 d3], .int .u64 N, .int .i64 0]) (res_cii' rfl _ _ ⟨g + 1, 0, none⟩ _ _ _ rfl rfl rfl (Pm.load_b (C := [.slice A3 n3 c3, .slice B3 m3 d3]) PR5.out Tryz.underlying25 rfl info_h)) rfl ?_
  have ho1 := ((HB4.out.oc.kep HK5.out (fun i e e' => own_ne HB4.out.oc PR4.out (by decide) (e' ▸ e))).mono (Below.size BV.out))
  have ho2 := ((HB4.out.op.kep HK5.out (fun i e e' => own_ne HB4.out.op PR4.out (by decide) (e' ▸ e))).mono (Below.size BV.out))
  have hkY := kep_after HK4.out HK5.out (fun k hk => by rw [hk]; exact HGW.out)
  have hR5 := (HR.out _ _ _ _ PR4.out HGW.out HK5.out).1 HR4.out
  first
    | exact ⟨_, _, rfl, ho1, ho2, hkY, hR5⟩
    | exact ⟨_, _, rfl, ho1, ho2, hkY, fun _ => hR5⟩
    | exact ⟨_, _, rfl, ho1, ho2, hkY, fun _ => hR5, fun h => absurd rfl h⟩
end Ho
end Go.Proofs.YtneajcoiemkfbaaGreat
end

section
/-
  What holding.Join and Leave answer. Conditions: the holding has at most a million rows; amounts are words.
-/
namespace Go.Proofs.YtneajcoiemkfbaaGreat
open Go.RowKit Go.Shelf
set_option linter.unusedVariables false
set_option linter.unusedSimpArgs false
namespace Ho
open Kk Pm

set_option maxRecDepth 100000 in
set_option maxHeartbeats 4000000 in
theorem join1 (base p q1 q2 q3 : Nat) (k1 k2 : Value) (cs ps : List R6) (o a b d e x : Int) (w : World) (h : BK w base p k1 k2 cs ps) (hok : Ok cs ps) (hm : ps.length ≤ 1000000) (hwc : ∀ r ∈ cs, Wd r) (hwp : Wp ps) (x0 : 0 ≤ x) (x1 : x ≤ 18446744073709551615) (hbs : base ≤ w.heap.size)
    (h1 : Blk w q1 #[.int .i64 o] 3) (h2 : Blk w q2 #[.int .i64 a, .int .i64 b, .int .i64 d, .int .i64 e] 37) (h3 : Blk w q3 #[.int .u64 x] 32) :
    Calls Tryz.prog 139 #[.pointer (some ⟨p, 0, none⟩), .pointer (some ⟨q1, 0, none⟩), .pointer (some ⟨q2, 0, none⟩), .pointer (some ⟨q3, 0, none⟩)] w fun r w' =>
      r = .returned (.tuple #[.int .u64 (if bJE o a b d e (polT cs (a, b, d, e, 0, 0)) (polS cs (a, b, d, e, 0, 0)) cs.length (sumT cs) x = 0 then Sh.joiN (polT cs (a, b, d, e, 0, 0)) (polS cs (a, b, d, e, 0, 0)) x else 0), .int .i64 (bJE o a b d e (polT cs (a, b, d, e, 0, 0)) (polS cs (a, b, d, e, 0, 0)) cs.length (sumT cs) x)]) ∧ Kep (fun b => b = p ∨ k1.ownBlock = some b ∨ k2.ownBlock = some b) w w' ∧
      (bJE o a b d e (polT cs (a, b, d, e, 0, 0)) (polS cs (a, b, d, e, 0, 0)) cs.length (sumT cs) x = 0 → ∃ k1' k2', BK w' base p k1' k2' (setC cs a b d e (Sh.joiT (polT cs (a, b, d, e, 0, 0)) (polS cs (a, b, d, e, 0, 0)) x) (Sh.joiS (polT cs (a, b, d, e, 0, 0)) (polS cs (a, b, d, e, 0, 0)) x)) (setP ps o a b d e (shs ps (o, a, b, d, e, 0) + Sh.joiN (polT cs (a, b, d, e, 0, 0)) (polS cs (a, b, d, e, 0, 0)) x))) := by
  have J := Lib.hid (join_ base p k1 k2 cs ps o a b d e x w h hok hm hwc hwp x0 x1 hbs)
  obtain ⟨E, hE⟩ : ∃ E, bJE o a b d e (polT cs (a, b, d, e, 0, 0)) (polS cs (a, b, d, e, 0, 0)) cs.length (sumT cs) x = E := ⟨_, rfl⟩
  obtain ⟨M, hM⟩ : ∃ M, (if E = 0 then Sh.joiN (polT cs (a, b, d, e, 0, 0)) (polS cs (a, b, d, e, 0, 0)) x else 0) = M := ⟨_, rfl⟩
  obtain ⟨cs', hc'⟩ : ∃ l, setC cs a b d e (Sh.joiT (polT cs (a, b, d, e, 0, 0)) (polS cs (a, b, d, e, 0, 0)) x) (Sh.joiS (polT cs (a, b, d, e, 0, 0)) (polS cs (a, b, d, e, 0, 0)) x) = l := ⟨_, rfl⟩
  obtain ⟨ps', hp'⟩ : ∃ l, setP ps o a b d e (shs ps (o, a, b, d, e, 0) + Sh.joiN (polT cs (a, b, d, e, 0, 0)) (polS cs (a, b, d, e, 0, 0)) x) = l := ⟨_, rfl⟩
  rw [hE, hM, hc', hp'] at J ⊢
  have c1 := h1.cell 0 rfl
  have c3 := h3.cell 0 rfl
  obtain ⟨d0, d1, d2, d3⟩ := rng4 (rngB (C := [.int .i64 a, .int .i64 b, .int .i64 d, .int .i64 e]) h2)
  rw [Nat.zero_add] at d1 d2 d3
  clear h h1 h2 h3 hok hwc hwp hm hE hM hc' hp'
  go_enter Tryz.func139, Tryz.ntmps139
  go_wp2_with fail
  refine J.out.mono ?_
  rintro r V ⟨rfl, hk, hp⟩
  have HK := Lib.hid hk
  have HP := Lib.hid hp
  clear hk hp
  go_wp2_with fail
  go_ret2
  exact ⟨rfl, HK.out, HP.out⟩
set_option maxRecDepth 100000 in
set_option maxHeartbeats 8000000 in
theorem Join_ (A : Option Addr) (n c : Nat) (B : Option Addr) (m d0 : Nat) (cs ps : List R6) (o a b d e x : Int) (w : World) (hh : HH w A n c B m d0 cs ps) (x0 : 0 ≤ x) (x1 : x ≤ 18446744073709551615) :
    Calls Tryz.prog 70 #[.agg #[.slice A n c, .slice B m d0], .int .i64 o, .agg #[.int .i64 a, .int .i64 b, .int .i64 d, .int .i64 e], .int .u64 x] w fun r w' => ∃ v1 v2,
      r = .returned (.tuple #[.agg #[v1, v2], .int .u64 (if chE cs ps (bJE o a b d e (polT cs (a, b, d, e, 0, 0)) (polS cs (a, b, d, e, 0, 0)) cs.length (sumT cs) x) = 0 then Sh.joiN (polT cs (a, b, d, e, 0, 0)) (polS cs (a, b, d, e, 0, 0)) x else 0), .int .i64 (chE cs ps (bJE o a b d e (polT cs (a, b, d, e, 0, 0)) (polS cs (a, b, d, e, 0, 0)) cs.length (sumT cs) x))]) ∧
      OwnR cC 90 w' w.heap.size v1 (if chE cs ps (bJE o a b d e (polT cs (a, b, d, e, 0, 0)) (polS cs (a, b, d, e, 0, 0)) cs.length (sumT cs) x) = 0 then setC cs a b d e (Sh.joiT (polT cs (a, b, d, e, 0, 0)) (polS cs (a, b, d, e, 0, 0)) x) (Sh.joiS (polT cs (a, b, d, e, 0, 0)) (polS cs (a, b, d, e, 0, 0)) x) else []) ∧ OwnR cP 93 w' w.heap.size v2 (if chE cs ps (bJE o a b d e (polT cs (a, b, d, e, 0, 0)) (polS cs (a, b, d, e, 0, 0)) cs.length (sumT cs) x) = 0 then setP ps o a b d e (shs ps (o, a, b, d, e, 0) + Sh.joiN (polT cs (a, b, d, e, 0, 0)) (polS cs (a, b, d, e, 0, 0)) x) else []) ∧ Bel w w' := by
  obtain ⟨W, hW⟩ : ∃ W, ((((w.alloc (.cells #[.slice A n c, .slice B m d0] 25)).alloc (.cells #[.int .i64 o] 3)).alloc (.cells #[.int .i64 a, .int .i64 b, .int .i64 d, .int .i64 e] 37)).alloc (.cells #[.int .u64 x] 32)).alloc (.cells #[.slice none 0 0, .slice none 0 0] 25) = W := ⟨_, rfl⟩
  have B0 := Lib.hid (show Bel w W by rw [← hW]; exact (((((Bel.refl w).alloc _).alloc _).alloc _).alloc _).alloc _)
  have PG := Lib.hid (show Blk W w.heap.size #[.slice A n c, .slice B m d0] 25 by rw [← hW]; exact ((((Blk.new _ _ _).alloc _).alloc _).alloc _).alloc _)
  have P1 := Lib.hid (show Blk W (w.heap.size + 1) #[.int .i64 o] 3 by rw [← hW]; refine (((Blk.alloc ?_ _).alloc _).alloc _); have h := Blk.new (w.alloc (.cells #[.slice A n c, .slice B m d0] 25)) #[.int .i64 o] 3; simpa using h)
  have P2 := Lib.hid (show Blk W (w.heap.size + 1 + 1) #[.int .i64 a, .int .i64 b, .int .i64 d, .int .i64 e] 37 by rw [← hW]; refine ((Blk.alloc ?_ _).alloc _); have h := Blk.new ((w.alloc (.cells #[.slice A n c, .slice B m d0] 25)).alloc (.cells #[.int .i64 o] 3)) #[.int .i64 a, .int .i64 b, .int .i64 d, .int .i64 e] 37; simpa using h)
  have P3 := Lib.hid (show Blk W (w.heap.size + 1 + 1 + 1) #[.int .u64 x] 32 by rw [← hW]; refine (Blk.alloc ?_ _); have h := Blk.new (((w.alloc (.cells #[.slice A n c, .slice B m d0] 25)).alloc (.cells #[.int .i64 o] 3)).alloc (.cells #[.int .i64 a, .int .i64 b, .int .i64 d, .int .i64 e] 37)) #[.int .u64 x] 32; simpa using h)
  have PR := Lib.hid (show Blk W (w.heap.size + 1 + 1 + 1 + 1) #[.slice none 0 0, .slice none 0 0] 25 by rw [← hW]; have h := Blk.new ((((w.alloc (.cells #[.slice A n c, .slice B m d0] 25)).alloc (.cells #[.int .i64 o] 3)).alloc (.cells #[.int .i64 a, .int .i64 b, .int .i64 d, .int .i64 e] 37)).alloc (.cells #[.int .u64 x] 32)) #[.slice none 0 0, .slice none 0 0] 25; simpa using h)
  obtain ⟨g, hg⟩ : ∃ g, w.heap.size = g := ⟨_, rfl⟩
  have HG := Lib.hid hg
  rw [hg] at PG P1 P2 P3 PR
  have CH := Lib.hid (changed_ A n c B m d0 cs ps (setC cs a b d e (Sh.joiT (polT cs (a, b, d, e, 0, 0)) (polS cs (a, b, d, e, 0, 0)) x) (Sh.joiS (polT cs (a, b, d, e, 0, 0)) (polS cs (a, b, d, e, 0, 0)) x)) (setP ps o a b d e (shs ps (o, a, b, d, e, 0) + Sh.joiN (polT cs (a, b, d, e, 0, 0)) (polS cs (a, b, d, e, 0, 0)) x)) 139 #[.pointer (some ⟨g + 1, 0, none⟩), .pointer (some ⟨g + 1 + 1, 0, none⟩), .pointer (some ⟨g + 1 + 1 + 1, 0, none⟩)] (if bJE o a b d e (polT cs (a, b, d, e, 0, 0)) (polS cs (a, b, d, e, 0, 0)) cs.length (sumT cs) x = 0 then Sh.joiN (polT cs (a, b, d, e, 0, 0)) (polS cs (a, b, d, e, 0, 0)) x else 0) (bJE o a b d e (polT cs (a, b, d, e, 0, 0)) (polS cs (a, b, d, e, 0, 0)) cs.length (sumT cs) x) (fun _ => False) (fun _ => True) (fun _ => True) W (hh.bel B0.out) (fun b h => h.elim) (fun args w => rfl) (fun _ _ _ _ _ _ _ => ⟨id, id⟩) (fun _ _ => trivial)
    (fun hok base p k1 k2 V hb hp hbs hbV hbk => (join1 base p (g + 1) (g + 1 + 1) (g + 1 + 1 + 1) k1 k2 cs ps o a b d e x V hbk hok (Nat.le_trans (Nat.le_of_eq hh.pos.len) hh.pm) hh.wc hh.wp x0 x1 hbV (P1.out.bel hb) (P2.out.bel hb) (P3.out.bel hb)).mono (by
      rintro r V' ⟨rfl, hk, hp'⟩
      exact ⟨rfl, hk.mono (fun _ _ h => .inl h), fun hE => ⟨trivial, hp' hE⟩, fun _ => trivial⟩)))
  obtain ⟨E, hE⟩ : ∃ E, chE cs ps (bJE o a b d e (polT cs (a, b, d, e, 0, 0)) (polS cs (a, b, d, e, 0, 0)) cs.length (sumT cs) x) = E := ⟨_, rfl⟩
  have hM : (if E = 0 then (if bJE o a b d e (polT cs (a, b, d, e, 0, 0)) (polS cs (a, b, d, e, 0, 0)) cs.length (sumT cs) x = 0 then Sh.joiN (polT cs (a, b, d, e, 0, 0)) (polS cs (a, b, d, e, 0, 0)) x else 0) else 0) = (if E = 0 then Sh.joiN (polT cs (a, b, d, e, 0, 0)) (polS cs (a, b, d, e, 0, 0)) x else 0) := by
    by_cases h0 : E = 0
    · have h1 : bJE o a b d e (polT cs (a, b, d, e, 0, 0)) (polS cs (a, b, d, e, 0, 0)) cs.length (sumT cs) x = 0 := by
        by_cases hc : chkH cs ps = 0
        · have h2 := (chE_ways cs ps (bJE o a b d e (polT cs (a, b, d, e, 0, 0)) (polS cs (a, b, d, e, 0, 0)) cs.length (sumT cs) x)).2 hc
          rw [hE] at h2; rw [← h2]; exact h0
        · have := (chE_ways cs ps (bJE o a b d e (polT cs (a, b, d, e, 0, 0)) (polS cs (a, b, d, e, 0, 0)) cs.length (sumT cs) x)).1 hc; omega
      rw [if_pos h0, if_pos h0, if_pos h1]
    · rw [if_neg h0, if_neg h0]
  rw [hE] at CH ⊢
  rw [hM] at CH
  obtain ⟨M, hM2⟩ : ∃ M, (if E = 0 then Sh.joiN (polT cs (a, b, d, e, 0, 0)) (polS cs (a, b, d, e, 0, 0)) x else 0) = M := ⟨_, rfl⟩
  rw [hM2] at CH ⊢
  obtain ⟨cs', hc'⟩ : ∃ l, (if E = 0 then setC cs a b d e (Sh.joiT (polT cs (a, b, d, e, 0, 0)) (polS cs (a, b, d, e, 0, 0)) x) (Sh.joiS (polT cs (a, b, d, e, 0, 0)) (polS cs (a, b, d, e, 0, 0)) x) else []) = l := ⟨_, rfl⟩
  obtain ⟨ps', hp'⟩ : ∃ l, (if E = 0 then setP ps o a b d e (shs ps (o, a, b, d, e, 0) + Sh.joiN (polT cs (a, b, d, e, 0, 0)) (polS cs (a, b, d, e, 0, 0)) x) else []) = l := ⟨_, rfl⟩
  rw [hc', hp'] at CH ⊢
  have g0 := PG.out.cell 0 rfl
  have g1 := PG.out.cell 1 rfl
  clear hM hM2 hE hc' hp' hh
  go_enter Tryz.func70, Tryz.ntmps70
  go_upto_region 1 with fail
  try rw [hW]
  try rw [hg]
  clear hW hg
  go_wp2_with fail
  refine CH.out.mono ?_
  rintro r V ⟨v1, v2, rfl, h1, h2, hk, -⟩
  have BV := Lib.hid (Kep.bel (Bel.refl W) hk (fun k h => h.elim))
  obtain ⟨A3, c3, rfl, _⟩ := h1.rs c6C
  obtain ⟨B3, d3, rfl, _⟩ := h2.rs c6P
  have PV := Lib.hid (PR.out.bel BV.out)
  obtain ⟨n3, hn3⟩ : ∃ n, cs'.length = n := ⟨_, rfl⟩
  obtain ⟨m3, hm3⟩ : ∃ n, ps'.length = n := ⟨_, rfl⟩
  rw [hn3] at h1 ⊢
  rw [hm3] at h2 ⊢
  have H1 := Lib.hid h1
  have H2 := Lib.hid h2
  clear h1 h2 hk hn3 hm3 g0 g1
  have r0 := PV.out.cell 0 rfl
  have r1 := PV.out.cell 1 rfl
  have rf0 := PV.out.frozen 0
  have rf1 := PV.out.frozen 1
  have PR5 := Lib.hid (show Blk ((V.setCell ⟨g + 1 + 1 + 1 + 1, 0, none⟩ (.slice A3 n3 c3)).setCell ⟨g + 1 + 1 + 1 + 1, 1, none⟩ (.slice B3 m3 d3)) (g + 1 + 1 + 1 + 1) #[.slice A3 n3 c3, .slice B3 m3 d3] 25 from (PV.out.set 0 _).set 1 _)
  have HK5 := Lib.hid (show Kep (fun b => b = g + 1 + 1 + 1 + 1) V ((V.setCell ⟨g + 1 + 1 + 1 + 1, 0, none⟩ (.slice A3 n3 c3)).setCell ⟨g + 1 + 1 + 1 + 1, 1, none⟩ (.slice B3 m3 d3)) from Kep.set (S := fun b => b = g + 1 + 1 + 1 + 1) (Kep.set (S := fun b => b = g + 1 + 1 + 1 + 1) (Kep.refl _ _) rfl _) rfl _)
  go_wp2_with fail
  refine bodyPost_ret (v := .tuple #[.agg #[.slice A3 n3 c3, .slice B3 m3 d3], .int .u64 M, .int .i64 E]) (res_cii' rfl _ _ ⟨g + 1 + 1 + 1 + 1, 0, none⟩ _ _ _ rfl rfl rfl (Pm.load_b (C := [.slice A3 n3 c3, .slice B3 m3 d3]) PR5.out Tryz.underlying25 rfl info_h)) rfl ?_
  refine ⟨_, _, rfl, ?_, ?_, ?_⟩
  · exact ((H1.out.kep HK5.out (fun i e e' => own_ne H1.out PV.out (by decide) (e' ▸ e))).mono (Below.size B0.out))
  · exact ((H2.out.kep HK5.out (fun i e e' => own_ne H2.out PV.out (by decide) (e' ▸ e))).mono (Below.size B0.out))
  · exact Kep.bel (B0.out.trans BV.out) HK5.out (fun k hk => by have := HG.out; omega)
set_option maxRecDepth 100000 in
set_option maxHeartbeats 4000000 in
theorem leave1 (base p q1 q2 q3 : Nat) (k1 k2 : Value) (cs ps : List R6) (o a b d e x : Int) (w : World) (h : BK w base p k1 k2 cs ps) (hok : Ok cs ps) (hm : ps.length ≤ 1000000) (hwc : ∀ r ∈ cs, Wd r) (hwp : Wp ps) (x0 : 0 ≤ x) (x1 : x ≤ 18446744073709551615) (hbs : base ≤ w.heap.size)
    (h1 : Blk w q1 #[.int .i64 o] 3) (h2 : Blk w q2 #[.int .i64 a, .int .i64 b, .int .i64 d, .int .i64 e] 37) (h3 : Blk w q3 #[.int .u64 x] 32) :
    Calls Tryz.prog 119 #[.pointer (some ⟨p, 0, none⟩), .pointer (some ⟨q1, 0, none⟩), .pointer (some ⟨q2, 0, none⟩), .pointer (some ⟨q3, 0, none⟩)] w fun r w' =>
      r = .returned (.tuple #[.int .u64 (if bLE (polT cs (a, b, d, e, 0, 0)) (polS cs (a, b, d, e, 0, 0)) (shs ps (o, a, b, d, e, 0)) x = 0 then Sh.leaN (polT cs (a, b, d, e, 0, 0)) (polS cs (a, b, d, e, 0, 0)) x else 0), .int .i64 (bLE (polT cs (a, b, d, e, 0, 0)) (polS cs (a, b, d, e, 0, 0)) (shs ps (o, a, b, d, e, 0)) x)]) ∧ Kep (fun b => b = p ∨ k1.ownBlock = some b ∨ k2.ownBlock = some b) w w' ∧
      (bLE (polT cs (a, b, d, e, 0, 0)) (polS cs (a, b, d, e, 0, 0)) (shs ps (o, a, b, d, e, 0)) x = 0 → ∃ k1' k2', BK w' base p k1' k2' (setC cs a b d e (Sh.leaT (polT cs (a, b, d, e, 0, 0)) (polS cs (a, b, d, e, 0, 0)) x) (Sh.leaS (polT cs (a, b, d, e, 0, 0)) (polS cs (a, b, d, e, 0, 0)) x)) (setP ps o a b d e (shs ps (o, a, b, d, e, 0) - x))) := by
  have J := Lib.hid (leave_ base p k1 k2 cs ps o a b d e x w h hok hm hwc hwp x0 x1 hbs)
  obtain ⟨E, hE⟩ : ∃ E, bLE (polT cs (a, b, d, e, 0, 0)) (polS cs (a, b, d, e, 0, 0)) (shs ps (o, a, b, d, e, 0)) x = E := ⟨_, rfl⟩
  obtain ⟨M, hM⟩ : ∃ M, (if E = 0 then Sh.leaN (polT cs (a, b, d, e, 0, 0)) (polS cs (a, b, d, e, 0, 0)) x else 0) = M := ⟨_, rfl⟩
  obtain ⟨cs', hc'⟩ : ∃ l, setC cs a b d e (Sh.leaT (polT cs (a, b, d, e, 0, 0)) (polS cs (a, b, d, e, 0, 0)) x) (Sh.leaS (polT cs (a, b, d, e, 0, 0)) (polS cs (a, b, d, e, 0, 0)) x) = l := ⟨_, rfl⟩
  obtain ⟨ps', hp'⟩ : ∃ l, setP ps o a b d e (shs ps (o, a, b, d, e, 0) - x) = l := ⟨_, rfl⟩
  rw [hE, hM, hc', hp'] at J ⊢
  have c1 := h1.cell 0 rfl
  have c3 := h3.cell 0 rfl
  obtain ⟨d0, d1, d2, d3⟩ := rng4 (rngB (C := [.int .i64 a, .int .i64 b, .int .i64 d, .int .i64 e]) h2)
  rw [Nat.zero_add] at d1 d2 d3
  clear h h1 h2 h3 hok hwc hwp hm hE hM hc' hp'
  go_enter Tryz.func119, Tryz.ntmps119
  go_wp2_with fail
  refine J.out.mono ?_
  rintro r V ⟨rfl, hk, hp⟩
  have HK := Lib.hid hk
  have HP := Lib.hid hp
  clear hk hp
  go_wp2_with fail
  go_ret2
  exact ⟨rfl, HK.out, HP.out⟩
set_option maxRecDepth 100000 in
set_option maxHeartbeats 8000000 in
theorem Leave_ (A : Option Addr) (n c : Nat) (B : Option Addr) (m d0 : Nat) (cs ps : List R6) (o a b d e x : Int) (w : World) (hh : HH w A n c B m d0 cs ps) (x0 : 0 ≤ x) (x1 : x ≤ 18446744073709551615) :
    Calls Tryz.prog 51 #[.agg #[.slice A n c, .slice B m d0], .int .i64 o, .agg #[.int .i64 a, .int .i64 b, .int .i64 d, .int .i64 e], .int .u64 x] w fun r w' => ∃ v1 v2,
      r = .returned (.tuple #[.agg #[v1, v2], .int .u64 (if chE cs ps (bLE (polT cs (a, b, d, e, 0, 0)) (polS cs (a, b, d, e, 0, 0)) (shs ps (o, a, b, d, e, 0)) x) = 0 then Sh.leaN (polT cs (a, b, d, e, 0, 0)) (polS cs (a, b, d, e, 0, 0)) x else 0), .int .i64 (chE cs ps (bLE (polT cs (a, b, d, e, 0, 0)) (polS cs (a, b, d, e, 0, 0)) (shs ps (o, a, b, d, e, 0)) x))]) ∧
      OwnR cC 90 w' w.heap.size v1 (if chE cs ps (bLE (polT cs (a, b, d, e, 0, 0)) (polS cs (a, b, d, e, 0, 0)) (shs ps (o, a, b, d, e, 0)) x) = 0 then setC cs a b d e (Sh.leaT (polT cs (a, b, d, e, 0, 0)) (polS cs (a, b, d, e, 0, 0)) x) (Sh.leaS (polT cs (a, b, d, e, 0, 0)) (polS cs (a, b, d, e, 0, 0)) x) else []) ∧ OwnR cP 93 w' w.heap.size v2 (if chE cs ps (bLE (polT cs (a, b, d, e, 0, 0)) (polS cs (a, b, d, e, 0, 0)) (shs ps (o, a, b, d, e, 0)) x) = 0 then setP ps o a b d e (shs ps (o, a, b, d, e, 0) - x) else []) ∧ Bel w w' := by
  obtain ⟨W, hW⟩ : ∃ W, ((((w.alloc (.cells #[.slice A n c, .slice B m d0] 25)).alloc (.cells #[.int .i64 o] 3)).alloc (.cells #[.int .i64 a, .int .i64 b, .int .i64 d, .int .i64 e] 37)).alloc (.cells #[.int .u64 x] 32)).alloc (.cells #[.slice none 0 0, .slice none 0 0] 25) = W := ⟨_, rfl⟩
  have B0 := Lib.hid (show Bel w W by rw [← hW]; exact (((((Bel.refl w).alloc _).alloc _).alloc _).alloc _).alloc _)
  have PG := Lib.hid (show Blk W w.heap.size #[.slice A n c, .slice B m d0] 25 by rw [← hW]; exact ((((Blk.new _ _ _).alloc _).alloc _).alloc _).alloc _)
  have P1 := Lib.hid (show Blk W (w.heap.size + 1) #[.int .i64 o] 3 by rw [← hW]; refine (((Blk.alloc ?_ _).alloc _).alloc _); have h := Blk.new (w.alloc (.cells #[.slice A n c, .slice B m d0] 25)) #[.int .i64 o] 3; simpa using h)
  have P2 := Lib.hid (show Blk W (w.heap.size + 1 + 1) #[.int .i64 a, .int .i64 b, .int .i64 d, .int .i64 e] 37 by rw [← hW]; refine ((Blk.alloc ?_ _).alloc _); have h := Blk.new ((w.alloc (.cells #[.slice A n c, .slice B m d0] 25)).alloc (.cells #[.int .i64 o] 3)) #[.int .i64 a, .int .i64 b, .int .i64 d, .int .i64 e] 37; simpa using h)
  have P3 := Lib.hid (show Blk W (w.heap.size + 1 + 1 + 1) #[.int .u64 x] 32 by rw [← hW]; refine (Blk.alloc ?_ _); have h := Blk.new (((w.alloc (.cells #[.slice A n c, .slice B m d0] 25)).alloc (.cells #[.int .i64 o] 3)).alloc (.cells #[.int .i64 a, .int .i64 b, .int .i64 d, .int .i64 e] 37)) #[.int .u64 x] 32; simpa using h)
  have PR := Lib.hid (show Blk W (w.heap.size + 1 + 1 + 1 + 1) #[.slice none 0 0, .slice none 0 0] 25 by rw [← hW]; have h := Blk.new ((((w.alloc (.cells #[.slice A n c, .slice B m d0] 25)).alloc (.cells #[.int .i64 o] 3)).alloc (.cells #[.int .i64 a, .int .i64 b, .int .i64 d, .int .i64 e] 37)).alloc (.cells #[.int .u64 x] 32)) #[.slice none 0 0, .slice none 0 0] 25; simpa using h)
  obtain ⟨g, hg⟩ : ∃ g, w.heap.size = g := ⟨_, rfl⟩
  have HG := Lib.hid hg
  rw [hg] at PG P1 P2 P3 PR
  have CH := Lib.hid (changed_ A n c B m d0 cs ps (setC cs a b d e (Sh.leaT (polT cs (a, b, d, e, 0, 0)) (polS cs (a, b, d, e, 0, 0)) x) (Sh.leaS (polT cs (a, b, d, e, 0, 0)) (polS cs (a, b, d, e, 0, 0)) x)) (setP ps o a b d e (shs ps (o, a, b, d, e, 0) - x)) 119 #[.pointer (some ⟨g + 1, 0, none⟩), .pointer (some ⟨g + 1 + 1, 0, none⟩), .pointer (some ⟨g + 1 + 1 + 1, 0, none⟩)] (if bLE (polT cs (a, b, d, e, 0, 0)) (polS cs (a, b, d, e, 0, 0)) (shs ps (o, a, b, d, e, 0)) x = 0 then Sh.leaN (polT cs (a, b, d, e, 0, 0)) (polS cs (a, b, d, e, 0, 0)) x else 0) (bLE (polT cs (a, b, d, e, 0, 0)) (polS cs (a, b, d, e, 0, 0)) (shs ps (o, a, b, d, e, 0)) x) (fun _ => False) (fun _ => True) (fun _ => True) W (hh.bel B0.out) (fun b h => h.elim) (fun args w => rfl) (fun _ _ _ _ _ _ _ => ⟨id, id⟩) (fun _ _ => trivial)
    (fun hok base p k1 k2 V hb hp hbs hbV hbk => (leave1 base p (g + 1) (g + 1 + 1) (g + 1 + 1 + 1) k1 k2 cs ps o a b d e x V hbk hok (Nat.le_trans (Nat.le_of_eq hh.pos.len) hh.pm) hh.wc hh.wp x0 x1 hbV (P1.out.bel hb) (P2.out.bel hb) (P3.out.bel hb)).mono (by
      rintro r V' ⟨rfl, hk, hp'⟩
      exact ⟨rfl, hk.mono (fun _ _ h => .inl h), fun hE => ⟨trivial, hp' hE⟩, fun _ => trivial⟩)))
  obtain ⟨E, hE⟩ : ∃ E, chE cs ps (bLE (polT cs (a, b, d, e, 0, 0)) (polS cs (a, b, d, e, 0, 0)) (shs ps (o, a, b, d, e, 0)) x) = E := ⟨_, rfl⟩
  have hM : (if E = 0 then (if bLE (polT cs (a, b, d, e, 0, 0)) (polS cs (a, b, d, e, 0, 0)) (shs ps (o, a, b, d, e, 0)) x = 0 then Sh.leaN (polT cs (a, b, d, e, 0, 0)) (polS cs (a, b, d, e, 0, 0)) x else 0) else 0) = (if E = 0 then Sh.leaN (polT cs (a, b, d, e, 0, 0)) (polS cs (a, b, d, e, 0, 0)) x else 0) := by
    by_cases h0 : E = 0
    · have h1 : bLE (polT cs (a, b, d, e, 0, 0)) (polS cs (a, b, d, e, 0, 0)) (shs ps (o, a, b, d, e, 0)) x = 0 := by
        by_cases hc : chkH cs ps = 0
        · have h2 := (chE_ways cs ps (bLE (polT cs (a, b, d, e, 0, 0)) (polS cs (a, b, d, e, 0, 0)) (shs ps (o, a, b, d, e, 0)) x)).2 hc
          rw [hE] at h2; rw [← h2]; exact h0
        · have := (chE_ways cs ps (bLE (polT cs (a, b, d, e, 0, 0)) (polS cs (a, b, d, e, 0, 0)) (shs ps (o, a, b, d, e, 0)) x)).1 hc; omega
      rw [if_pos h0, if_pos h0, if_pos h1]
    · rw [if_neg h0, if_neg h0]
  rw [hE] at CH ⊢
  rw [hM] at CH
  obtain ⟨M, hM2⟩ : ∃ M, (if E = 0 then Sh.leaN (polT cs (a, b, d, e, 0, 0)) (polS cs (a, b, d, e, 0, 0)) x else 0) = M := ⟨_, rfl⟩
  rw [hM2] at CH ⊢
  obtain ⟨cs', hc'⟩ : ∃ l, (if E = 0 then setC cs a b d e (Sh.leaT (polT cs (a, b, d, e, 0, 0)) (polS cs (a, b, d, e, 0, 0)) x) (Sh.leaS (polT cs (a, b, d, e, 0, 0)) (polS cs (a, b, d, e, 0, 0)) x) else []) = l := ⟨_, rfl⟩
  obtain ⟨ps', hp'⟩ : ∃ l, (if E = 0 then setP ps o a b d e (shs ps (o, a, b, d, e, 0) - x) else []) = l := ⟨_, rfl⟩
  rw [hc', hp'] at CH ⊢
  have g0 := PG.out.cell 0 rfl
  have g1 := PG.out.cell 1 rfl
  clear hM hM2 hE hc' hp' hh
  go_enter Tryz.func51, Tryz.ntmps51
  go_upto_region 1 with fail
  try rw [hW]
  try rw [hg]
  clear hW hg
  go_wp2_with fail
  refine CH.out.mono ?_
  rintro r V ⟨v1, v2, rfl, h1, h2, hk, -⟩
  have BV := Lib.hid (Kep.bel (Bel.refl W) hk (fun k h => h.elim))
  obtain ⟨A3, c3, rfl, _⟩ := h1.rs c6C
  obtain ⟨B3, d3, rfl, _⟩ := h2.rs c6P
  have PV := Lib.hid (PR.out.bel BV.out)
  obtain ⟨n3, hn3⟩ : ∃ n, cs'.length = n := ⟨_, rfl⟩
  obtain ⟨m3, hm3⟩ : ∃ n, ps'.length = n := ⟨_, rfl⟩
  rw [hn3] at h1 ⊢
  rw [hm3] at h2 ⊢
  have H1 := Lib.hid h1
  have H2 := Lib.hid h2
  clear h1 h2 hk hn3 hm3 g0 g1
  have r0 := PV.out.cell 0 rfl
  have r1 := PV.out.cell 1 rfl
  have rf0 := PV.out.frozen 0
  have rf1 := PV.out.frozen 1
  have PR5 := Lib.hid (show Blk ((V.setCell ⟨g + 1 + 1 + 1 + 1, 0, none⟩ (.slice A3 n3 c3)).setCell ⟨g + 1 + 1 + 1 + 1, 1, none⟩ (.slice B3 m3 d3)) (g + 1 + 1 + 1 + 1) #[.slice A3 n3 c3, .slice B3 m3 d3] 25 from (PV.out.set 0 _).set 1 _)
  have HK5 := Lib.hid (show Kep (fun b => b = g + 1 + 1 + 1 + 1) V ((V.setCell ⟨g + 1 + 1 + 1 + 1, 0, none⟩ (.slice A3 n3 c3)).setCell ⟨g + 1 + 1 + 1 + 1, 1, none⟩ (.slice B3 m3 d3)) from Kep.set (S := fun b => b = g + 1 + 1 + 1 + 1) (Kep.set (S := fun b => b = g + 1 + 1 + 1 + 1) (Kep.refl _ _) rfl _) rfl _)
  go_wp2_with fail
  refine bodyPost_ret (v := .tuple #[.agg #[.slice A3 n3 c3, .slice B3 m3 d3], .int .u64 M, .int .i64 E]) (res_cii' rfl _ _ ⟨g + 1 + 1 + 1 + 1, 0, none⟩ _ _ _ rfl rfl rfl (Pm.load_b (C := [.slice A3 n3 c3, .slice B3 m3 d3]) PR5.out Tryz.underlying25 rfl info_h)) rfl ?_
  refine ⟨_, _, rfl, ?_, ?_, ?_⟩
  · exact ((H1.out.kep HK5.out (fun i e e' => own_ne H1.out PV.out (by decide) (e' ▸ e))).mono (Below.size B0.out))
  · exact ((H2.out.kep HK5.out (fun i e e' => own_ne H2.out PV.out (by decide) (e' ▸ e))).mono (Below.size B0.out))
  · exact Kep.bel (B0.out.trans BV.out) HK5.out (fun k hk => by have := HG.out; omega)
end Ho
end Go.Proofs.YtneajcoiemkfbaaGreat
end

section
/-
  What holding.Value answers. Conditions: the holding has at most a million rows; amounts are words.
-/
namespace Go.Proofs.YtneajcoiemkfbaaGreat
open Go.RowKit Go.Shelf
set_option linter.unusedVariables false
set_option linter.unusedSimpArgs false
namespace Ho
open Kk Pm

/-- What Value tells, past Check. -/
def vaE (T S s : Int) : Int := if s = 0 then 10 else Sh.valE T S s
def vaN (T S s : Int) : Int := if s = 0 then 0 else Sh.valN T S s
set_option maxRecDepth 100000 in
set_option maxHeartbeats 8000000 in
theorem value_ (A : Option Addr) (n c : Nat) (B : Option Addr) (m d0 : Nat) (cs ps : List R6) (o a b d e : Int) (w : World) (hh : HH w A n c B m d0 cs ps) :
    Calls Tryz.prog 24 #[.agg #[.slice A n c, .slice B m d0], .int .i64 o, .agg #[.int .i64 a, .int .i64 b, .int .i64 d, .int .i64 e]] w fun r w' =>
      r = .returned (.tuple #[.int .u64 (if chkH cs ps = 0 then vaN (polT cs (a, b, d, e, 0, 0)) (polS cs (a, b, d, e, 0, 0)) (shs ps (o, a, b, d, e, 0)) else 0), .int .i64 (chE cs ps (vaE (polT cs (a, b, d, e, 0, 0)) (polS cs (a, b, d, e, 0, 0)) (shs ps (o, a, b, d, e, 0))))]) ∧ Bel w w' := by
  obtain ⟨t0, t1, s0, s1⟩ := pol_words hh.wc (a, b, d, e, 0, 0)
  obtain ⟨u0, u1⟩ := shs_words hh.wp (o, a, b, d, e, 0)
  obtain ⟨W, hW⟩ : ∃ W, (w.alloc (.cells #[.slice A n c, .slice B m d0] 25)).alloc (.cells #[.int .i64 a, .int .i64 b, .int .i64 d, .int .i64 e] 37) = W := ⟨_, rfl⟩
  have B0 := Lib.hid (show Bel w W by rw [← hW]; exact ((Bel.refl w).alloc _).alloc _)
  have PG := Lib.hid (show Blk W w.heap.size #[.slice A n c, .slice B m d0] 25 by rw [← hW]; exact (Blk.new _ _ _).alloc _)
  have PS := Lib.hid (show Blk W (w.heap.size + 1) #[.int .i64 a, .int .i64 b, .int .i64 d, .int .i64 e] 37 by rw [← hW]; have h := Blk.new (w.alloc (.cells #[.slice A n c, .slice B m d0] 25)) #[.int .i64 a, .int .i64 b, .int .i64 d, .int .i64 e] 37; simpa using h)
  have CK := Lib.hid (hh.bel B0.out).chk
  have SO := Lib.hid (fun (h0 : chkH cs ps = 0) V (hv : Bel w V) => sharesOf B m d0 ps (.slice A n c) rfl o a b d e V (hh.pos.bel hv) (by have := hh.pm; omega) ((ok_iff cs ps).1 h0).sp)
  have PO := Lib.hid (fun (h0 : chkH cs ps = 0) V (hv : Bel w V) => poolOf A n c cs (.slice B m d0) rfl a b d e V (hh.cls.bel hv) (by have := hh.cn; omega) ((ok_iff cs ps).1 h0).sc)
  obtain ⟨T, hT⟩ : ∃ T, polT cs (a, b, d, e, 0, 0) = T := ⟨_, rfl⟩
  obtain ⟨S, hS⟩ : ∃ S, polS cs (a, b, d, e, 0, 0) = S := ⟨_, rfl⟩
  obtain ⟨s, hs⟩ : ∃ s, shs ps (o, a, b, d, e, 0) = s := ⟨_, rfl⟩
  rw [hT] at t0 t1
  rw [hS] at s0 s1
  rw [hs] at u0 u1 SO
  rw [hT, hS] at PO
  rw [hT, hS, hs]
  have VX := Lib.hid (fun V => Sh.valueE T S s V t0 t1 s0 s1 u0 u1)
  have hw := chE_ways cs ps (vaE T S s)
  obtain ⟨Q, hQ⟩ : ∃ Q, chkH cs ps = Q := ⟨_, rfl⟩
  obtain ⟨G, hG⟩ : ∃ G, chE cs ps (vaE T S s) = G := ⟨_, rfl⟩
  rw [hQ, hG] at hw
  rw [hQ] at CK SO PO
  rw [hQ, hG]
  have hv : (s = 0 → vaE T S s = 10 ∧ vaN T S s = 0) ∧ (¬ s = 0 → vaE T S s = Sh.valE T S s ∧ vaN T S s = Sh.valN T S s) := ⟨fun h => ⟨if_pos h, if_pos h⟩, fun h => ⟨if_neg h, if_neg h⟩⟩
  obtain ⟨Ev, hEv⟩ : ∃ x, vaE T S s = x := ⟨_, rfl⟩
  obtain ⟨Nv, hNv⟩ : ∃ x, vaN T S s = x := ⟨_, rfl⟩
  obtain ⟨E2, hE2⟩ : ∃ x, Sh.valE T S s = x := ⟨_, rfl⟩
  obtain ⟨N2, hN2⟩ : ∃ x, Sh.valN T S s = x := ⟨_, rfl⟩
  rw [hEv] at hw
  rw [hEv, hNv, hE2, hN2] at hv
  rw [hE2, hN2] at VX
  rw [hNv]
  have HWY := Lib.hid hw
  have HV := Lib.hid hv
  have g0 := PG.out.cell 0 rfl
  have g1 := PG.out.cell 1 rfl
  clear hh hT hS hs hQ hG hw hv hEv hNv hE2 hN2 t0 t1 s0 s1
  go_enter Tryz.func24, Tryz.ntmps24
  go_upto_region 1 with fail
  try rw [hW]
  obtain ⟨g, hg⟩ : ∃ g, w.heap.size = g := ⟨_, rfl⟩
  rw [hg] at PG PS g0 g1 ⊢
  clear hg hW
  go_wp2_with fail
  refine CK.out.mono ?_
  rintro r V ⟨rfl, kb⟩
  have KB := Lib.hid (B0.out.trans kb)
  have g0 := (PG.out.bel kb).cell 0 rfl
  have g1 := (PG.out.bel kb).cell 1 rfl
  obtain ⟨d0, d1, d2, d3⟩ := rng4 (rngB (C := [.int .i64 a, .int .i64 b, .int .i64 d, .int .i64 e]) (PS.out.bel kb))
  rw [Nat.zero_add] at d1 d2 d3
  have PGV := Lib.hid (PG.out.bel kb)
  have PSV := Lib.hid (PS.out.bel kb)
  clear kb CK
  by_cases hz : Q = 0
  case neg =>
    obtain rfl : G = Q := HWY.out.1 hz
    have hne : (G != 0) = true := by rw [bne_iff_ne]; exact hz
    go_wp2_with fail
    go_ret2
    exact ⟨rfl, KB.out⟩
  subst hz
  obtain rfl : G = Ev := HWY.out.2 rfl
  go_wp2_with fail
  refine (SO.out (by first | rfl | trivial) _ KB.out).mono ?_
  rintro r V1 ⟨rfl, kb⟩
  have KB1 := Lib.hid (KB.out.trans kb)
  have g0 := (PGV.out.bel kb).cell 0 rfl
  have g1 := (PGV.out.bel kb).cell 1 rfl
  obtain ⟨d0, d1, d2, d3⟩ := rng4 (rngB (C := [.int .i64 a, .int .i64 b, .int .i64 d, .int .i64 e]) (PSV.out.bel kb))
  rw [Nat.zero_add] at d1 d2 d3
  clear kb
  by_cases hs0 : s = 0
  · obtain ⟨rfl, rfl⟩ := HV.out.1 hs0
    subst hs0
    go_wp2_with fail
    go_ret2
    exact ⟨rfl, KB1.out⟩
  · obtain ⟨rfl, rfl⟩ := HV.out.2 hs0
    have hs1 : (s == 0) = false := by rw [beq_eq_false_iff_ne]; exact hs0
    go_wp2_with fail
    refine (PO.out (by first | rfl | trivial) _ KB1.out).mono ?_
    rintro r V2 ⟨rfl, kb⟩
    have KB2 := Lib.hid (KB1.out.trans kb)
    clear kb
    go_wp2_with fail
    refine (VX.out _).mono ?_
    rintro r V3 ⟨rfl, kb⟩
    have KB3 := Lib.hid (KB2.out.trans kb)
    clear kb
    go_wp2_with fail
    go_ret2
    exact ⟨rfl, KB3.out⟩
end Ho
end Go.Proofs.YtneajcoiemkfbaaGreat
end

section
/-
  What holding.Find answers. Conditions: at most a million classes.
-/
namespace Go.Proofs.YtneajcoiemkfbaaGreat
open Go.RowKit Go.Shelf
set_option linter.unusedVariables false
set_option linter.unusedSimpArgs false
namespace Ho
open Kk Pm

/-- The first class of a stamp. -/
def fnd (a b d e : Int) (l : List R6) : Option R6 := l.find? (fun r => decide (ordC r (a, b, d, e, 0, 0) = 0))
def fnT (a b d e : Int) (l : List R6) : Int := match fnd a b d e l with | some r => tok r | none => 0
def fnS (a b d e : Int) (l : List R6) : Int := match fnd a b d e l with | some r => shr r | none => 0
theorem fnd_at (a b d e : Int) : ∀ (l : List R6) (k : Nat) (r : R6), l[k]? = some r → ordC r (a, b, d, e, 0, 0) = 0 → (∀ (j : Nat) (x : R6), j < k → l[j]? = some x → ¬ ordC x (a, b, d, e, 0, 0) = 0) → fnd a b d e l = some r
  | [], _, _, h, _, _ => by simp at h
  | y :: l, 0, r, h, h0, _ => by
    obtain rfl : y = r := by simpa using h
    unfold fnd
    rw [List.find?_cons, decide_eq_true h0]
  | y :: l, k + 1, r, h, h0, hn => by
    have h1 := hn 0 y (by omega) rfl
    have ih := fnd_at a b d e l k r (by simpa using h) h0 (fun j x hj hx => hn (j + 1) x (by omega) (by simpa using hx))
    unfold fnd at ih ⊢
    rw [List.find?_cons, decide_eq_false h1]
    exact ih
theorem fnd_no (a b d e : Int) (l : List R6) (hn : ∀ (j : Nat) (x : R6), l[j]? = some x → ¬ ordC x (a, b, d, e, 0, 0) = 0) : fnd a b d e l = none := by
  unfold fnd
  rw [List.find?_eq_none]
  intro x hx
  obtain ⟨j, hj, rfl⟩ := List.getElem_of_mem hx
  have := hn j _ (List.getElem?_eq_getElem hj)
  simpa using this
theorem res_ci {fn : Func} {p q : Tmp} {tp : TypeId} (h : fn.results = #[.cell p tp, .tmp q]) (tmps : Array Value) (w : World) (a : Addr) (X U : Value)
    (hp : tmps.getD p undef = .pointer (some a)) (hq : tmps.getD q undef = U) (hX : (loadVar tp a).run Tryz.prog w = .ok X w) :
    (results fn tmps).run Tryz.prog w = .ok (.tuple #[X, U]) w := by
  have hp' : tmps[p]?.getD undef = .pointer (some a) := by simpa using hp
  have hq' : tmps[q]?.getD undef = U := by simpa using hq
  simp [results, h, hp', hq', asAddr, hX]
theorem key_ways (r1 r2 r3 r4 r5 r6 a b d e : Int) : (r1 = a ∧ r2 = b ∧ r3 = d ∧ r4 = e) ∨ ((¬ r1 = a ∨ (r1 = a ∧ ¬ r2 = b) ∨ (r1 = a ∧ r2 = b ∧ ¬ r3 = d) ∨ (r1 = a ∧ r2 = b ∧ r3 = d ∧ ¬ r4 = e)) ∧ ¬ ordC (r1, r2, r3, r4, r5, r6) (a, b, d, e, 0, 0) = 0) := by
  by_cases h : r1 = a ∧ r2 = b ∧ r3 = d ∧ r4 = e
  · exact .inl h
  · exact .inr ⟨by omega, fun h0 => h (same_c h0)⟩
set_option maxRecDepth 100000 in
set_option maxHeartbeats 8000000 in
theorem find_ (A : Option Addr) (n c : Nat) (B : Option Addr) (m d0 : Nat) (cs : List R6) (a b d e : Int) (w : World) (h : RS cC w A n c cs) (hn : n ≤ 1000000) :
    Calls Tryz.prog 22 #[.agg #[.slice A n c, .slice B m d0], .agg #[.int .i64 a, .int .i64 b, .int .i64 d, .int .i64 e]] w fun r w' => r = .returned (.tuple #[.agg #[.int .u64 (fnT a b d e cs), .int .u64 (fnS a b d e cs)], .bool (fnd a b d e cs).isSome]) ∧ Bel w w' := by
  obtain ⟨W, hW⟩ : ∃ W, ((w.alloc (.cells #[.slice A n c, .slice B m d0] 25)).alloc (.cells #[.int .i64 a, .int .i64 b, .int .i64 d, .int .i64 e] 37)).alloc (.cells #[.int .u64 0, .int .u64 0] 46) = W := ⟨_, rfl⟩
  have B0 := Lib.hid (show Bel w W by rw [← hW]; exact (((Bel.refl w).alloc _).alloc _).alloc _)
  have PG := Lib.hid (show Blk W w.heap.size #[.slice A n c, .slice B m d0] 25 by rw [← hW]; exact ((Blk.new _ _ _).alloc _).alloc _)
  have PS := Lib.hid (show Blk W (w.heap.size + 1) #[.int .i64 a, .int .i64 b, .int .i64 d, .int .i64 e] 37 by rw [← hW]; refine Blk.alloc ?_ _; have h := Blk.new (w.alloc (.cells #[.slice A n c, .slice B m d0] 25)) #[.int .i64 a, .int .i64 b, .int .i64 d, .int .i64 e] 37; simpa using h)
  have PP := Lib.hid (show Blk W (w.heap.size + 1 + 1) #[.int .u64 0, .int .u64 0] 46 by rw [← hW]; have h := Blk.new ((w.alloc (.cells #[.slice A n c, .slice B m d0] 25)).alloc (.cells #[.int .i64 a, .int .i64 b, .int .i64 d, .int .i64 e] 37)) #[.int .u64 0, .int .u64 0] 46; simpa using h)
  have HR := Lib.hid (h.bel B0.out)
  obtain ⟨ft, hft⟩ : ∃ x, fnT a b d e cs = x := ⟨_, rfl⟩
  obtain ⟨fs, hfs⟩ : ∃ x, fnS a b d e cs = x := ⟨_, rfl⟩
  obtain ⟨fb, hfb⟩ : ∃ x, (fnd a b d e cs).isSome = x := ⟨_, rfl⟩
  have HF := Lib.hid (show (∀ r, fnd a b d e cs = some r → ft = tok r ∧ fs = shr r ∧ fb = true) ∧ (fnd a b d e cs = none → ft = 0 ∧ fs = 0 ∧ fb = false) from by
    rw [← hft, ← hfs, ← hfb]
    unfold fnT fnS
    exact ⟨fun r hr => by rw [hr]; exact ⟨rfl, rfl, rfl⟩, fun hr => by rw [hr]; exact ⟨rfl, rfl, rfl⟩⟩)
  rw [hft, hfs, hfb]
  have g0 := PG.out.cell 0 rfl
  clear h hft hfs hfb
  go_enter Tryz.func22, Tryz.ntmps22
  go_upto_region 1 with fail
  try rw [hW]
  obtain ⟨g, hg⟩ : ∃ g, w.heap.size = g := ⟨_, rfl⟩
  have HG := Lib.hid hg
  rw [hg] at PG PS PP g0 ⊢
  clear hg hW
  go_wp2_with fail
  go_loopw [11] (fun s11 wr => ∃ k : Nat, s11 = .int .i64 k ∧ k ≤ n ∧ Hid (∀ (j : Nat) (x : R6), j < k → cs[j]? = some x → ¬ ordC x (a, b, d, e, 0, 0) = 0) ∧ Hid (Bel W wr)) (fun s11 _ => n - (intOf s11).toNat)
  case atStart => exact ⟨0, rfl, Nat.zero_le _, Lib.hid (fun j x hj => absurd hj (by omega)), Lib.hid (Bel.refl _)⟩
  case round =>
    obtain ⟨k, rfl, hk, hz, hh⟩ := hrel
    by_cases hlt : k < n
    · obtain ⟨⟨r1, r2, r3, r4, r5, r6⟩, hr⟩ := HR.out.get hlt
      obtain ⟨bb, oo, rfl, hb, hrow⟩ := (HR.out.bel hh.out).at hlt hr
      have HRK := Lib.hid hr
      have hlt3 : (k : Int) < n := by omega
      obtain ⟨c0, c1, c2, c3, c4, c5⟩ := rng6 (rowC hrow)
      have hkw := key_ways r1 r2 r3 r4 r5 r6 a b d e
      have PSr := Lib.hid (PS.out.bel hh.out)
      have PPr := Lib.hid (PP.out.bel hh.out)
      clear hr hrow
      go_upto_region 4 with fail
      obtain ⟨V, hV⟩ : ∃ V, wr.alloc (.cells #[.int .i64 r1, .int .i64 r2, .int .i64 r3, .int .i64 r4, .int .u64 r5, .int .u64 r6] 90) = V := ⟨_, rfl⟩
      have BV := Lib.hid (show Bel wr V by rw [← hV]; exact (Bel.refl _).alloc _)
      have P0 := Lib.hid (show Blk V wr.heap.size #[.int .i64 r1, .int .i64 r2, .int .i64 r3, .int .i64 r4, .int .u64 r5, .int .u64 r6] 90 by rw [← hV]; exact Blk.new _ _ _)
      rw [hV]
      obtain ⟨q, hq⟩ : ∃ q, wr.heap.size = q := ⟨_, rfl⟩
      rw [hq] at P0 ⊢
      clear hV hq c0 c1 c2 c3 c4 c5
      obtain ⟨c0, c1, c2, c3, c4, c5⟩ := rng6 (rngB (C := [.int .i64 r1, .int .i64 r2, .int .i64 r3, .int .i64 r4, .int .u64 r5, .int .u64 r6]) P0.out)
      rw [Nat.zero_add] at c1 c2 c3 c4 c5
      obtain ⟨d0, d1, d2, d3⟩ := rng4 (rngB (C := [.int .i64 a, .int .i64 b, .int .i64 d, .int .i64 e]) (PSr.out.bel BV.out))
      rw [Nat.zero_add] at d1 d2 d3
      have PPV := Lib.hid (PPr.out.bel BV.out)
      have BB := Lib.hid (B0.out.trans (hh.out.trans BV.out))
      rcases hkw with ⟨rfl, rfl, rfl, rfl⟩ | ⟨hkw, hno⟩
      · have hf := HF.out.1 _ (fnd_at _ _ _ _ cs k _ HRK.out (odC.self (r1, r2, r3, r4, r5, r6)) hz.out)
        obtain ⟨rfl, rfl, rfl⟩ : ft = r5 ∧ fs = r6 ∧ fb = true := hf
        have f0 := PPV.out.cell 0 rfl
        have f1 := PPV.out.cell 1 rfl
        have ff0 := PPV.out.frozen 0
        have ff1 := PPV.out.frozen 1
        have P9 := Lib.hid (show Blk ((V.setCell ⟨g + 1 + 1, 0, none⟩ (.int .u64 ft)).setCell ⟨g + 1 + 1, 1, none⟩ (.int .u64 fs)) (g + 1 + 1) #[.int .u64 ft, .int .u64 fs] 46 from (PPV.out.set 0 _).set 1 _)
        have hge : w.heap.size ≤ g + 1 + 1 := by have := HG.out; omega
        have HGE := Lib.hid hge
        clear hge
        go_wp2_with fail
        refine bodyPost_ret (v := .tuple #[.agg #[.int .u64 ft, .int .u64 fs], .bool true]) (res_ci rfl _ _ ⟨g + 1 + 1, 0, none⟩ _ _ rfl rfl (Pm.load_b (C := [.int .u64 ft, .int .u64 fs]) P9.out Tryz.underlying46 rfl info_q)) rfl ?_
        exact ⟨rfl, (BB.out.set (p := ⟨g + 1 + 1, 0, none⟩) HGE.out _).set (p := ⟨g + 1 + 1, 1, none⟩) HGE.out _⟩
      · have HN := Lib.hid (fun (j : Nat) (x : R6) (hj : j < k + 1) (hx : cs[j]? = some x) => show ¬ ordC x (a, b, d, e, 0, 0) = 0 from by
          rcases Nat.lt_or_ge j k with h' | h'
          · exact hz.out j x h' hx
          · obtain rfl : j = k := by omega
            have := HRK.out.symm.trans hx
            injection this with this
            rw [← this]; exact hno)
        clear hno
        rcases hkw with h1 | ⟨rfl, h2⟩ | ⟨rfl, rfl, h3⟩ | ⟨rfl, rfl, rfl, h4⟩
        all_goals
          go_wp2_with fail
          go_roundw
          case rel => exact ⟨k + 1, by go_num, by omega, HN, Lib.hid (hh.out.trans BV.out)⟩
          case measure => simp [intOf]; omega
    · obtain rfl : k = n := by omega
      have hf := HF.out.2 (fnd_no a b d e cs (fun j x hx => hz.out j x (by have := (List.getElem?_eq_some_iff.1 hx).1; have := HR.out.len; omega) hx))
      obtain ⟨rfl, rfl, rfl⟩ : ft = 0 ∧ fs = 0 ∧ fb = false := hf
      have PPV := Lib.hid (PP.out.bel hh.out)
      have f0 := PPV.out.cell 0 rfl
      have f1 := PPV.out.cell 1 rfl
      have ff0 := PPV.out.frozen 0
      have ff1 := PPV.out.frozen 1
      have P9 := Lib.hid (show Blk ((wr.setCell ⟨g + 1 + 1, 0, none⟩ (.int .u64 0)).setCell ⟨g + 1 + 1, 1, none⟩ (.int .u64 0)) (g + 1 + 1) #[.int .u64 0, .int .u64 0] 46 from (PPV.out.set 0 _).set 1 _)
      have hge : w.heap.size ≤ g + 1 + 1 := by have := HG.out; omega
      have HGE := Lib.hid hge
      clear hge
      go_wp2_with fail
      refine bodyPost_ret (v := .tuple #[.agg #[.int .u64 0, .int .u64 0], .bool false]) (res_ci rfl _ _ ⟨g + 1 + 1, 0, none⟩ _ _ rfl rfl (Pm.load_b (C := [.int .u64 0, .int .u64 0]) P9.out Tryz.underlying46 rfl info_q)) rfl ?_
      exact ⟨rfl, ((B0.out.trans hh.out).set (p := ⟨g + 1 + 1, 0, none⟩) HGE.out _).set (p := ⟨g + 1 + 1, 1, none⟩) HGE.out _⟩
end Ho
end Go.Proofs.YtneajcoiemkfbaaGreat
end
