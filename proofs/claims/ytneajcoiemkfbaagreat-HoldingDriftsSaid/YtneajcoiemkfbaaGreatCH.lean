/-
  Texts of this claim, put together: Ho10, Ho11, Ho17. What each one says, and under which conditions, stands ahead of it.
-/
import Derived.Deep.Onto
import Derived.Test.YtneajcoiemkfbaaGreatTk
import Derived.Test.YtneajcoiemkfbaaGreatCG

section
/-
  What holding.addUp answers: whether the positions' shares are the classes'. Conditions: both are in order, each position has a class, at most a million rows; amounts are words.
-/
namespace Go.Proofs.YtneajcoiemkfbaaGreat
open Go.RowKit Go.Shelf
set_option linter.unusedVariables false
set_option linter.unusedSimpArgs false
attribute [local go_sem] Oper.semAt_some
namespace Ho
open Kk Pm

theorem add_no {cs ps qs : List R6} (hp : ∀ p ∈ ps, 0 ≤ shr p) (hq : qs <+: ps) {r : R6} (hr : r ∈ cs) (h : shr r < sumS qs r) : addB cs ps = false := by
  unfold addB
  rw [List.all_eq_false]
  refine ⟨r, hr, ?_⟩
  have := sumS_pre hp hq r
  simp
  omega
theorem add_any {cs ps : List R6} (h : ∀ r ∈ cs, sumS ps r ≤ shr r) : (!(lft cs ps).any (fun r => decide (0 < shr r))) = addB cs ps := by
  unfold addB lft
  rw [List.any_map]
  induction cs with
  | nil => rfl
  | cons y cs ih =>
    have h1 := ih (fun r hr => h r (List.mem_cons_of_mem _ hr))
    have h2 := h y (List.mem_cons_self ..)
    rw [List.any_cons, List.all_cons, Bool.not_or, h1]
    congr 1
    obtain ⟨a, b, c, d, e, f⟩ := y
    show (!decide (0 < f - sumS ps (a, b, c, d, e, f))) = decide (sumS ps (a, b, c, d, e, f) = f)
    have h3 : sumS ps (a, b, c, d, e, f) ≤ f := h2
    by_cases hh : sumS ps (a, b, c, d, e, f) = f
    · rw [decide_eq_true hh]; simp; omega
    · rw [decide_eq_false hh]; simp; omega
theorem lft_nil {cs : List R6} : lft cs [] = cs := by
  unfold lft
  conv => rhs; rw [← List.map_id cs]
  refine List.map_congr_left fun r _ => ?_
  obtain ⟨a, b, c, d, e, f⟩ := r
  show (a, b, c, d, e, f - 0) = (a, b, c, d, e, f)
  rw [Int.sub_zero]
theorem uniq_c {cs : List R6} (hs : Srt ordC cs) {r r' x : R6} (h : r ∈ cs) (h' : r' ∈ cs) (e : ordC x r = 0) (e' : ordC r' x = 0) : r = r' := by
  have g1 := get_mem odC hs h (odC.sym e)
  have g2 := get_mem odC hs h' e'
  have := g1.symm.trans g2
  injection this
theorem lft_at {cs ps : List R6} {j : Nat} {r : R6} (h : cs[j]? = some r) : (lft cs ps)[j]? = some (sub1 ps r) := by
  unfold lft
  rw [List.getElem?_map, h]; rfl
theorem RS.put1 {w : World} {A : Option Addr} {n c : Nat} {l : List R6} (h : RS cP w A n c l) {g i : Nat} {u : Value} (hne : 0 < n → ∀ x, A = some x → x.block ≠ g) : RS cP (w.setCell ⟨g, i, none⟩ u) A n c l :=
  h.kep2 (S := fun b => b = g) (Kep.set_self (Kep.refl _ w) i u) hne
set_option maxRecDepth 100000 in
set_option maxHeartbeats 8000000 in
theorem addUp (A : Option Addr) (n c : Nat) (B : Option Addr) (m d : Nat) (cs ps : List R6) (w : World) (ha : RS cC w A n c cs) (hb : RS cP w B m d ps) (hs : Srt ordC cs) (hn : n ≤ 1000000) (hm : m ≤ 1000000)
    (hpo : ∀ p ∈ ps, inB ordC cs (stp p) = true) (hwp : ∀ p ∈ ps, 0 ≤ shr p ∧ shr p ≤ 18446744073709551615) (hwc : ∀ r ∈ cs, Wd r) :
    Calls Tryz.prog 65 #[.agg #[.slice A n c, .slice B m d]] w fun e w' => e = .returned (.bool (addB cs ps)) ∧ Bel w w' := by
  have HD := Lib.hid (fun A2 c2 V => held A2 n c2 B m d V)
  have HA := Lib.hid ha
  have HB := Lib.hid hb
  have HSO := Lib.hid hs
  have HS := Lib.hid (srt_key.2 hs)
  have HPO := Lib.hid hpo
  have HWP := Lib.hid hwp
  have HWC := Lib.hid hwc
  have HLA := Lib.hid ha.len
  have HLB := Lib.hid hb.len
  have HBB := Lib.hid (show 0 < m → ∀ x, B = some x → x.block < w.heap.size from fun h0 x hx => by
    obtain ⟨b, o, e, hlt, _⟩ := hb.row h0
    rw [e] at hx; injection hx with hx; subst hx; exact hlt)
  clear ha hb hs hpo hwp hwc
  obtain ⟨RR, hRR⟩ : ∃ R, addB cs ps = R := ⟨_, rfl⟩
  have HRES := Lib.hid hRR
  rw [hRR]
  clear hRR
  obtain ⟨W0, hW0⟩ : ∃ W0, (w.alloc (.cells #[.slice A n c, .slice B m d] 25)).alloc (.cells #[.bool false] 4) = W0 := ⟨_, rfl⟩
  have BW0 := Lib.hid (show Bel w W0 by rw [← hW0]; exact ((Bel.refl w).alloc _).alloc _)
  have PG := Lib.hid (show Blk W0 w.heap.size #[.slice A n c, .slice B m d] 25 by rw [← hW0]; exact (Blk.new _ _ _).alloc _)
  have PR := Lib.hid (show Blk W0 (w.heap.size + 1) #[.bool false] 4 by rw [← hW0]; have := Blk.new (w.alloc (.cells #[.slice A n c, .slice B m d] 25)) #[.bool false] 4; rwa [World.size_alloc] at this)
  have HSW := Lib.hid (show W0.heap.size = w.heap.size + 1 + 1 by rw [← hW0, World.size_alloc, World.size_alloc])
  refine callsIn_wide.1 (callsIn_of_wp_marks (F := Fence.wide) (n := 9) Tryz.func65 rfl trivial ?_ rfl)
  simp only [Tryz.ntmps65, List.size_toArray, List.length_cons, List.length_nil, Nat.reduceAdd, Nat.reduceSub, Array.replicate_succ, Array.replicate_zero, List.push_toArray, List.append_toArray, List.nil_append, List.cons_append]
  refine wpIn_wide.2 ?_
  go_upto_region 1 with fail
  obtain ⟨g, hg⟩ : ∃ g, w.heap.size = g := ⟨_, rfl⟩
  have HG := Lib.hid hg
  rw [hg] at PG PR HSW ⊢
  clear hg hW0
  rename_i Kq hKq
  have REST : Hid (∀ (gl : Nat) (A2 : Option Addr) (c2 : Nat) (wx : World), Blk wx gl #[.slice A2 n c2, .slice B m d] 25 → OwnR cC 90 wx W0.heap.size (.slice A2 n c2) cs → Bel W0 wx → W0.heap.size ≤ gl → Kq { tmps := #[.agg #[.slice A n c, .slice B m d], .pointer (some ⟨g, 0, none⟩), .pointer (some ⟨g + 1, 0, none⟩), .pointer (some ⟨gl, 0, none⟩), undef, undef, .pointer (some ⟨g, 0, none⟩), .slice A n c, .slice A2 n c2, .pointer (some ⟨g, 1, none⟩), .slice B m d, .agg #[.slice A2 n c2, .slice B m d], undef, undef, undef, undef, undef, undef, undef, undef, undef, undef, undef, undef, undef, undef, undef, undef, undef, undef, undef, undef, undef, undef, undef, undef], defers := [] } wx) := by
    intro gl A2 c2 wx hbl how hbe hge
    refine hKq _ _ ?_
    have HBL := Lib.hid hbl
    have HOW := Lib.hid how
    have HBE := Lib.hid hbe
    have HGE := Lib.hid hge
    have l0 := hbl.cell 0 rfl
    have l1 := hbl.cell 1 rfl
    clear hbl how hbe hge hKq
    go_wp2_with fail
    refine (HD.out A2 c2 _).mono ?_
    rintro e W ⟨p, rfl, kb, hp, pb⟩
    have BW := Lib.hid (BW0.out.trans (HBE.out.trans kb))
    have PB := Lib.hid pb
    have HRS := Lib.hid (show RS cC W A2 n c2 cs by
      obtain ⟨A3, c3, e3, h3, _⟩ := OwnR.rs c6C (HOW.out.bel kb)
      injection e3 with e1 e2 e3
      subst e1 e3
      rw [HLA.out] at h3
      exact h3)
    have HRB := Lib.hid (show 0 < n → ∃ gc, A2 = some ⟨gc, 0, none⟩ ∧ w.heap.size ≤ gc ∧ RB cC 90 W gc cs c2 from fun h0 => by
      obtain ⟨gc, cap, e3, h3, h4, _⟩ := rb_own c6C (HOW.out.bel kb) (by rw [HLA.out]; exact h0)
      injection e3 with e1 e2 e3
      subst e1 e3
      exact ⟨gc, rfl, Nat.le_trans (Below.size BW0.out) h3, h4⟩)
    have HI := Lib.hid (show Hi p A2 n c2 B m d (cs.map key) ps W from ⟨PB.out, ⟨cs, HRS.out, rfl⟩, HB.out.bel BW.out⟩)
    have SEQ := Lib.hid (seq 8 (by decide) HS.out hn hm HI.out)
    have HGW := Lib.hid (show w.heap.size ≤ W.heap.size from Below.size BW.out)
    have HI0 := Lib.hid (show AuI w g gl p A n c B m d A2 c2 cs ps [] W from ⟨HI.out, PR.out.bel (HBE.out.trans kb), HBL.out.bel kb, fun h0 => by
      obtain ⟨gc, h1, h2, h3⟩ := HRB.out h0
      exact ⟨gc, h1, h2, by show RB _ _ _ _ (lft cs []) _; rw [lft_nil]; exact h3⟩, BW.out, fun r hr => (HWC.out r hr).2.2.1⟩)
    have HGL := Lib.hid (show w.heap.size ≤ gl from Nat.le_trans (Below.size BW0.out) HGE.out)
    clear kb hp pb l0 l1
    go_wp2_with fail
    refine (wpIn_wide (n := 9)).1 ?_
    refine wpIn_rangeFunc_ownH (α := Ps ps) rfl (by decide) (gf := 151) (lb := #[.pointer (some ⟨p, 0, none⟩)]) rfl trivial (enters_of Tryz.func151 (by kernel_rfl) rfl)
      SEQ.out (fun h k x => k (h x)) (fun X l o o' _ ho hc _ h => h.grown (grownBy_putObj' X l o') (fun r e => by cases e; exact ⟨o, ho, hc⟩)) (Below.refl _ _) (fun _ => rfl)
      (fun pre V => AuI w g gl p A n c B m d A2 c2 cs ps pre V) (fun cd pre V => AuX w g cs ps cd pre V)
      (fun s X X' row h hg hr => ⟨h.hi.grown hg (fun r e => (hr r e).2), blk_grown h.bx hg (fun r e => (hr r e).2), blk_grown h.le hg (fun r e => (hr r e).2), fun h0 => by
        obtain ⟨gc, h1, h2, h3⟩ := h.rb h0
        exact ⟨gc, h1, h2, h3.grown hg (fun r e => (hr r e).2)⟩, Kk.Bel.grown h.bel hg (fun k e => Nat.le_trans HGW.out (hr k e).1), h.no⟩)
      (fun cd s X X' row h hg hr => ⟨h.1, h.2.1, blk_grown h.2.2.1 hg (fun r e => (hr r e).2), Kk.Bel.grown h.2.2.2 hg (fun k e => Nat.le_trans HGW.out (hr k e).1)⟩)
      HI0.out
      (fun e a' X => ∃ q, a' = { tmps := #[.agg #[.slice A n c, .slice B m d], .pointer (some ⟨g, 0, none⟩), .pointer (some ⟨g + 1, 0, none⟩), .pointer (some ⟨gl, 0, none⟩), .pointer (some ⟨q, 0, none⟩), ptrV A2 (cs.map key) e.1, .pointer (some ⟨g, 0, none⟩), .slice A n c, .slice A2 n c2, .pointer (some ⟨g, 1, none⟩), .slice B m d, .agg #[.slice A2 n c2, .slice B m d], .agg #[.slice A2 n c2, .slice B m d], .func (.func 151) #[] #[.pointer (some ⟨p, 0, none⟩)], .agg (cP e.1).toArray, ptrV A2 (cs.map key) e.1, undef, undef, undef, undef, undef, undef, undef, undef, undef, undef, undef, undef, undef, undef, undef, undef, undef, undef, undef, undef], defers := [] } ∧ Blk X q (cP e.1).toArray 93)
      (fun e a' _ X X' row h hg hr => by
        obtain ⟨q, h1, h2⟩ := h
        exact ⟨q, h1, blk_grown h2 hg (fun r e => (hr r e).2)⟩)
      ?assign ?body ?done ?stop
    case assign =>
      rintro l pre ⟨⟨r1, r2, r3, r4, r5, r6⟩, hr⟩ X K hI hK
      obtain ⟨Q, hQ⟩ : ∃ Q, ptrV A2 (cs.map key) (r1, r2, r3, r4, r5, r6) = Q := ⟨_, rfl⟩
      have BA : ∀ o, Bel X (X.alloc o) := fun o => (Bel.refl X).alloc o
      have HK := Lib.hid (hK { tmps := #[.agg #[.slice A n c, .slice B m d], .pointer (some ⟨g, 0, none⟩), .pointer (some ⟨g + 1, 0, none⟩), .pointer (some ⟨gl, 0, none⟩), .pointer (some ⟨X.heap.size, 0, none⟩), Q, .pointer (some ⟨g, 0, none⟩), .slice A n c, .slice A2 n c2, .pointer (some ⟨g, 1, none⟩), .slice B m d, .agg #[.slice A2 n c2, .slice B m d], .agg #[.slice A2 n c2, .slice B m d], .func (.func 151) #[] #[.pointer (some ⟨p, 0, none⟩)], .agg #[.int .i64 r1, .int .i64 r2, .int .i64 r3, .int .i64 r4, .int .i64 r5, .int .u64 r6], Q, undef, undef, undef, undef, undef, undef, undef, undef, undef, undef, undef, undef, undef, undef, undef, undef, undef, undef, undef, undef], defers := [] } (X.alloc (.cells #[.int .i64 r1, .int .i64 r2, .int .i64 r3, .int .i64 r4, .int .i64 r5, .int .u64 r6] 93))
        ((KeepsOthers.alloc X _).from _) (fun h => h.bel (BA _)) ⟨hI.hi.bel (BA _), hI.bx.bel (BA _), hI.le.bel (BA _), fun h0 => by
          obtain ⟨gc, h1, h2, h3⟩ := hI.rb h0
          exact ⟨gc, h1, h2, h3.bel (BA _)⟩, hI.bel.trans (BA _), hI.no⟩ ⟨X.heap.size, by rw [← hQ]; rfl, Blk.new _ _ _⟩)
      show Code.wpIn _ _ _ _ _ { tmps := (#[14, 15].zip #[.agg #[.int .i64 r1, .int .i64 r2, .int .i64 r3, .int .i64 r4, .int .i64 r5, .int .u64 r6], ptrV A2 (cs.map key) (r1, r2, r3, r4, r5, r6)]).foldl _ _, defers := [] } X
      rw [hQ]
      clear hK hQ BA
      gi_wp2
      exact HK.out
    case body =>
      rintro l pre ⟨⟨r1, r2, r3, r4, r5, r6⟩, hr⟩ a' X hl hex hI ⟨q, rfl, hq⟩ hlen
      have HII := Lib.hid hI
      have HQ := Lib.hid (show Blk X q #[.int .i64 r1, .int .i64 r2, .int .i64 r3, .int .i64 r4, .int .i64 r5, .int .u64 r6] 93 from hq)
      obtain ⟨⟨s1, s2, s3, s4, s5, s6⟩, hrr, _, _, hpl⟩ := (pol_at cs (r2, r3, r4, r5, 0, 0)).2 (HPO.out _ hr)
      have hn0 : 0 < n := by have := HLA.out; omega
      obtain ⟨gc, rfl, hgc, hrb⟩ := hI.rb hn0
      have h0k : ordC (s1, s2, s3, s4, s5, s6) (stp (r1, r2, r3, r4, r5, r6)) = 0 := by
        have h1 : inB ordC cs (r2, r3, r4, r5, 0, 0) = true := HPO.out _ hr
        rw [inB_at ordC cs _ _ hrr] at h1
        exact of_decide_eq_true h1
      have HSN := Lib.hid (lft_snoc (ps := pre.map (fun e : Ps ps => e.1)) HSO.out (r1, r2, r3, r4, r5, r6) hrr h0k)
      have hat := lft_at (ps := pre.map (fun e : Ps ps => e.1)) hrr
      have hptr : ptrV (some ⟨gc, 0, none⟩) (cs.map key) (r1, r2, r3, r4, r5, r6) = .pointer (some ⟨gc, 0 + pos ordC cs (r2, r3, r4, r5, 0, 0) * 6 + 4, none⟩) := by
        show ptrO _ (inB ordC (cs.map key) (r2, r3, r4, r5, 0, 0)) (pos ordC (cs.map key) (r2, r3, r4, r5, 0, 0)) = _
        rw [in_key, pos_key, show inB ordC cs (r2, r3, r4, r5, 0, 0) = true from HPO.out _ hr]
        rfl
      obtain ⟨F, hF⟩ : ∃ F, s6 - sumS (pre.map (fun e : Ps ps => e.1)) (s1, s2, s3, s4, s5, s6) = F := ⟨_, rfl⟩
      have hat : (lft cs (pre.map (fun e : Ps ps => e.1)))[pos ordC cs (r2, r3, r4, r5, 0, 0)]? = some (s1, s2, s3, s4, s5, F) := by rw [← hF]; exact hat
      have HNW := Lib.hid (show lft cs ((pre ++ [(⟨(r1, r2, r3, r4, r5, r6), hr⟩ : Ps ps)]).map (fun e : Ps ps => e.1)) = (lft cs (pre.map (fun e : Ps ps => e.1))).set (pos ordC cs (r2, r3, r4, r5, 0, 0)) (s1, s2, s3, s4, s5, F - r6) by
        rw [List.map_append]
        show lft cs (_ ++ [(r1, r2, r3, r4, r5, r6)]) = _
        rw [HSN.out.1, HSN.out.2, ← hF]
        rfl)
      have hsn : sumS ((pre ++ [(⟨(r1, r2, r3, r4, r5, r6), hr⟩ : Ps ps)]).map (fun e : Ps ps => e.1)) (s1, s2, s3, s4, s5, s6) = s6 - F + r6 := by
        rw [List.map_append]
        show sumS (_ ++ [(r1, r2, r3, r4, r5, r6)]) _ = _
        rw [sumS_snoc, if_pos (odC.sym h0k)]
        show _ + r6 = _
        omega
      have HNO := Lib.hid (show ¬ F < r6 → ∀ r ∈ cs, sumS ((pre ++ [(⟨(r1, r2, r3, r4, r5, r6), hr⟩ : Ps ps)]).map (fun e : Ps ps => e.1)) r ≤ shr r from fun hge r hrc => by
        by_cases hh : ordC (stp (r1, r2, r3, r4, r5, r6)) r = 0
        · obtain rfl := uniq_c HSO.out hrc (List.mem_of_getElem? hrr) hh h0k
          rw [hsn]
          show _ ≤ s6
          omega
        · rw [List.map_append]
          show sumS (_ ++ [(r1, r2, r3, r4, r5, r6)]) r ≤ _
          rw [sumS_snoc, if_neg hh, Int.add_zero]
          exact HII.out.no r hrc)
      have HLS := Lib.hid (show F < r6 → ∃ r ∈ cs, shr r < sumS ((pre ++ [(⟨(r1, r2, r3, r4, r5, r6), hr⟩ : Ps ps)]).map (fun e : Ps ps => e.1)) r from fun hlt => ⟨_, List.mem_of_getElem? hrr, by rw [hsn]; show s6 < _; omega⟩)
      have F0 : 0 ≤ F := by have : sumS (pre.map (fun e : Ps ps => e.1)) (s1, s2, s3, s4, s5, s6) ≤ s6 := HII.out.no _ (List.mem_of_getElem? hrr); omega
      have F1 : F ≤ 18446744073709551615 := by
        have h1 : s6 ≤ 18446744073709551615 := (HWC.out _ (List.mem_of_getElem? hrr)).2.2.2
        have h2 := sumS0 (ps := pre.map (fun e : Ps ps => e.1)) (fun x hx => by
          obtain ⟨y, _, rfl⟩ := List.mem_map.1 hx
          exact (HWP.out _ y.2).1) (s1, s2, s3, s4, s5, s6)
        omega
      have x0 : 0 ≤ r6 := (HWP.out _ hr).1
      have x1 : r6 ≤ 18446744073709551615 := (HWP.out _ hr).2
      have RBX := Lib.hid hrb
      have HAT := Lib.hid hat
      have HGC := Lib.hid hgc
      obtain ⟨_, bo, he, _, hrow⟩ := (hrb.rs c6C).at (by rw [show (lft cs (pre.map (fun e : Ps ps => e.1))).length = cs.length from by unfold lft; rw [List.length_map]]; exact hpl) hat
      injection he with he
      injection he with he1 he2
      subst he1 he2
      rw [hptr, Nat.zero_add]
      rw [Nat.zero_add] at hrow
      obtain ⟨pk, hpk⟩ : ∃ pk, pos ordC cs (r2, r3, r4, r5, 0, 0) = pk := ⟨_, rfl⟩
      rw [hpk] at hrow HAT HNW ⊢
      have HC := Lib.hid (show X.cell? ⟨gc, pk * 6 + 4 + 1, none⟩ = some (.int .u64 F) from (rng6 (rowC hrow)).2.2.2.2.2)
      clear hsn hF hptr hat h0k hrr hpl hrb hgc hrow hq hI hpk
      show Code.wpIn _ _ _ _ _ { tmps := #[.agg #[.slice A n c, .slice B m d], .pointer (some ⟨g, 0, none⟩), .pointer (some ⟨g + 1, 0, none⟩), .pointer (some ⟨gl, 0, none⟩), .pointer (some ⟨q, 0, none⟩), .pointer (some ⟨gc, pk * 6 + 4, none⟩), .pointer (some ⟨g, 0, none⟩), .slice A n c, .slice (some ⟨gc, 0, none⟩) n c2, .pointer (some ⟨g, 1, none⟩), .slice B m d, .agg #[.slice (some ⟨gc, 0, none⟩) n c2, .slice B m d], .agg #[.slice (some ⟨gc, 0, none⟩) n c2, .slice B m d], .func (.func 151) #[] #[.pointer (some ⟨p, 0, none⟩)], .agg #[.int .i64 r1, .int .i64 r2, .int .i64 r3, .int .i64 r4, .int .i64 r5, .int .u64 r6], .pointer (some ⟨gc, pk * 6 + 4, none⟩), undef, undef, undef, undef, undef, undef, undef, undef, undef, undef, undef, undef, undef, undef, undef, undef, undef, undef, undef, undef], defers := [] } X
      gi_wp2_with fail
      refine held_in (S := fun Vx => Bel X Vx) (by kernel_rfl) (by kernel_rfl) (by rintro ⟨_, _, h⟩; exact h) (Bel.refl _).drew (fun hS0 => ?_)
      obtain ⟨w6, hw6⟩ : ∃ w6, World.drew X = w6 := ⟨_, rfl⟩
      rw [hw6] at hS0 ⊢
      clear hw6
      refine ztk 0 { dst := some 16, op := .fieldAddr 93 (.tmp 4) 2, type := 0, pos := "check.go:89", after := #[], guard := none } (.pointer (some ⟨q, 5, none⟩)) (Or.inl ⟨by rfl, by intro w hSw; clear hSw; go_simp⟩) hS0 ?_
      try simp only [Act.put, zq1, zq2, zq3]
      refine ztk 1 { dst := some 17, op := .load 32 (.tmp 16), type := 32, pos := "check.go:89", after := #[{ on := 0, ground := .data }], guard := none } (.int .u64 r6) (Or.inl ⟨by rfl, by intro w h; have hcell := ((HQ.out.bel h).cell 5 rfl); clear h; go_simp⟩) hS0 ?_
      try simp only [Act.put, zq1, zq2, zq3]
      refine ztk 2 { dst := some 18, op := .move (.tmp 5), type := 115, pos := "check.go:89", after := #[], guard := none } (.pointer (some ⟨gc, pk * 6 + 4, none⟩)) (Or.inl ⟨by rfl, by intro w hSw; clear hSw; go_simp⟩) hS0 ?_
      try simp only [Act.put, zq1, zq2, zq3]
      refine ztk 3 { dst := some 19, op := Op.nilCheck (.tmp 18), type := 0, pos := "check.go:89", after := #[{ on := 2, ground := .data }], guard := none } (.pointer (some ⟨gc, pk * 6 + 4, none⟩)) (Or.inl ⟨by rfl, by intro w hSw; clear hSw; go_simp⟩) hS0 ?_
      try simp only [Act.put, zq1, zq2, zq3]
      refine ztk 4 { dst := some 20, op := .fieldAddr 46 (.tmp 19) 1, type := 0, pos := "check.go:89", after := #[{ on := 3, ground := .data }], guard := none } (.pointer (some ⟨gc, pk * 6 + 4 + 1, none⟩)) (Or.inl ⟨by rfl, by intro w hSw; clear hSw; go_simp⟩) hS0 ?_
      try simp only [Act.put, zq1, zq2, zq3]
      refine ztk 5 { dst := some 21, op := .load 32 (.tmp 20), type := 32, pos := "check.go:89", after := #[{ on := 4, ground := .data }], guard := none } (.int .u64 F) (Or.inl ⟨by rfl, by intro w h; have hcell := (cell_bel HC.out h); clear h; go_simp⟩) hS0 ?_
      try simp only [Act.put, zq1, zq2, zq3]
      refine ztk 6 { dst := some 22, op := .binOp .gtr 32 (.tmp 17) (.tmp 21) 32, type := 4, pos := "check.go:89", after := #[{ on := 1, ground := .data }, { on := 5, ground := .data }], guard := none } (.bool (decide (F < r6))) (Or.inl ⟨by rfl, by intro w hSw; clear hSw; go_simp⟩) hS0 ?_
      try simp only [Act.put, zq1, zq2, zq3]
      refine wpAnyH_done (by kernel_rfl) ?_ _
      have HE := Lib.hid hS0
      by_cases hlt : F < r6
      · have b0 := (HII.out.bx.bel HE.out).cell 0 rfl
        have bf := (HII.out.bx.bel HE.out).frozen 0
        gi_wp2_with fail
        exact ⟨((KeepsOthers.of_grownBy (Kk.Bel.grownBy HE.out) (fun j o e => by cases e)).trans (KeepsOthers.setCell _ _ _)).from _, rfl, HLS.out hlt, (HII.out.bx.bel HE.out).set 0 _, (HII.out.bel.trans HE.out).set (by have := HG.out; show w.heap.size ≤ g + 1; omega) _⟩
      · have hd : decide (F < r6) = false := decide_eq_false hlt
        have hge : 0 ≤ F - r6 := by omega
        have HNO := Lib.hid (HNO.out (by omega))
        have hwr : IntKind.u64.wrap (F - r6) = F - r6 := IntWalk.u64_in _ ⟨by omega, by omega⟩
        clear hlt
        gi_wp2_with fail
        have hgq := blk_ne (HQ.out.bel HE.out) (show Blk w6 gc _ _ from (RBX.out.bel HE.out).blk.choose_spec.1) (by decide)
        have HGQ := Lib.hid hgq
        clear hgq
        refine held_in (S := fun V => Kep (fun b => b = gc) w6 V) (by kernel_rfl) (by kernel_rfl) (by rintro ⟨_, _, h⟩; exact h) (Kep.drew (Kep.refl _ _)) (fun hS0 => ?_)
        have HD6 := Lib.hid (show Bel w6 w6.drew from (Bel.refl _).drew)
        obtain ⟨w7, hw7⟩ : ∃ w7, World.drew w6 = w7 := ⟨_, rfl⟩
        rw [hw7] at hS0 HD6 ⊢
        clear hw7
        refine ztk 0 { dst := some 23, op := .move (.tmp 5), type := 115, pos := "check.go:92", after := #[], guard := none } (.pointer (some ⟨gc, pk * 6 + 4, none⟩)) (Or.inl ⟨by rfl, by intro w hSw; clear hSw; go_simp⟩) hS0 ?_
        try simp only [Act.put, zq1, zq2, zq3]
        refine ztk 1 { dst := some 24, op := Op.nilCheck (.tmp 23), type := 0, pos := "check.go:92", after := #[{ on := 0, ground := .data }], guard := none } (.pointer (some ⟨gc, pk * 6 + 4, none⟩)) (Or.inl ⟨by rfl, by intro w hSw; clear hSw; go_simp⟩) hS0 ?_
        try simp only [Act.put, zq1, zq2, zq3]
        refine ztk 2 { dst := some 25, op := .fieldAddr 46 (.tmp 24) 1, type := 0, pos := "check.go:92", after := #[{ on := 1, ground := .data }], guard := none } (.pointer (some ⟨gc, pk * 6 + 4 + 1, none⟩)) (Or.inl ⟨by rfl, by intro w hSw; clear hSw; go_simp⟩) hS0 ?_
        try simp only [Act.put, zq1, zq2, zq3]
        refine ztk 4 { dst := some 27, op := .fieldAddr 93 (.tmp 4) 2, type := 0, pos := "check.go:92", after := #[], guard := none } (.pointer (some ⟨q, 5, none⟩)) (Or.inl ⟨by rfl, by intro w hSw; clear hSw; go_simp⟩) hS0 ?_
        try simp only [Act.put, zq1, zq2, zq3]
        refine ztk 5 { dst := some 28, op := .load 32 (.tmp 27), type := 32, pos := "check.go:92", after := #[{ on := 4, ground := .data }], guard := none } (.int .u64 r6) (Or.inl ⟨by rfl, by intro w h; have hcell := (((HQ.out.bel HE.out).kep h HGQ.out).cell 5 rfl); clear h; go_simp⟩) hS0 ?_
        try simp only [Act.put, zq1, zq2, zq3]
        refine wpAnyH_ready (rs := [3]) (by kernel_rfl) (by simp) ?_
        refine AllReadyH.cons (o := { dst := some 26, op := .load 32 (.tmp 25), type := 32, pos := "check.go:92", after := #[{ on := 2, ground := .data }], guard := none }) rfl (fun K hK => ?_) AllReadyH.nil
        have cF : w7.cell? ⟨gc, pk * 6 + 4 + 1, none⟩ = some (.int .u64 F) := cell_bel HC.out (HE.out.trans HD6.out)
        go_simp
        refine hK.out _ _ (hS0) (fun hS1 => ?_)
        clear hK K
        try simp only [Act.put, zq1, zq2, zq3]
        refine ztk 6 { dst := some 29, op := .binOp .sub 32 (.tmp 26) (.tmp 28) 32, type := 32, pos := "check.go:92", after := #[{ on := 3, ground := .data }, { on := 5, ground := .data }], guard := none } (.int .u64 (F - r6)) (Or.inl ⟨by rfl, by intro w hSw; clear hSw; go_simp⟩) hS1 ?_
        try simp only [Act.put, zq1, zq2, zq3]
        refine ztk 7 { dst := some 30, op := Op.nilCheck (.tmp 23), type := 0, pos := "check.go:92", after := #[{ on := 0, ground := .data }, { on := 0, ground := .phase }, { on := 1, ground := .phase }, { on := 2, ground := .phase }, { on := 3, ground := .phase }, { on := 4, ground := .phase }, { on := 5, ground := .phase }, { on := 6, ground := .phase }], guard := none } (.pointer (some ⟨gc, pk * 6 + 4, none⟩)) (Or.inl ⟨by rfl, by intro w hSw; clear hSw; go_simp⟩) hS1 ?_
        try simp only [Act.put, zq1, zq2, zq3]
        refine ztk 8 { dst := some 31, op := .fieldAddr 46 (.tmp 30) 1, type := 0, pos := "check.go:92", after := #[{ on := 7, ground := .data }, { on := 0, ground := .phase }, { on := 1, ground := .phase }, { on := 2, ground := .phase }, { on := 3, ground := .phase }, { on := 4, ground := .phase }, { on := 5, ground := .phase }, { on := 6, ground := .phase }], guard := none } (.pointer (some ⟨gc, pk * 6 + 4 + 1, none⟩)) (Or.inl ⟨by rfl, by intro w hSw; clear hSw; go_simp⟩) hS1 ?_
        try simp only [Act.put, zq1, zq2, zq3]
        refine wpAnyH_ready (rs := [9]) (by kernel_rfl) (by simp) ?_
        refine AllReadyH.cons (o := { dst := none, op := .store 32 (.tmp 31) (.tmp 29), type := 0, pos := "check.go:92", after := #[{ on := 8, ground := .data }, { on := 6, ground := .data }, { on := 0, ground := .phase }, { on := 1, ground := .phase }, { on := 2, ground := .phase }, { on := 3, ground := .phase }, { on := 4, ground := .phase }, { on := 5, ground := .phase }, { on := 6, ground := .phase }], guard := none }) rfl (fun K hK => ?_) AllReadyH.nil
        have fz : w7.frozen? ⟨gc, pk * 6 + 4 + 1, none⟩ = false := (RBX.out.bel (HE.out.trans HD6.out)).frozen _
        go_simp
        refine hK.out _ _ (hS1.set rfl _) (fun hS2 => ?_)
        clear hK K
        try simp only [Act.put, zq1, zq2, zq3]
        refine wpAnyH_done (by kernel_rfl) ?_ _
        clear fz cF hwr
        have BX6 := Lib.hid (HE.out.trans HD6.out)
        have hrb := (RBX.out.bel BX6.out).set c6C (o := 5) (by decide) HAT.out (r' := (s1, s2, s3, s4, s5, F - r6)) (v := .int .u64 (F - r6)) rfl
        rw [← HNW.out] at hrb
        have hlen : (lft cs ((pre ++ [(⟨(r1, r2, r3, r4, r5, r6), hr⟩ : Ps ps)]).map (fun e : Ps ps => e.1))).length = n := by unfold lft; rw [List.length_map, HLA.out]
        have hcl := hrb.rs c6C
        rw [hlen] at hcl
        have hI1 := HII.out.hi.bel BX6.out
        have KS := Kep.set_self (Kep.refl (fun b => b = gc) w7) (pk * 6 + 5) (.int .u64 (F - r6))
        have hcb : ∃ cur, Blk w7 gc cur 90 := by obtain ⟨cur, h1, _⟩ := (RBX.out.bel BX6.out).blk; exact ⟨cur, h1⟩
        obtain ⟨cur, hcb⟩ := hcb
        have hi2 : Hi p (some ⟨gc, 0, none⟩) n c2 B m d (cs.map key) ps (w7.setCell ⟨gc, pk * 6 + 5, none⟩ (.int .u64 (F - r6))) := ⟨hI1.blk.other (blk_ne hI1.blk hcb (by decide)) _ _, ⟨_, hcl, lft_key _ _⟩, hI1.po.put1 (fun h0 x hx => by have h2 := HBB.out h0 x hx; have h3 := HGC.out; omega)⟩
        exact ⟨((KeepsOthers.of_grownBy (Kk.Bel.grownBy BX6.out) (fun j o e => by cases e)).trans (KeepsOthers.setCell _ _ _)).from _, fun _ => hi2, hi2, (HII.out.bx.bel BX6.out).other (blk_ne (HII.out.bx.bel BX6.out) hcb (by decide)) _ _, (HII.out.le.bel BX6.out).other (blk_ne (HII.out.le.bel BX6.out) hcb (by decide)) _ _, fun _ => ⟨gc, rfl, HGC.out, hrb⟩, (HII.out.bel.trans BX6.out).set (by have := HGC.out; exact this) _, HNO.out⟩
    case done =>
      rintro D xs X hD hxs hI hK
      have HII := Lib.hid hI
      have HK := Lib.hid hK
      have hno := hI.no
      rw [hxs] at hno
      have HRR := Lib.hid (HRES.out.symm.trans (add_any hno).symm)
      have HLS := Lib.hid (show RS cC X A2 n c2 (lft cs ps) by
        by_cases h0 : 0 < n
        · obtain ⟨gc, e, _, h3⟩ := hI.rb h0
          rw [hxs] at h3
          subst e
          have := h3.rs c6C
          rwa [show (lft cs ps).length = n by unfold lft; rw [List.length_map, HLA.out]] at this
        · obtain rfl : n = 0 := by omega
          have hc0 : cs = [] := List.length_eq_zero_iff.1 HLA.out
          obtain ⟨l, h1, _⟩ := hI.hi.cl
          exact ⟨by rw [hc0]; rfl, Nat.zero_le _, h1.nil, fun h => absurd h (by omega)⟩)
      have CT := Lib.hid (containsC (fun r => decide (0 < shr r)) 137 #[] A2 n c2 (lft cs ps) X HLS.out (by omega) (enters_of Tryz.func137 (by kernel_rfl) rfl) (fun r V _ => by
        obtain ⟨a, b, c, d, e, f⟩ := r
        exact addUp1 a b c d e f V))
      obtain ⟨any, hany⟩ : ∃ y, (lft cs ps).any (fun r => decide (0 < shr r)) = y := ⟨_, rfl⟩
      rw [hany] at CT HRR
      obtain rfl := HRR.out
      have l0 := hI.le.cell 0 rfl
      clear hany hI hno hxs hK
      go_wp2_with fail
      refine CT.out.mono ?_
      rintro e X2 ⟨rfl, kb⟩
      have KB := Lib.hid kb
      have HK2 := Lib.hid (show X2.heap[D]? = some (.deferred (some [])) from (Below.block kb D (Array.getElem?_eq_some_iff.1 HK.out).1).trans HK.out)
      have BX2 := Lib.hid (HII.out.bx.bel kb)
      have b0 := BX2.out.cell 0 rfl
      have bf := BX2.out.frozen 0
      have HK3 := Lib.hid (show ∀ u, (X2.setCell ⟨g + 1, 0, none⟩ u).heap[D]? = some (.deferred (some [])) from fun u => (KeepsOthers.setCell X2 ⟨g + 1, 0, none⟩ u).same D _ HK2.out rfl)
      clear kb l0
      go_wp2_with fail
      refine ⟨by simp, .inl ⟨_, _, rfl, run_takeDeferred (HK3.out _), ?_⟩⟩
      have hB2 := blk_grown (BX2.out.set 0 (.bool (!any))) (grownBy_putObj' (X2.setCell ⟨g + 1, 0, none⟩ (.bool (!any))) D (.deferred none)) (fun r e => by cases e; exact ⟨_, HK3.out _, rfl⟩)
      have hc2 := hB2.cell 0 rfl
      exact ⟨.bool (!any), by simp [results, Tryz.results65, go_sem, hc2], rfl, Kk.Bel.grown ((HII.out.bel.trans KB.out).set (by have := HG.out; show w.heap.size ≤ g + 1; omega) _) (grownBy_putObj' _ D _) (fun k e => by cases e; have := HGW.out; omega)⟩
    case stop =>
      rintro D cd pre X hD hpre ⟨rfl, ⟨r, hr, hlt⟩, hblk, hbel⟩ hK
      obtain rfl : RR = false := HRES.out.symm.trans (add_no (fun x hx => (HWP.out x hx).1) hpre hr hlt)
      have HK2 := Lib.hid hK
      have HBK := Lib.hid hblk
      have HBL := Lib.hid hbel
      clear hpre hlt hblk hbel hK
      gi_wp2_with fail
      refine ⟨by simp, .inl ⟨_, _, rfl, run_takeDeferred HK2.out, ?_⟩⟩
      have hB2 := blk_grown HBK.out (grownBy_putObj' X D (.deferred none)) (fun r e => by cases e; exact ⟨_, HK2.out, rfl⟩)
      have hc2 := hB2.cell 0 rfl
      exact ⟨.bool false, by simp [results, Tryz.results65, go_sem, hc2], rfl, Kk.Bel.grown HBL.out (grownBy_putObj' _ D _) (fun k e => by cases e; have := HGW.out; omega)⟩
  refine wp_mono (Q := Exit.then Kq (fun _ _ _ => False)) ?_ (fun e a w h => by cases e <;> first | exact h | exact h.elim)
  refine wp_region_held_drew (S := fun Vx => Bel W0 Vx) (by kernel_rfl) (Bel.refl _).drew (fun hS0 => ?_)
  obtain ⟨w6, hw6⟩ : ∃ w6, World.drew W0 = w6 := ⟨_, rfl⟩
  rw [hw6] at hS0 ⊢
  clear hw6
  refine ztk 0 { dst := some 6, op := .fieldAddr 25 (.tmp 1) 0, type := 0, pos := "check.go:87", after := #[], guard := none } (.pointer (some ⟨g, 0, none⟩)) (Or.inl ⟨by rfl, by intro w hSw; clear hSw; go_simp⟩) hS0 ?_
  try simp only [Act.put, zq1, zq2, zq3]
  refine ztk 1 { dst := some 7, op := .load 22 (.tmp 6), type := 22, pos := "check.go:87", after := #[{ on := 0, ground := .data }], guard := none } (.slice A n c) (Or.inl ⟨by rfl, by intro w h; have hcell := ((PG.out.bel h).cell 0 rfl); clear h; go_simp⟩) hS0 ?_
  try simp only [Act.put, zq1, zq2, zq3]
  refine ztk 3 { dst := some 9, op := .fieldAddr 25 (.tmp 1) 1, type := 0, pos := "check.go:87", after := #[], guard := none } (.pointer (some ⟨g, 1, none⟩)) (Or.inl ⟨by rfl, by intro w hSw; clear hSw; go_simp⟩) hS0 ?_
  try simp only [Act.put, zq1, zq2, zq3]
  refine ztk 4 { dst := some 10, op := .load 23 (.tmp 9), type := 23, pos := "check.go:87", after := #[{ on := 3, ground := .data }], guard := none } (.slice B m d) (Or.inl ⟨by rfl, by intro w h; have hcell := ((PG.out.bel h).cell 1 rfl); clear h; go_simp⟩) hS0 ?_
  try simp only [Act.put, zq1, zq2, zq3]
  refine wpAnyH_ready (rs := [2, 6]) (by kernel_rfl) (by simp) ?_
  refine AllReadyH.cons (o := { dst := some 8, op := .call { callee := .value (.func 135), args := #[.tmp 7], argTypes := #[22] }, type := 22, pos := "check.go:87", after := #[{ on := 1, ground := .data }], guard := none }) rfl (fun K hK => ?_) (AllReadyH.cons (o := { dst := some 3, op := .alloc 25, type := 0, pos := "check.go:87", after := #[], guard := none }) rfl (fun K hK => ?_) AllReadyH.nil)
  · go_simp
    refine (cloneC A n c cs _ (HA.out.bel (BW0.out.trans hS0)) (by omega)).mono ?_
    rintro e v1 ⟨cv, rfl, co, kb⟩
    go_wp2_with fail
    refine hK.out _ _ (hS0.trans kb) (fun hS1 => ?_)
    clear hK K
    try simp only [Act.put, zq1, zq2, zq3]
    obtain ⟨A2, c2, hcv, crs, _, cge⟩ := OwnR.rs c6C co
    obtain rfl : cv = .slice A2 n c2 := by rw [hcv, HLA.out]
    clear hcv
    refine ztk 5 { dst := some 11, op := .build 25 #[(0, .tmp 8), (1, .tmp 10)], type := 25, pos := "check.go:87", after := #[{ on := 2, ground := .data }, { on := 4, ground := .data }], guard := none } (.agg #[.slice A2 n c2, .slice B m d]) (Or.inl ⟨by rfl, by intro w hSw; clear hSw; go_simp⟩) hS1 ?_
    try simp only [Act.put, zq1, zq2, zq3]
    refine wpAnyH_ready (rs := [6]) (by kernel_rfl) (by simp) ?_
    refine AllReadyH.cons (o := { dst := some 3, op := .alloc 25, type := 0, pos := "check.go:87", after := #[], guard := none }) rfl (fun K hK => ?_) AllReadyH.nil
    go_simp
    refine hK.out _ _ (hS1.alloc _) (fun hS2 => ?_)
    clear hK K
    try simp only [Act.put, zq1, zq2, zq3]
    have glb := Blk.new v1 #[.slice none 0 0, .slice none 0 0] 25
    have gll := Lib.hid (Below.size hS1)
    generalize hvq : World.alloc v1 (Obj.cells #[.slice none 0 0, .slice none 0 0] 25) = v2 at glb hS2 ⊢
    have glk : Bel v1 v2 := by rw [← hvq]; exact (Bel.refl _).alloc _
    clear hvq
    obtain ⟨gl, hgq⟩ : ∃ g, (World.heap v1).size = g := ⟨_, rfl⟩
    rw [hgq] at glb gll ⊢
    clear hgq
    have glb := Lib.hid glb
    refine wpAnyH_ready (rs := [7]) (by kernel_rfl) (by simp) ?_
    refine AllReadyH.cons (o := { dst := none, op := .store 25 (.tmp 3) (.tmp 11), type := 0, pos := "check.go:87", after := #[{ on := 6, ground := .data }, { on := 5, ground := .data }, { on := 2, ground := .chain }, { on := 0, ground := .phase }, { on := 1, ground := .phase }, { on := 2, ground := .phase }, { on := 3, ground := .phase }, { on := 4, ground := .phase }, { on := 5, ground := .phase }, { on := 6, ground := .phase }], guard := none }) rfl (fun K hK => ?_) AllReadyH.nil
    have QB : Blk v2 gl #[.slice none 0 0, .slice none 0 0] 25 := by first | exact glb.out | exact glb.out.bel kb
    have CO : OwnR cC 90 v2 W0.heap.size (.slice A2 n c2) cs := by first | exact Kk.owns_mono (OwnR.bel co glk) (Below.size hS0) | exact Kk.owns_mono co (Below.size hS1)
    have q0 := QB.cell 0 rfl
    have q1 := QB.cell 1 rfl
    have qf0 := QB.frozen 0
    have qf1 := QB.frozen 1
    go_simp
    refine hK.out _ _ ((hS2.set (p := ⟨gl, 0, none⟩) gll.out _).set (p := ⟨gl, 1, none⟩) gll.out _) (fun hS3 => ?_)
    clear hK K
    try simp only [Act.put, zq1, zq2, zq3]
    refine wpAnyH_done (by kernel_rfl) ?_ _
    have HE := Lib.hid hS3
    have NB : Blk ((v2.setCell ⟨gl, 0, none⟩ (.slice A2 n c2)).setCell ⟨gl, 1, none⟩ (.slice B m d)) gl #[.slice A2 n c2, .slice B m d] 25 := (QB.set 0 _).set 1 _
    have hne := Kk.Blk.not_row QB (show 25 ≠ 90 by decide) CO
    have NO : OwnR cC 90 ((v2.setCell ⟨gl, 0, none⟩ (.slice A2 n c2)).setCell ⟨gl, 1, none⟩ (.slice B m d)) W0.heap.size (.slice A2 n c2) cs := Kk.owns_set (Kk.owns_set CO hne 0 _) hne 1 _
    have HNB := Lib.hid NB
    have HNO := Lib.hid NO
    exact REST.out gl A2 c2 _ HNB.out HNO.out HE.out gll.out
  · go_simp
    refine hK.out _ _ (hS0.alloc _) (fun hS1 => ?_)
    clear hK K
    try simp only [Act.put, zq1, zq2, zq3]
    have glb := Blk.new w6 #[.slice none 0 0, .slice none 0 0] 25
    have gll := Lib.hid (Below.size hS0)
    generalize hvq : World.alloc w6 (Obj.cells #[.slice none 0 0, .slice none 0 0] 25) = v1 at glb hS1 ⊢
    have glk : Bel w6 v1 := by rw [← hvq]; exact (Bel.refl _).alloc _
    clear hvq
    obtain ⟨gl, hgq⟩ : ∃ g, (World.heap w6).size = g := ⟨_, rfl⟩
    rw [hgq] at glb gll ⊢
    clear hgq
    have glb := Lib.hid glb
    refine wpAnyH_ready (rs := [2]) (by kernel_rfl) (by simp) ?_
    refine AllReadyH.cons (o := { dst := some 8, op := .call { callee := .value (.func 135), args := #[.tmp 7], argTypes := #[22] }, type := 22, pos := "check.go:87", after := #[{ on := 1, ground := .data }], guard := none }) rfl (fun K hK => ?_) AllReadyH.nil
    go_simp
    refine (cloneC A n c cs _ (HA.out.bel (BW0.out.trans hS1)) (by omega)).mono ?_
    rintro e v2 ⟨cv, rfl, co, kb⟩
    go_wp2_with fail
    refine hK.out _ _ (hS1.trans kb) (fun hS2 => ?_)
    clear hK K
    try simp only [Act.put, zq1, zq2, zq3]
    obtain ⟨A2, c2, hcv, crs, _, cge⟩ := OwnR.rs c6C co
    obtain rfl : cv = .slice A2 n c2 := by rw [hcv, HLA.out]
    clear hcv
    refine ztk 5 { dst := some 11, op := .build 25 #[(0, .tmp 8), (1, .tmp 10)], type := 25, pos := "check.go:87", after := #[{ on := 2, ground := .data }, { on := 4, ground := .data }], guard := none } (.agg #[.slice A2 n c2, .slice B m d]) (Or.inl ⟨by rfl, by intro w hSw; clear hSw; go_simp⟩) hS2 ?_
    try simp only [Act.put, zq1, zq2, zq3]
    refine wpAnyH_ready (rs := [7]) (by kernel_rfl) (by simp) ?_
    refine AllReadyH.cons (o := { dst := none, op := .store 25 (.tmp 3) (.tmp 11), type := 0, pos := "check.go:87", after := #[{ on := 6, ground := .data }, { on := 5, ground := .data }, { on := 2, ground := .chain }, { on := 0, ground := .phase }, { on := 1, ground := .phase }, { on := 2, ground := .phase }, { on := 3, ground := .phase }, { on := 4, ground := .phase }, { on := 5, ground := .phase }, { on := 6, ground := .phase }], guard := none }) rfl (fun K hK => ?_) AllReadyH.nil
    have QB : Blk v2 gl #[.slice none 0 0, .slice none 0 0] 25 := by first | exact glb.out | exact glb.out.bel kb
    have CO : OwnR cC 90 v2 W0.heap.size (.slice A2 n c2) cs := by first | exact Kk.owns_mono (OwnR.bel co glk) (Below.size hS0) | exact Kk.owns_mono co (Below.size hS1)
    have q0 := QB.cell 0 rfl
    have q1 := QB.cell 1 rfl
    have qf0 := QB.frozen 0
    have qf1 := QB.frozen 1
    go_simp
    refine hK.out _ _ ((hS2.set (p := ⟨gl, 0, none⟩) gll.out _).set (p := ⟨gl, 1, none⟩) gll.out _) (fun hS3 => ?_)
    clear hK K
    try simp only [Act.put, zq1, zq2, zq3]
    refine wpAnyH_done (by kernel_rfl) ?_ _
    have HE := Lib.hid hS3
    have NB : Blk ((v2.setCell ⟨gl, 0, none⟩ (.slice A2 n c2)).setCell ⟨gl, 1, none⟩ (.slice B m d)) gl #[.slice A2 n c2, .slice B m d] 25 := (QB.set 0 _).set 1 _
    have hne := Kk.Blk.not_row QB (show 25 ≠ 90 by decide) CO
    have NO : OwnR cC 90 ((v2.setCell ⟨gl, 0, none⟩ (.slice A2 n c2)).setCell ⟨gl, 1, none⟩ (.slice B m d)) W0.heap.size (.slice A2 n c2) cs := Kk.owns_set (Kk.owns_set CO hne 0 _) hne 1 _
    have HNB := Lib.hid NB
    have HNO := Lib.hid NO
    exact REST.out gl A2 c2 _ HNB.out HNO.out HE.out gll.out
end Ho
end Go.Proofs.YtneajcoiemkfbaaGreat
end

section
/-
  What holding.Check answers. Conditions: at most a million rows; amounts are words.
-/
namespace Go.Proofs.YtneajcoiemkfbaaGreat
open Go.RowKit Go.Shelf
set_option linter.unusedVariables false
set_option linter.unusedSimpArgs false
namespace Ho
open Kk Pm

theorem chk_ways (cs ps : List R6) : (1024 < cs.length → chkH cs ps = 4) ∧ (¬ 1024 < cs.length → seqE clE none cs ≠ 0 → chkH cs ps = seqE clE none cs) ∧ (¬ 1024 < cs.length → seqE clE none cs = 0 → 4611686018427387904 < sumT cs → chkH cs ps = 12) ∧
    (¬ 1024 < cs.length → seqE clE none cs = 0 → ¬ 4611686018427387904 < sumT cs → seqE (poE cs) none ps ≠ 0 → chkH cs ps = seqE (poE cs) none ps) ∧
    (¬ 1024 < cs.length → seqE clE none cs = 0 → ¬ 4611686018427387904 < sumT cs → seqE (poE cs) none ps = 0 → addB cs ps = false → chkH cs ps = 11) ∧
    (¬ 1024 < cs.length → seqE clE none cs = 0 → ¬ 4611686018427387904 < sumT cs → seqE (poE cs) none ps = 0 → addB cs ps = true → chkH cs ps = 0) := by
  unfold chkH
  refine ⟨fun h => ?_, fun h1 h2 => ?_, fun h1 h2 h3 => ?_, fun h1 h2 h3 h4 => ?_, fun h1 h2 h3 h4 h5 => ?_, fun h1 h2 h3 h4 h5 => ?_⟩
  · rw [if_pos h, fE_no (by decide)]
  · rw [if_neg h1, fE_go, fE_no h2]
  · rw [if_neg h1, h2, if_pos h3, fE_go, fE_go, fE_no (by decide)]
  · rw [if_neg h1, h2, if_neg h3, fE_go, fE_go, fE_go, fE_no h4]
  · rw [if_neg h1, h2, if_neg h3, h4, h5, fE_go, fE_go, fE_go, fE_go]; rfl
  · rw [if_neg h1, h2, if_neg h3, h4, h5, fE_go, fE_go, fE_go, fE_go]; rfl
theorem slice_hC (B : Option Addr) (m d k : Nat) (w : World) (h : k ≤ d) : (Instr.slice 22 (.slice B m d) none (some (.int .i64 k)) none).run Tryz.prog w = .ok (.slice B k d) w := by
  have e : Tryz.prog.elem 22 = 90 := by kernel_rfl
  rw [run_slice_h (P := Tryz.prog) (w := w) (t := 22) (a := B) (len := m) (cap := d) (by rw [e]; exact Tryz.underlying22) .i64 k (by omega) (by omega), e]
  cases B <;> simp [Tryz.sizeOf90, Result.andThen, sliced, Addr.add]
/-- Positions whose shares are words. -/
def Wp (ps : List R6) : Prop := ∀ p ∈ ps, 0 ≤ shr p ∧ shr p ≤ 18446744073709551615
set_option maxRecDepth 100000 in
set_option maxHeartbeats 4000000 in
theorem check (A : Option Addr) (n c : Nat) (B : Option Addr) (m d : Nat) (cs ps : List R6) (w : World) (ha : RS cC w A n c cs) (hb : RS cP w B m d ps) (hn : n ≤ 1000000) (hm : m ≤ 1000000) (hwc : ∀ r ∈ cs, Wd r) (hwp : Wp ps) :
    Calls Tryz.prog 14 #[.agg #[.slice A n c, .slice B m d]] w fun e w' => e = .returned (.int .i64 (chkH cs ps)) ∧ Bel w w' := by
  have HA := Lib.hid ha
  have HB := Lib.hid hb
  have HWC := Lib.hid hwc
  have HWP := Lib.hid hwp
  have HLA := Lib.hid ha.len
  have HCW := Lib.hid (chk_ways cs ps)
  obtain ⟨RR, hRR⟩ : ∃ R, chkH cs ps = R := ⟨_, rfl⟩
  rw [hRR] at HCW
  rw [hRR]
  obtain ⟨W, hW⟩ : ∃ W, w.alloc (.cells #[.slice A n c, .slice B m d] 25) = W := ⟨_, rfl⟩
  have BW := Lib.hid (show Bel w W by rw [← hW]; exact (Bel.refl w).alloc _)
  have PG := Lib.hid (show Blk W w.heap.size #[.slice A n c, .slice B m d] 25 by rw [← hW]; exact Blk.new _ _ _)
  clear ha hb hwc hwp hRR
  go_enter Tryz.func14, Tryz.ntmps14
  go_upto_region 1 with fail
  obtain ⟨g, hg⟩ : ∃ g, w.heap.size = g := ⟨_, rfl⟩
  rw [hg] at PG ⊢
  clear hg hW
  have g0 := PG.out.cell 0 rfl
  by_cases hlong : 1024 < n
  · obtain rfl : RR = 4 := HCW.out.1 (by rw [HLA.out]; exact hlong)
    have hlong3 : (1024 : Int) < n := by omega
    go_wp2_with fail
    go_ret
    exact ⟨rfl, BW.out⟩
  have HCW := Lib.hid (show _ from HCW.out.2)
  have hno : ¬ 1024 < cs.length := by rw [HLA.out]; exact hlong
  have hlong3 : ¬ (1024 : Int) < n := by omega
  have hlong4 : decide ((1024 : Int) < n) = false := decide_eq_false hlong3
  have HNL := Lib.hid hno
  clear hno hlong
  go_wp2_with fail
  go_loopw [14] (fun s14 wr => ∃ k : Nat, s14 = .int .i64 k ∧ k ≤ n ∧ Hid (∀ (j : Nat) (x : R6), j < k → cs[j]? = some x → clE (bef none cs j) x = 0) ∧ Hid (Bel W wr)) (fun s14 _ => n - (intOf s14).toNat)
  case atStart => exact ⟨0, rfl, Nat.zero_le _, Lib.hid (fun j x hj => absurd hj (by omega)), Lib.hid (Bel.refl _)⟩
  case round =>
    obtain ⟨k, rfl, hk, hz, hh⟩ := hrel
    by_cases hlt : k < n
    · obtain ⟨⟨r1, r2, r3, r4, r5, r6⟩, hr⟩ := HA.out.get hlt
      obtain ⟨b, o, rfl, hb, hrow⟩ := (HA.out.bel (BW.out.trans hh.out)).at hlt hr
      have HR := Lib.hid hr
      have hkc : k ≤ c := by have := HA.out.cap; omega
      have CK := Lib.hid (fun V (hv : Bel wr V) => checkClass (some ⟨b, o, none⟩) k c (cs.take k) r1 r2 r3 r4 r5 r6 (bef none cs k) V ((HA.out.bel (BW.out.trans (hh.out.trans hv))).part (by omega)) (by omega) (bef_take cs k (by rw [HLA.out]; omega)) (HWC.out _ (List.mem_of_getElem? hr)))
      obtain ⟨E, hE⟩ : ∃ E, clE (bef none cs k) (r1, r2, r3, r4, r5, r6) = E := ⟨_, rfl⟩
      rw [hE] at CK
      have HE := Lib.hid hE
      have hlt3 : (k : Int) < n := by omega
      obtain ⟨c0, c1, c2, c3, c4, c5⟩ := rng6 (rowC hrow)
      have g0 := (PG.out.bel hh.out).cell 0 rfl
      have hsl := fun V => slice_hC (some ⟨b, o, none⟩) n c k V hkc
      clear hr hrow hE
      go_upto_region 6 with fail
      obtain ⟨V, hV⟩ : ∃ V, wr.alloc (.cells #[.int .i64 r1, .int .i64 r2, .int .i64 r3, .int .i64 r4, .int .u64 r5, .int .u64 r6] 90) = V := ⟨_, rfl⟩
      have BV := Lib.hid (show Bel wr V by rw [← hV]; exact (Bel.refl _).alloc _)
      have P0 := Lib.hid (show Blk V wr.heap.size #[.int .i64 r1, .int .i64 r2, .int .i64 r3, .int .i64 r4, .int .u64 r5, .int .u64 r6] 90 by rw [← hV]; exact Blk.new _ _ _)
      rw [hV]
      obtain ⟨q, hq⟩ : ∃ q, wr.heap.size = q := ⟨_, rfl⟩
      rw [hq] at P0 ⊢
      clear hV hq
      refine wp_region_held_drew (S := fun Vx => Bel V Vx) (by kernel_rfl) (Bel.refl _).drew (fun hS0 => ?_)
      obtain ⟨w6, hw6⟩ : ∃ w6, World.drew V = w6 := ⟨_, rfl⟩
      rw [hw6] at hS0 ⊢
      clear hw6
      refine ztk 0 { dst := some 19, op := .fieldAddr 25 (.tmp 1) 0, type := 0, pos := "check.go:21", after := #[], guard := none } (.pointer (some ⟨g, 0, none⟩)) (Or.inl ⟨by rfl, by intro w hSw; clear hSw; go_simp⟩) hS0 ?_
      try simp only [Act.put, zq1, zq2, zq3]
      refine ztk 1 { dst := some 20, op := .load 22 (.tmp 19), type := 22, pos := "check.go:21", after := #[{ on := 0, ground := .data }], guard := none } (.slice (some ⟨b, o, none⟩) n c) (Or.inl ⟨by rfl, by intro w h; have hcell := (((PG.out.bel (hh.out.trans BV.out)).bel h).cell 0 rfl); clear h; go_simp⟩) hS0 ?_
      try simp only [Act.put, zq1, zq2, zq3]
      refine ztk 2 { dst := some 21, op := .move (.tmp 3), type := 3, pos := "check.go:21", after := #[], guard := none } (.int .i64 k) (Or.inl ⟨by rfl, by intro w hSw; clear hSw; go_simp⟩) hS0 ?_
      try simp only [Act.put, zq1, zq2, zq3]
      refine ztk 3 { dst := some 22, op := .slice 22 (.tmp 20) none (some (.tmp 21)) none, type := 22, pos := "check.go:21", after := #[{ on := 1, ground := .data }, { on := 2, ground := .data }], guard := none } (.slice (some ⟨b, o, none⟩) k c) (Or.inl ⟨by rfl, by intro w hSw; clear hSw; go_simp⟩) hS0 ?_
      try simp only [Act.put, zq1, zq2, zq3]
      refine ztk 4 { dst := some 23, op := .load 90 (.tmp 4), type := 90, pos := "check.go:21", after := #[], guard := none } (.agg #[.int .i64 r1, .int .i64 r2, .int .i64 r3, .int .i64 r4, .int .u64 r5, .int .u64 r6]) (yieldsIf_load_mid (by rfl) _ _ rfl _ _ rfl _ _ (fun w h => rng_bel (rngB (C := [.int .i64 r1, .int .i64 r2, .int .i64 r3, .int .i64 r4, .int .u64 r5, .int .u64 r6]) P0.out) h) Tryz.underlying90 rfl info_c) hS0 ?_
      try simp only [Act.put, zq1, zq2, zq3]
      refine wpAnyH_ready (rs := [5]) (by kernel_rfl) (by simp) ?_
      refine AllReadyH.cons (o := { dst := some 24, op := .call { callee := .value (.func 62), args := #[.tmp 22, .tmp 23], argTypes := #[22, 90] }, type := 30, pos := "check.go:21", after := #[{ on := 3, ground := .data }, { on := 4, ground := .data }], guard := none }) rfl (fun K hK => ?_) AllReadyH.nil
      go_simp
      refine (CK.out _ (BV.out.trans hS0)).mono ?_
      rintro e v1 ⟨rfl, kb⟩
      go_wp2_with fail
      refine hK.out _ _ (hS0.trans kb) (fun hS1 => ?_)
      clear hK K
      try simp only [Act.put, zq1, zq2, zq3]
      refine ztk 6 { dst := some 5, op := .assign (.tmp 24), type := 30, pos := "check.go:21", after := #[{ on := 5, ground := .data }, { on := 5, ground := .chain }, { on := 0, ground := .phase }, { on := 1, ground := .phase }, { on := 2, ground := .phase }, { on := 3, ground := .phase }, { on := 4, ground := .phase }, { on := 5, ground := .phase }], guard := none } (.int .i64 E) (Or.inl ⟨by rfl, by intro w hSw; clear hSw; go_simp⟩) hS1 ?_
      try simp only [Act.put, zq1, zq2, zq3]
      refine wpAnyH_done (by kernel_rfl) ?_ _
      have HBB := Lib.hid (hh.out.trans (BV.out.trans hS1))
      clear c0 c1 c2 c3 c4 c5 g0 hsl CK
      by_cases hE0 : E = 0
      · subst hE0
        go_wp2_with fail
        go_roundw
        case rel =>
          refine ⟨k + 1, by go_num, by omega, Lib.hid (fun j x hj hx => ?_), HBB⟩
          rcases Nat.lt_or_ge j k with h' | h'
          · exact hz.out j x h' hx
          · obtain rfl : j = k := by omega
            have := HR.out.symm.trans hx
            injection this with this
            rw [← this]; exact HE.out
        case measure => simp [intOf]; omega
      · have hs := seqE_at clE cs none k _ hz.out HR.out (by rw [HE.out]; exact hE0)
        rw [HE.out] at hs
        obtain rfl : RR = E := (HCW.out.1 HNL.out (by rw [hs]; exact hE0)).trans hs
        have hne : (RR != 0) = true := by rw [bne_iff_ne]; exact hE0
        clear hs hE0
        go_wp2_with fail
        go_ret
        exact ⟨rfl, BW.out.trans HBB.out⟩
    · obtain rfl : k = n := by omega
      have hc0 : seqE clE none cs = 0 := seqE_end clE cs none (fun j x hx => hz.out j x (by have := (List.getElem?_eq_some_iff.1 hx).1; have := HLA.out; omega) hx)
      have HSC := Lib.hid (seqE_srt odC (fun p r h => (clE_ok h).2.1) cs none hc0).1
      have HC2 := Lib.hid (⟨HCW.out.2.1 HNL.out hc0, HCW.out.2.2.1 HNL.out hc0, HCW.out.2.2.2.1 HNL.out hc0, HCW.out.2.2.2.2 HNL.out hc0⟩ : _ ∧ _ ∧ _ ∧ _)
      have TM := Lib.hid (fun V (hv : Bel W V) => tooMuch A k c cs V (HA.out.bel (BW.out.trans hv)) (by omega) HWC.out)
      have CP := Lib.hid (fun V (hv : Bel W V) => checkPositions A k c B m d cs ps V (HA.out.bel (BW.out.trans hv)) (HB.out.bel (BW.out.trans hv)) HSC.out (by omega) hm)
      obtain ⟨tm, htm⟩ : ∃ b, decide (4611686018427387904 < sumT cs) = b := ⟨_, rfl⟩
      have HTM := Lib.hid htm
      rw [htm] at TM
      clear hc0 htm
      have g0 := (PG.out.bel hh.out).cell 0 rfl
      go_wp2_with fail
      refine (TM.out _ hh.out).mono ?_
      rintro e w1 ⟨rfl, kb⟩
      have K1 := Lib.hid (hh.out.trans kb)
      clear kb g0 TM
      cases tm
      · have hnt := of_decide_eq_false HTM.out
        have HC3 := Lib.hid (⟨HC2.out.2.1 (by first | exact hnt | omega), HC2.out.2.2.1 (by first | exact hnt | omega), HC2.out.2.2.2 (by first | exact hnt | omega)⟩ : _ ∧ _ ∧ _)
        clear hnt HC2 HTM
        obtain ⟨E, hE⟩ : ∃ E, seqE (poE cs) none ps = E := ⟨_, rfl⟩
        have HE := Lib.hid hE
        rw [hE] at CP HC3
        clear hE
        have g0 := (PG.out.bel K1.out).cell 0 rfl
        have g1 := (PG.out.bel K1.out).cell 1 rfl
        go_wp2_with fail
        refine (CP.out _ K1.out).mono ?_
        rintro e w2 ⟨rfl, kb⟩
        have K2 := Lib.hid (K1.out.trans kb)
        clear kb g0 g1 CP
        by_cases hE0 : E = 0
        · subst hE0
          have HPO := Lib.hid (show ∀ p ∈ ps, inB ordC cs (stp p) = true from fun p hp => by
            obtain ⟨q, hq⟩ := seqE_mem HE.out p hp
            have := (poE_ok hq).2.2.2.2
            cases hi : inB ordC cs (stp p)
            · exact absurd ((in_none cs (stp p)).2 hi) this
            · rfl)
          have AU := Lib.hid (fun V (hv : Bel W V) => addUp A k c B m d cs ps V (HA.out.bel (BW.out.trans hv)) (HB.out.bel (BW.out.trans hv)) HSC.out (by omega) hm HPO.out HWP.out HWC.out)
          obtain ⟨au, hau⟩ : ∃ b, addB cs ps = b := ⟨_, rfl⟩
          rw [hau] at AU HC3
          clear hau
          have g0 := (PG.out.bel K2.out).cell 0 rfl
          have g1 := (PG.out.bel K2.out).cell 1 rfl
          go_wp2_with fail
          refine (AU.out _ K2.out).mono ?_
          rintro e w3 ⟨rfl, kb⟩
          have K3 := Lib.hid (K2.out.trans kb)
          clear kb g0 g1 AU
          cases au
          · obtain rfl : RR = 11 := HC3.out.2.1 (by first | rfl | trivial) (by first | rfl | trivial)
            go_wp2_with fail
            go_ret
            exact ⟨rfl, BW.out.trans K3.out⟩
          · obtain rfl : RR = 0 := HC3.out.2.2 (by first | rfl | trivial) (by first | rfl | trivial)
            go_wp2_with fail
            go_ret
            exact ⟨rfl, BW.out.trans K3.out⟩
        · obtain rfl : RR = E := HC3.out.1 hE0
          have hne : (RR != 0) = true := by rw [bne_iff_ne]; exact hE0
          clear hE0
          go_wp2_with fail
          go_ret
          exact ⟨rfl, BW.out.trans K2.out⟩
      · obtain rfl : RR = 12 := HC2.out.1 (of_decide_eq_true HTM.out)
        go_wp2_with fail
        go_ret
        exact ⟨rfl, BW.out.trans K1.out⟩
end Ho
end Go.Proofs.YtneajcoiemkfbaaGreat
end

section
/-
  What holding.All, Tokens, Of, Exposed and Value answer. Conditions: at most a million rows; amounts are words.
-/
namespace Go.Proofs.YtneajcoiemkfbaaGreat
open Go.RowKit Go.Shelf
set_option linter.unusedVariables false
set_option linter.unusedSimpArgs false
namespace Ho
open Kk Pm

theorem wd_filter {cs : List R6} (h : ∀ r ∈ cs, Wd r) (q : R6 → Bool) : ∀ r ∈ cs.filter q, Wd r := fun r hr => h r (List.mem_filter.1 hr).1
theorem sumT_filter {cs : List R6} (h : ∀ r ∈ cs, Wd r) (q : R6 → Bool) : sumT (cs.filter q) ≤ sumT cs := by
  induction cs with
  | nil => exact Int.le_refl _
  | cons r l ih =>
    have h1 := ih fun x hx => h x (List.mem_cons_of_mem _ hx)
    have h2 := (h r List.mem_cons_self).1
    have e2 : sumT (r :: l) = tok r + sumT l := by simp [sumT]
    rw [e2, List.filter_cons]
    split
    · have e1 : sumT (r :: l.filter q) = tok r + sumT (l.filter q) := by simp [sumT]
      omega
    · omega
theorem OwnR.mono {k : R6 → List Value} {t : TypeId} {w : World} {b b' : Nat} {v : Value} {l : List R6} (h : OwnR k t w b v l) (hb : b' ≤ b) : OwnR k t w b' v l := World.ownsRow.mono h hb
/-- A holding that is read: its rows lie in w, and are no more than a million words. -/
structure HH (w : World) (A : Option Addr) (n c : Nat) (B : Option Addr) (m d : Nat) (cs ps : List R6) : Prop where
  cls : RS cC w A n c cs
  pos : RS cP w B m d ps
  cn : n ≤ 1000000
  pm : m ≤ 1000000
  wc : ∀ r ∈ cs, Wd r
  wp : Wp ps
theorem HH.bel {w w' : World} {A : Option Addr} {n c : Nat} {B : Option Addr} {m d : Nat} {cs ps : List R6} (h : HH w A n c B m d cs ps) (hb : Bel w w') : HH w' A n c B m d cs ps := ⟨h.cls.bel hb, h.pos.bel hb, h.cn, h.pm, h.wc, h.wp⟩
theorem HH.chk {w : World} {A : Option Addr} {n c : Nat} {B : Option Addr} {m d : Nat} {cs ps : List R6} (h : HH w A n c B m d cs ps) :
    Calls Tryz.prog 14 #[.agg #[.slice A n c, .slice B m d]] w fun e w' => e = .returned (.int .i64 (chkH cs ps)) ∧ Bel w w' := check A n c B m d cs ps w h.cls h.pos h.cn h.pm h.wc h.wp
theorem isHeight (x : Int) (w : World) : Calls Tryz.prog 86 #[.int .i64 x] w fun e w' => e = .returned (.bool (decide (1 ≤ x ∧ x ≤ 4294967296))) ∧ w = w' := by
  go_enter Tryz.func86, Tryz.ntmps86
  by_cases h : 1 ≤ x
  · by_cases h2 : x ≤ 4294967296
    · have hd : decide (1 ≤ x ∧ x ≤ 4294967296) = true := decide_eq_true ⟨h, by omega⟩
      rw [hd]
      go_wp2
      go_ret
      exact ⟨rfl, rfl⟩
    · have hd : decide (1 ≤ x ∧ x ≤ 4294967296) = false := decide_eq_false (by omega)
      rw [hd]
      go_wp2
      go_ret
      exact ⟨rfl, rfl⟩
  · have hd : decide (1 ≤ x ∧ x ≤ 4294967296) = false := decide_eq_false (by omega)
    rw [hd]
    go_wp2
    go_ret
    exact ⟨rfl, rfl⟩
theorem isValidator (x : Int) (w : World) : Calls Tryz.prog 173 #[.int .i64 x] w fun e w' => e = .returned (.bool (decide (0 ≤ x ∧ x ≤ 31))) ∧ w = w' := by
  go_enter Tryz.func173, Tryz.ntmps173
  by_cases h : 0 ≤ x
  · by_cases h2 : x < 32
    · have hd : decide (0 ≤ x ∧ x ≤ 31) = true := decide_eq_true ⟨h, by omega⟩
      rw [hd]
      go_wp2
      go_ret
      exact ⟨rfl, rfl⟩
    · have hd : decide (0 ≤ x ∧ x ≤ 31) = false := decide_eq_false (by omega)
      rw [hd]
      go_wp2
      go_ret
      exact ⟨rfl, rfl⟩
  · have hd : decide (0 ≤ x ∧ x ≤ 31) = false := decide_eq_false (by omega)
    rw [hd]
    go_wp2
    go_ret
    exact ⟨rfl, rfl⟩
set_option maxRecDepth 100000 in
set_option maxHeartbeats 4000000 in
theorem backed_ (x1 x2 x3 x4 x5 x6 v h : Int) (w : World) : Calls Tryz.prog 88 #[.agg #[.int .i64 x1, .int .i64 x2, .int .i64 x3, .int .i64 x4, .int .u64 x5, .int .u64 x6], .int .i64 v, .int .i64 h] w fun e w' => e = .returned (.bool (bkR v h (x1, x2, x3, x4, x5, x6))) ∧ Bel w w' := by
  have B0 := Lib.hid ((Bel.refl w).alloc (.cells #[.int .i64 x1, .int .i64 x2, .int .i64 x3, .int .i64 x4, .int .u64 x5, .int .u64 x6] 90))
  have BK := Lib.hid (fun V => Sm.backed x1 x2 x3 x4 v h 0 V)
  go_enter Tryz.func88, Tryz.ntmps88
  go_wp2_with fail
  refine (BK.out _).mono ?_
  rintro e w1 ⟨rfl, kb⟩
  go_wp2_with fail
  go_ret
  exact ⟨rfl, B0.out.trans kb⟩
set_option maxRecDepth 100000 in
set_option maxHeartbeats 4000000 in
theorem exposed1 (x1 x2 x3 x4 x5 x6 : Int) (p q : Nat) (v h : Int) (w : World) (cp : w.cell? ⟨p, 0, none⟩ = some (.int .i64 v)) (cq : w.cell? ⟨q, 0, none⟩ = some (.int .i64 h)) :
    Calls Tryz.prog 87 #[.agg #[.int .i64 x1, .int .i64 x2, .int .i64 x3, .int .i64 x4, .int .u64 x5, .int .u64 x6], .pointer (some ⟨p, 0, none⟩), .pointer (some ⟨q, 0, none⟩)] w fun e w' => e = .returned (.bool (bkR v h (x1, x2, x3, x4, x5, x6))) ∧ Bel w w' := by
  have B0 := Lib.hid ((Bel.refl w).alloc (.cells #[.int .i64 x1, .int .i64 x2, .int .i64 x3, .int .i64 x4, .int .u64 x5, .int .u64 x6] 90))
  have BK := Lib.hid (fun V => backed_ x1 x2 x3 x4 x5 x6 v h V)
  obtain ⟨W, hW⟩ : ∃ W, w.alloc (.cells #[.int .i64 x1, .int .i64 x2, .int .i64 x3, .int .i64 x4, .int .u64 x5, .int .u64 x6] 90) = W := ⟨_, rfl⟩
  rw [hW] at B0
  have cp := cell_bel cp B0.out
  have cq := cell_bel cq B0.out
  have P0 : Blk W w.heap.size #[.int .i64 x1, .int .i64 x2, .int .i64 x3, .int .i64 x4, .int .u64 x5, .int .u64 x6] 90 := by rw [← hW]; exact Blk.new _ _ _
  obtain ⟨d0, d1, d2, d3, d4, d5⟩ := rng6 (rngB (C := [.int .i64 x1, .int .i64 x2, .int .i64 x3, .int .i64 x4, .int .u64 x5, .int .u64 x6]) P0)
  rw [Nat.zero_add] at d1 d2 d3 d4 d5
  clear P0
  go_enter Tryz.func87, Tryz.ntmps87
  go_upto_region 1 with fail
  try rw [hW]
  obtain ⟨g, hg⟩ : ∃ g, w.heap.size = g := ⟨_, rfl⟩
  rw [hg] at d0 d1 d2 d3 d4 d5 ⊢
  clear hg hW
  go_wp2_with fail
  refine (BK.out _).mono ?_
  rintro e w1 ⟨rfl, kb⟩
  go_wp2_with fail
  go_ret
  exact ⟨rfl, B0.out.trans kb⟩
set_option maxRecDepth 100000 in
set_option maxHeartbeats 4000000 in
theorem tokens1 (x1 x2 x3 x4 x5 x6 : Int) (p : Nat) (v : Int) (w : World) (cp : w.cell? ⟨p, 0, none⟩ = some (.int .i64 v)) :
    Calls Tryz.prog 82 #[.agg #[.int .i64 x1, .int .i64 x2, .int .i64 x3, .int .i64 x4, .int .u64 x5, .int .u64 x6], .pointer (some ⟨p, 0, none⟩)] w fun e w' => e = .returned (.bool (decide (x1 = v))) ∧ Bel w w' := by
  have B0 := Lib.hid ((Bel.refl w).alloc (.cells #[.int .i64 x1, .int .i64 x2, .int .i64 x3, .int .i64 x4, .int .u64 x5, .int .u64 x6] 90))
  obtain ⟨W, hW⟩ : ∃ W, w.alloc (.cells #[.int .i64 x1, .int .i64 x2, .int .i64 x3, .int .i64 x4, .int .u64 x5, .int .u64 x6] 90) = W := ⟨_, rfl⟩
  rw [hW] at B0
  have cp := cell_bel cp B0.out
  have P0 : Blk W w.heap.size #[.int .i64 x1, .int .i64 x2, .int .i64 x3, .int .i64 x4, .int .u64 x5, .int .u64 x6] 90 := by rw [← hW]; exact Blk.new _ _ _
  have d0 := P0.cell 0 rfl
  clear P0
  have hv : (x1 == v) = decide (x1 = v) := by rw [Bool.eq_iff_iff, beq_iff_eq, decide_eq_true_iff]
  go_enter Tryz.func82, Tryz.ntmps82
  go_upto_region 1 with fail
  try rw [hW]
  obtain ⟨g, hg⟩ : ∃ g, w.heap.size = g := ⟨_, rfl⟩
  rw [hg] at d0 ⊢
  clear hg hW
  go_wp2_with fail
  go_ret
  exact ⟨rfl, B0.out⟩
set_option maxRecDepth 100000 in
set_option maxHeartbeats 4000000 in
theorem of1 (x1 x2 x3 x4 x5 x6 : Int) (p : Nat) (v : Int) (w : World) (cp : w.cell? ⟨p, 0, none⟩ = some (.int .i64 v)) :
    Calls Tryz.prog 85 #[.agg #[.int .i64 x1, .int .i64 x2, .int .i64 x3, .int .i64 x4, .int .i64 x5, .int .u64 x6], .pointer (some ⟨p, 0, none⟩)] w fun e w' => e = .returned (.bool (decide (x1 = v))) ∧ Bel w w' := by
  have B0 := Lib.hid ((Bel.refl w).alloc (.cells #[.int .i64 x1, .int .i64 x2, .int .i64 x3, .int .i64 x4, .int .i64 x5, .int .u64 x6] 93))
  obtain ⟨W, hW⟩ : ∃ W, w.alloc (.cells #[.int .i64 x1, .int .i64 x2, .int .i64 x3, .int .i64 x4, .int .i64 x5, .int .u64 x6] 93) = W := ⟨_, rfl⟩
  rw [hW] at B0
  have cp := cell_bel cp B0.out
  have P0 : Blk W w.heap.size #[.int .i64 x1, .int .i64 x2, .int .i64 x3, .int .i64 x4, .int .i64 x5, .int .u64 x6] 93 := by rw [← hW]; exact Blk.new _ _ _
  have d0 := P0.cell 0 rfl
  clear P0
  have hv : (x1 == v) = decide (x1 = v) := by rw [Bool.eq_iff_iff, beq_iff_eq, decide_eq_true_iff]
  go_enter Tryz.func85, Tryz.ntmps85
  go_upto_region 1 with fail
  try rw [hW]
  obtain ⟨g, hg⟩ : ∃ g, w.heap.size = g := ⟨_, rfl⟩
  rw [hg] at d0 ⊢
  clear hg hW
  go_wp2_with fail
  go_ret
  exact ⟨rfl, B0.out⟩
set_option maxRecDepth 100000 in
set_option maxHeartbeats 4000000 in
theorem all_ (A : Option Addr) (n c : Nat) (B : Option Addr) (m d : Nat) (cs ps : List R6) (w : World) (hh : HH w A n c B m d cs ps) :
    Calls Tryz.prog 30 #[.agg #[.slice A n c, .slice B m d]] w fun e w' => e = .returned (.tuple #[.int .u64 (if chkH cs ps = 0 then sumT cs else 0), .int .i64 (chkH cs ps)]) ∧ Bel w w' := by
  have HB := Lib.hid hh
  obtain ⟨W, hW⟩ : ∃ W, w.alloc (.cells #[.slice A n c, .slice B m d] 25) = W := ⟨_, rfl⟩
  have BW := Lib.hid (show Bel w W by rw [← hW]; exact (Bel.refl w).alloc _)
  have PG := Lib.hid (show Blk W w.heap.size #[.slice A n c, .slice B m d] 25 by rw [← hW]; exact Blk.new _ _ _)
  have CK := Lib.hid (hh.bel BW.out).chk
  have TK := Lib.hid (fun (h0 : chkH cs ps = 0) V (hV : Bel w V) => tokensOf A n c cs V (hh.cls.bel hV) (by have := hh.cn; omega) hh.wc (by have := ((ok_iff cs ps).1 h0).tot; omega))
  obtain ⟨R, hR⟩ : ∃ R, chkH cs ps = R := ⟨_, rfl⟩
  rw [hR] at CK TK ⊢
  have g0 := PG.out.cell 0 rfl
  have g1 := PG.out.cell 1 rfl
  clear hh hR
  go_enter Tryz.func30, Tryz.ntmps30
  go_upto_region 1 with fail
  try rw [hW]
  obtain ⟨g, hg⟩ : ∃ g, w.heap.size = g := ⟨_, rfl⟩
  rw [hg] at PG g0 g1 ⊢
  have HG := Lib.hid (show w.heap.size ≤ W.heap.size from BW.out.size)
  clear hg hW
  go_wp2_with fail
  refine CK.out.mono ?_
  rintro e V ⟨rfl, kb⟩
  have KB := Lib.hid kb
  have g0 := (PG.out.bel kb).cell 0 rfl
  have g1 := (PG.out.bel kb).cell 1 rfl
  clear kb CK
  by_cases hz : R = 0
  · subst hz
    go_wp2_with fail
    refine (TK.out trivial _ (BW.out.trans KB.out)).mono ?_
    rintro e V2 ⟨rfl, kb⟩
    have KB2 := Lib.hid (BW.out.trans (KB.out.trans kb))
    clear kb TK
    go_wp2_with fail
    go_ret2
    exact ⟨rfl, KB2.out⟩
  · have hne : (R != 0) = true := by rw [bne_iff_ne]; exact hz
    go_wp2_with fail
    go_ret2
    exact ⟨rfl, BW.out.trans KB.out⟩
/-- The validator of a class. -/
def ckV : R6 → Int
  | (a, _, _, _, _, _) => a
set_option maxRecDepth 100000 in
set_option maxHeartbeats 4000000 in
theorem tokens_ (A : Option Addr) (n c : Nat) (B : Option Addr) (m d : Nat) (cs ps : List R6) (v : Int) (w : World) (hh : HH w A n c B m d cs ps) :
    Calls Tryz.prog 28 #[.agg #[.slice A n c, .slice B m d], .int .i64 v] w fun e w' => e = .returned (.tuple #[.int .u64 (if chkH cs ps = 0 then sumT (cs.filter (fun r => decide (ckV r = v))) else 0), .int .i64 (chkH cs ps)]) ∧ Bel w w' := by
  have HB := Lib.hid hh
  obtain ⟨W, hW⟩ : ∃ W, (w.alloc (.cells #[.slice A n c, .slice B m d] 25)).alloc (.cells #[.int .i64 v] 3) = W := ⟨_, rfl⟩
  have BW := Lib.hid (show Bel w W by rw [← hW]; exact ((Bel.refl w).alloc _).alloc _)
  have PG := Lib.hid (show Blk W w.heap.size #[.slice A n c, .slice B m d] 25 by rw [← hW]; exact (Blk.new _ _ _).alloc _)
  have PI0 := Lib.hid (show Blk W (w.heap.size + 1) #[.int .i64 v] 3 by rw [← hW]; have h := Blk.new (w.alloc (.cells #[.slice A n c, .slice B m d] 25)) #[.int .i64 v] 3; simpa using h)
  have CK := Lib.hid (hh.bel BW.out).chk
  have TK := Lib.hid (fun (h0 : chkH cs ps = 0) A2 c2 V (hV : RS cC V A2 (cs.filter (fun r => decide (ckV r = v))).length c2 (cs.filter (fun r => decide (ckV r = v)))) => tokensOf A2 _ c2 _ V hV (by have := hh.cn; have := hh.cls.len; have := List.length_filter_le (fun r => decide (ckV r = v)) cs; omega) (wd_filter hh.wc _) (by have := ((ok_iff cs ps).1 h0).tot; have := sumT_filter hh.wc (fun r => decide (ckV r = v)); omega))
  obtain ⟨R, hR⟩ : ∃ R, chkH cs ps = R := ⟨_, rfl⟩
  rw [hR] at CK TK ⊢
  have g0 := PG.out.cell 0 rfl
  have g1 := PG.out.cell 1 rfl
  clear hh hR
  go_enter Tryz.func28, Tryz.ntmps28
  go_upto_region 1 with fail
  try rw [hW]
  obtain ⟨g, hg⟩ : ∃ g, w.heap.size = g := ⟨_, rfl⟩
  rw [hg] at PG g0 g1 PI0 ⊢
  have HG := Lib.hid (show w.heap.size ≤ W.heap.size from BW.out.size)
  clear hg hW
  go_wp2_with fail
  refine CK.out.mono ?_
  rintro e V ⟨rfl, kb⟩
  have KB := Lib.hid kb
  have g0 := (PG.out.bel kb).cell 0 rfl
  have g1 := (PG.out.bel kb).cell 1 rfl
  have q0 := (PI0.out.bel kb).cell 0 rfl
  clear kb CK
  by_cases hz : R = 0
  · subst hz
    have TH := Lib.hid (fun V (hV : Bel w V) (hc : V.cell? ⟨g + 1, 0, none⟩ = some (.int .i64 v)) => thoseC (fun r => decide (ckV r = v)) 82 #[.pointer (some ⟨g + 1, 0, none⟩)] A n c cs V (HB.out.cls.bel hV) (by have := HB.out.cn; omega) (fun args w => rfl) (fun r W hW => by obtain ⟨x1, x2, x3, x4, x5, x6⟩ := r; exact tokens1 x1 x2 x3 x4 x5 x6 _ v W (cell_bel hc hW)))
    go_wp2_with fail
    refine (TH.out _ (BW.out.trans KB.out) q0).mono ?_
    rintro e V2 ⟨v2, rfl, ho, kb⟩
    obtain ⟨A2, c2, rfl, hrs, _, _⟩ := ho.rs c6C
    have KB2 := Lib.hid (BW.out.trans (KB.out.trans kb))
    have HS := Lib.hid hrs
    clear kb ho hrs TH q0
    go_wp2_with fail
    refine (TK.out trivial _ _ _ HS.out).mono ?_
    rintro e V3 ⟨rfl, kb⟩
    have KB3 := Lib.hid (KB2.out.trans kb)
    clear kb TK
    go_wp2_with fail
    go_ret2
    exact ⟨rfl, KB3.out⟩
  · have hne : (R != 0) = true := by rw [bne_iff_ne]; exact hz
    go_wp2_with fail
    go_ret2
    exact ⟨rfl, BW.out.trans KB.out⟩
set_option maxRecDepth 100000 in
set_option maxHeartbeats 4000000 in
theorem of_ (A : Option Addr) (n c : Nat) (B : Option Addr) (m d : Nat) (cs ps : List R6) (v : Int) (w : World) (hh : HH w A n c B m d cs ps) :
    Calls Tryz.prog 32 #[.agg #[.slice A n c, .slice B m d], .int .i64 v] w fun e w' => ∃ x, e = .returned (.tuple #[x, .int .i64 (chkH cs ps)]) ∧ OwnR cP 93 w' w.heap.size x (if chkH cs ps = 0 then ps.filter (fun r => decide (own r = v)) else []) ∧ Bel w w' := by
  have HB := Lib.hid hh
  obtain ⟨W, hW⟩ : ∃ W, (w.alloc (.cells #[.slice A n c, .slice B m d] 25)).alloc (.cells #[.int .i64 v] 3) = W := ⟨_, rfl⟩
  have BW := Lib.hid (show Bel w W by rw [← hW]; exact ((Bel.refl w).alloc _).alloc _)
  have PG := Lib.hid (show Blk W w.heap.size #[.slice A n c, .slice B m d] 25 by rw [← hW]; exact (Blk.new _ _ _).alloc _)
  have PI0 := Lib.hid (show Blk W (w.heap.size + 1) #[.int .i64 v] 3 by rw [← hW]; have h := Blk.new (w.alloc (.cells #[.slice A n c, .slice B m d] 25)) #[.int .i64 v] 3; simpa using h)
  have CK := Lib.hid (hh.bel BW.out).chk
  obtain ⟨R, hR⟩ : ∃ R, chkH cs ps = R := ⟨_, rfl⟩
  rw [hR] at CK  ⊢
  have g0 := PG.out.cell 0 rfl
  have g1 := PG.out.cell 1 rfl
  clear hh hR
  go_enter Tryz.func32, Tryz.ntmps32
  go_upto_region 1 with fail
  try rw [hW]
  obtain ⟨g, hg⟩ : ∃ g, w.heap.size = g := ⟨_, rfl⟩
  rw [hg] at PG g0 g1 PI0 ⊢
  have HG := Lib.hid (show w.heap.size ≤ W.heap.size from BW.out.size)
  clear hg hW
  go_wp2_with fail
  refine CK.out.mono ?_
  rintro e V ⟨rfl, kb⟩
  have KB := Lib.hid kb
  have g0 := (PG.out.bel kb).cell 0 rfl
  have g1 := (PG.out.bel kb).cell 1 rfl
  have q0 := (PI0.out.bel kb).cell 0 rfl
  clear kb CK
  by_cases hz : R = 0
  · subst hz
    have TH := Lib.hid (fun V (hV : Bel w V) (hc : V.cell? ⟨g + 1, 0, none⟩ = some (.int .i64 v)) => thoseP (fun r => decide (own r = v)) 85 #[.pointer (some ⟨g + 1, 0, none⟩)] B m d ps V (HB.out.pos.bel hV) (by have := HB.out.pm; omega) (fun args w => rfl) (fun r W hW => by obtain ⟨x1, x2, x3, x4, x5, x6⟩ := r; exact of1 x1 x2 x3 x4 x5 x6 _ v W (cell_bel hc hW)))
    go_wp2_with fail
    refine (TH.out _ (BW.out.trans KB.out) q0).mono ?_
    rintro e V2 ⟨v2, rfl, ho, kb⟩
    have HO := Lib.hid (ho.mono (BW.out.trans KB.out).size)
    have KB2 := Lib.hid (BW.out.trans (KB.out.trans kb))
    clear kb ho TH q0
    go_wp2_with fail
    go_ret2
    exact ⟨_, rfl, HO.out, KB2.out⟩
  · have hne : (R != 0) = true := by rw [bne_iff_ne]; exact hz
    go_wp2_with fail
    go_ret2
    try rw [if_neg hz]
    exact ⟨_, rfl, OwnR.nil_ _ _ _ _, BW.out.trans KB.out⟩
set_option maxRecDepth 100000 in
set_option maxHeartbeats 4000000 in
theorem exposed_ (A : Option Addr) (n c : Nat) (B : Option Addr) (m d : Nat) (cs ps : List R6) (v h : Int) (w : World) (hh : HH w A n c B m d cs ps) :
    Calls Tryz.prog 36 #[.agg #[.slice A n c, .slice B m d], .int .i64 v, .int .i64 h] w fun e w' => ∃ x, e = .returned (.tuple #[x, .int .i64 (chkH cs ps)]) ∧ OwnR cC 90 w' w.heap.size x (if chkH cs ps = 0 ∧ 1 ≤ h ∧ h ≤ 4294967296 then cs.filter (bkR v h) else []) ∧ Bel w w' := by
  have HB := Lib.hid hh
  obtain ⟨W, hW⟩ : ∃ W, ((w.alloc (.cells #[.slice A n c, .slice B m d] 25)).alloc (.cells #[.int .i64 v] 3)).alloc (.cells #[.int .i64 h] 3) = W := ⟨_, rfl⟩
  have BW := Lib.hid (show Bel w W by rw [← hW]; exact (((Bel.refl w).alloc _).alloc _).alloc _)
  have PG := Lib.hid (show Blk W w.heap.size #[.slice A n c, .slice B m d] 25 by rw [← hW]; exact ((Blk.new _ _ _).alloc _).alloc _)
  have PI0 := Lib.hid (show Blk W (w.heap.size + 1) #[.int .i64 v] 3 by rw [← hW]; have h := (Blk.new (w.alloc (.cells #[.slice A n c, .slice B m d] 25)) #[.int .i64 v] 3).alloc (.cells #[.int .i64 h] 3); simpa using h)
  have PI1 := Lib.hid (show Blk W (w.heap.size + 2) #[.int .i64 h] 3 by rw [← hW]; have h := Blk.new ((w.alloc (.cells #[.slice A n c, .slice B m d] 25)).alloc (.cells #[.int .i64 v] 3)) #[.int .i64 h] 3; simpa using h)
  have CK := Lib.hid (hh.bel BW.out).chk
  obtain ⟨L, hL⟩ : ∃ L, (if chkH cs ps = 0 ∧ 1 ≤ h ∧ h ≤ 4294967296 then cs.filter (bkR v h) else []) = L := ⟨_, rfl⟩
  have TK := Lib.hid hL
  rw [hL]
  clear hL
  obtain ⟨R, hR⟩ : ∃ R, chkH cs ps = R := ⟨_, rfl⟩
  rw [hR] at CK TK ⊢
  have g0 := PG.out.cell 0 rfl
  have g1 := PG.out.cell 1 rfl
  clear hh hR
  go_enter Tryz.func36, Tryz.ntmps36
  go_upto_region 1 with fail
  try rw [hW]
  obtain ⟨g, hg⟩ : ∃ g, w.heap.size = g := ⟨_, rfl⟩
  rw [hg] at PG g0 g1 PI0 PI1 ⊢
  have HG := Lib.hid (show w.heap.size ≤ W.heap.size from BW.out.size)
  clear hg hW
  go_wp2_with fail
  refine CK.out.mono ?_
  rintro e V ⟨rfl, kb⟩
  have KB := Lib.hid kb
  have g0 := (PG.out.bel kb).cell 0 rfl
  have g1 := (PG.out.bel kb).cell 1 rfl
  have q0 := (PI0.out.bel kb).cell 0 rfl
  have q1 := (PI1.out.bel kb).cell 0 rfl
  clear kb CK
  by_cases hz : R = 0
  · subst hz
    have TH := Lib.hid (fun V (hV : Bel w V) (hc : V.cell? ⟨g + 1, 0, none⟩ = some (.int .i64 v)) (hd : V.cell? ⟨g + 2, 0, none⟩ = some (.int .i64 h)) => thoseC (bkR v h) 87 #[.pointer (some ⟨g + 1, 0, none⟩), .pointer (some ⟨g + 2, 0, none⟩)] A n c cs V (HB.out.cls.bel hV) (by have := HB.out.cn; omega) (fun args w => rfl) (fun r W hW => by obtain ⟨x1, x2, x3, x4, x5, x6⟩ := r; exact exposed1 x1 x2 x3 x4 x5 x6 _ _ v h W (cell_bel hc hW) (cell_bel hd hW)))
    have IH := Lib.hid (fun V => isHeight h V)
    obtain ⟨y, hy⟩ : ∃ y, decide (1 ≤ h ∧ h ≤ 4294967296) = y := ⟨_, rfl⟩
    rw [hy] at IH
    have HY := Lib.hid hy
    clear hy
    go_wp2_with fail
    refine (IH.out _).mono ?_
    rintro e V1 ⟨rfl, rfl⟩
    cases y
    · have hno := of_decide_eq_false HY.out
      have hl := TK.out
      rw [if_neg (fun hh => hno hh.2)] at hl
      have HL := Lib.hid hl
      clear hno hl TK
      go_wp2_with fail
      go_ret2
      rw [← HL.out]
      exact ⟨_, rfl, OwnR.nil_ _ _ _ _, BW.out.trans KB.out⟩
    · have hyes := of_decide_eq_true HY.out
      have hl := TK.out
      rw [if_pos ⟨trivial, hyes⟩] at hl
      have HL := Lib.hid hl
      clear hyes hl TK
      go_wp2_with fail
      refine (TH.out _ (BW.out.trans KB.out) q0 q1).mono ?_
      rintro e V2 ⟨v2, rfl, ho, kb⟩
      have HO := Lib.hid (ho.mono (BW.out.trans KB.out).size)
      have KB2 := Lib.hid (BW.out.trans (KB.out.trans kb))
      clear kb ho TH q0 q1
      go_wp2_with fail
      go_ret2
      rw [← HL.out]
      exact ⟨_, rfl, HO.out, KB2.out⟩
  · have hne : (R != 0) = true := by rw [bne_iff_ne]; exact hz
    go_wp2_with fail
    go_ret2
    have hl := TK.out
    rw [if_neg (fun hh => hz hh.1)] at hl
    rw [← hl]
    exact ⟨_, rfl, OwnR.nil_ _ _ _ _, BW.out.trans KB.out⟩
end Ho
end Go.Proofs.YtneajcoiemkfbaaGreat
end
