/-
  Texts of this claim, put together: Ho30, Ho36. What each one says, and under which conditions, stands ahead of it.
-/
import Derived.Test.YtneajcoiemkfbaaGreatTk
import Derived.Test.YtneajcoiemkfbaaGreatCK
import Derived.Test.YtneajcoiemkfbaaGreatCL
import Derived.Test.YtneajcoiemkfbaaGreatCM

section
/-
  What holding.Own answers. Conditions: at most a million rows; amounts are words.
-/
namespace Go.Proofs.YtneajcoiemkfbaaGreat
open Go.RowKit Go.Shelf
set_option linter.unusedVariables false
set_option linter.unusedSimpArgs false
attribute [local go_sem] Oper.semAt_some
namespace Ho
open Kk Pm

/-- What an owner has with a validator, step by step. -/
def owS (cs : List R6) (o v s : Int) (p : R6) : Int := if own p = o ∧ ckV (stp p) = v then IntKind.u64.wrap (s + Sh.valN (polT cs (stp p)) (polS cs (stp p)) (shr p)) else s
def owN (cs ps : List R6) (o v : Int) : Int := ps.foldl (owS cs o v) 0
theorem val_ok {cs ps : List R6} (h : Ok cs ps) (hwc : ∀ r ∈ cs, Wd r) (hwp : Wp ps) {p : R6} (hp : p ∈ ps) : Sh.valE (polT cs (stp p)) (polS cs (stp p)) (shr p) = 0 := by
  have h1 := pol_at0 h (stp p)
  have h2 := sumS_ge (fun q hq => (hwp q hq).1) hp (x := stp p) (odC.self _)
  rw [h.sum] at h2
  unfold Sh.valE
  rw [if_neg (fun k => k h1), if_neg (by omega)]
/-- Between two rounds. -/
structure OwI (w : World) (g gs p : Nat) (A : Option Addr) (n c : Nat) (B : Option Addr) (m d : Nat) (cs ps : List R6) (o v : Int) (pre : List (Ps ps)) (V : World) : Prop where
  hi : Hi p A n c B m d (cs.map key) ps V
  bo : Blk V (g + 1) #[.int .i64 o] 3
  bv : Blk V (g + 1 + 1) #[.int .i64 v] 3
  b3 : ∃ x, Blk V (g + 1 + 1 + 1) #[x] 32
  b4 : ∃ x, Blk V (g + 1 + 1 + 1 + 1) #[x] 30
  bs : Blk V gs #[.int .u64 ((pre.map (fun e : Ps ps => e.1)).foldl (owS cs o v) 0)] 32
  bel : Bel w V

set_option maxRecDepth 100000 in
set_option maxHeartbeats 8000000 in
theorem own_ (A : Option Addr) (n c : Nat) (B : Option Addr) (m d : Nat) (cs ps : List R6) (o v : Int) (w : World) (hh : HH w A n c B m d cs ps) :
    Calls Tryz.prog 26 #[.agg #[.slice A n c, .slice B m d], .int .i64 o, .int .i64 v] w fun e w' => e = .returned (.tuple #[.int .u64 (if chkH cs ps = 0 then owN cs ps o v else 0), .int .i64 (chkH cs ps)]) ∧ Bel w w' := by
  have HH0 := Lib.hid hh
  have HN := Lib.hid hh.cn
  have HM := Lib.hid hh.pm
  obtain ⟨W, hW⟩ : ∃ W, ((((w.alloc (.cells #[.slice A n c, .slice B m d] 25)).alloc (.cells #[.int .i64 o] 3)).alloc (.cells #[.int .i64 v] 3)).alloc (.cells #[.int .u64 0] 32)).alloc (.cells #[.int .i64 0] 30) = W := ⟨_, rfl⟩
  have BW := Lib.hid (show Bel w W by rw [← hW]; exact (((((Bel.refl w).alloc _).alloc _).alloc _).alloc _).alloc _)
  have PG := Lib.hid (show Blk W w.heap.size #[.slice A n c, .slice B m d] 25 by rw [← hW]; exact ((((Blk.new _ _ _).alloc _).alloc _).alloc _).alloc _)
  have P1 := Lib.hid (show Blk W (w.heap.size + 1) #[.int .i64 o] 3 by rw [← hW]; have h := (((Blk.new (w.alloc (.cells #[.slice A n c, .slice B m d] 25)) #[.int .i64 o] 3).alloc (.cells #[.int .i64 v] 3)).alloc (.cells #[.int .u64 0] 32)).alloc (.cells #[.int .i64 0] 30); simpa using h)
  have P2 := Lib.hid (show Blk W (w.heap.size + 1 + 1) #[.int .i64 v] 3 by rw [← hW]; have h := ((Blk.new ((w.alloc (.cells #[.slice A n c, .slice B m d] 25)).alloc (.cells #[.int .i64 o] 3)) #[.int .i64 v] 3).alloc (.cells #[.int .u64 0] 32)).alloc (.cells #[.int .i64 0] 30); simpa using h)
  have P3 := Lib.hid (show Blk W (w.heap.size + 1 + 1 + 1) #[.int .u64 0] 32 by rw [← hW]; have h := (Blk.new (((w.alloc (.cells #[.slice A n c, .slice B m d] 25)).alloc (.cells #[.int .i64 o] 3)).alloc (.cells #[.int .i64 v] 3)) #[.int .u64 0] 32).alloc (.cells #[.int .i64 0] 30); simpa using h)
  have P4 := Lib.hid (show Blk W (w.heap.size + 1 + 1 + 1 + 1) #[.int .i64 0] 30 by rw [← hW]; have h := Blk.new ((((w.alloc (.cells #[.slice A n c, .slice B m d] 25)).alloc (.cells #[.int .i64 o] 3)).alloc (.cells #[.int .i64 v] 3)).alloc (.cells #[.int .u64 0] 32)) #[.int .i64 0] 30; simpa using h)
  have CK := Lib.hid (hh.bel BW.out).chk
  have HD := Lib.hid (fun V => held A n c B m d V)
  have HOK := Lib.hid (fun h0 : chkH cs ps = 0 => (ok_iff cs ps).1 h0)
  obtain ⟨R, hR⟩ : ∃ R, chkH cs ps = R := ⟨_, rfl⟩
  rw [hR] at CK HOK ⊢
  obtain ⟨RR, hRR⟩ : ∃ RR, (if R = 0 then owN cs ps o v else 0) = RR := ⟨_, rfl⟩
  have HRES := Lib.hid hRR
  rw [hRR]
  clear hRR
  have g0 := PG.out.cell 0 rfl
  have g1 := PG.out.cell 1 rfl
  clear hh hR
  refine callsIn_wide.1 (callsIn_of_wp_marks (F := Fence.wide) (n := 9) Tryz.func26 rfl trivial ?_ rfl)
  simp only [Tryz.ntmps26, List.size_toArray, List.length_cons, List.length_nil, Nat.reduceAdd, Nat.reduceSub, Array.replicate_succ, Array.replicate_zero, List.push_toArray, List.append_toArray, List.nil_append, List.cons_append]
  refine wpIn_wide.2 ?_
  go_upto_region 1 with fail
  try rw [hW]
  obtain ⟨g, hg⟩ : ∃ g, w.heap.size = g := ⟨_, rfl⟩
  have HGE := Lib.hid hg
  rw [hg] at PG P1 P2 P3 P4 g0 g1 ⊢
  clear hg hW
  go_wp2_with fail
  refine CK.out.mono ?_
  rintro e V ⟨rfl, kb⟩
  have KB := Lib.hid (BW.out.trans kb)
  have QG := Lib.hid (PG.out.bel kb)
  have Q1 := Lib.hid (P1.out.bel kb)
  have Q2 := Lib.hid (P2.out.bel kb)
  have Q3 := Lib.hid (P3.out.bel kb)
  have Q4 := Lib.hid (P4.out.bel kb)
  have g0 := QG.out.cell 0 rfl
  have g1 := QG.out.cell 1 rfl
  have r3 := Q3.out.cell 0 rfl
  have r4 := Q4.out.cell 0 rfl
  have f3 := Q3.out.frozen 0
  have f4 := Q4.out.frozen 0
  clear kb CK PG P1 P2 P3 P4
  by_cases hz : R = 0
  case neg =>
    have hne : (R != 0) = true := by rw [bne_iff_ne]; exact hz
    obtain rfl : RR = 0 := HRES.out.symm.trans (if_neg hz)
    have C0 := Lib.hid ((((Q3.out.set 0 (.int .u64 0)).other (b' := g + 1 + 1 + 1 + 1) (by omega) 0 (.int .i64 R)).cell 0 rfl))
    have C1 := Lib.hid ((((Q4.out.other (b' := g + 1 + 1 + 1) (by omega) 0 (.int .u64 0)).set 0 (.int .i64 R)).cell 0 rfl))
    have BB := Lib.hid ((KB.out.set (p := ⟨g + 1 + 1 + 1, 0, none⟩) (by have := HGE.out; show w.heap.size ≤ g + 1 + 1 + 1; omega) (.int .u64 0)).set (p := ⟨g + 1 + 1 + 1 + 1, 0, none⟩) (by have := HGE.out; show w.heap.size ≤ g + 1 + 1 + 1 + 1; omega) (.int .i64 R))
    go_wp2_with fail
    have c0 := C0.out
    have c1 := C1.out
    exact ⟨.tuple #[.int .u64 0, .int .i64 R], by simp [results, Tryz.results26, go_sem, c0, c1], rfl, BB.out⟩
  subst hz
  have HOQ := Lib.hid (show Ok cs ps from HOK.out (by first | rfl | trivial))
  clear HOK
  have HSO := Lib.hid HOQ.out.sc
  have HS := Lib.hid (srt_key.2 HOQ.out.sc)
  have HREQ := Lib.hid (show owN cs ps o v = RR from (if_pos (rfl : (0 : Int) = 0)).symm.trans HRES.out)
  clear HRES
  go_upto_region 5 with fail
  obtain ⟨V0, hV0⟩ : ∃ V0, V.alloc (.cells #[.int .u64 0] 32) = V0 := ⟨_, rfl⟩
  have BV0 := Lib.hid (show Bel V V0 by rw [← hV0]; exact (Bel.refl V).alloc _)
  have PS := Lib.hid (show Blk V0 V.heap.size #[.int .u64 0] 32 by rw [← hV0]; exact Blk.new _ _ _)
  obtain ⟨gs, hgs⟩ : ∃ gs, V.heap.size = gs := ⟨_, rfl⟩
  have HGS := Lib.hid hgs
  try rw [hV0]
  rw [hgs] at PS ⊢
  clear hgs hV0
  have g0 := (QG.out.bel BV0.out).cell 0 rfl
  have g1 := (QG.out.bel BV0.out).cell 1 rfl
  go_wp2_with fail
  refine (HD.out _).mono ?_
  rintro e W1 ⟨p, rfl, kb, hp, pb⟩
  have BX := Lib.hid (KB.out.trans (BV0.out.trans kb))
  have HI := Lib.hid (show Hi p A n c B m d (cs.map key) ps W1 from ⟨pb, ⟨cs, HH0.out.cls.bel BX.out, rfl⟩, HH0.out.pos.bel BX.out⟩)
  have SEQ := Lib.hid (seq 8 (by decide) HS.out HN.out HM.out HI.out)
  have HL := Lib.hid HH0.out.pos.len
  have HGW := Lib.hid (show w.heap.size ≤ W1.heap.size from Below.size BX.out)
  have HGG := Lib.hid (show w.heap.size ≤ gs by have := HGS.out; have := Below.size KB.out; omega)
  have HIO := Lib.hid (show OwI w g gs p A n c B m d cs ps o v [] W1 from ⟨HI.out, (Q1.out.bel BV0.out).bel kb, (Q2.out.bel BV0.out).bel kb, ⟨_, (Q3.out.bel BV0.out).bel kb⟩, ⟨_, (Q4.out.bel BV0.out).bel kb⟩, PS.out.bel kb, BX.out⟩)
  clear kb hp pb QG Q1 Q2 Q3 Q4 g0 g1 r3 r4 f3 f4 PS HGS
  go_wp2_with fail
  refine (wpIn_wide (n := 9)).1 ?_
  refine wpIn_rangeFunc_ownH (α := Ps ps) rfl (by decide) (gf := 151) (lb := #[.pointer (some ⟨p, 0, none⟩)]) rfl trivial (enters_of Tryz.func151 (by kernel_rfl) rfl)
    SEQ.out (fun h k x => k (h x)) (fun X l o o' _ ho hc _ h => h.grown (grownBy_putObj' X l o') (fun r e => by cases e; exact ⟨o, ho, hc⟩)) (Below.refl _ _) (fun _ => rfl)
    (fun pre V => OwI w g gs p A n c B m d cs ps o v pre V) (fun cd pre V => False)
    (fun s X X' row h hg hr => ⟨h.hi.grown hg (fun r e => (hr r e).2), blk_grown h.bo hg (fun r e => (hr r e).2), blk_grown h.bv hg (fun r e => (hr r e).2), (by obtain ⟨x, h3⟩ := h.b3; exact ⟨x, blk_grown h3 hg (fun r e => (hr r e).2)⟩), (by obtain ⟨x, h3⟩ := h.b4; exact ⟨x, blk_grown h3 hg (fun r e => (hr r e).2)⟩), blk_grown h.bs hg (fun r e => (hr r e).2), Kk.Bel.grown h.bel hg (fun k e => Nat.le_trans HGW.out (hr k e).1)⟩)
    (fun cd s X X' row h hg hr => h)
    HIO.out
    (fun e a' X => ∃ q, a' = { tmps := #[.agg #[.slice A n c, .slice B m d], .int .i64 o, .int .i64 v, .pointer (some ⟨g, 0, none⟩), .pointer (some ⟨g + 1, 0, none⟩), .pointer (some ⟨g + 1 + 1, 0, none⟩), .pointer (some ⟨g + 1 + 1 + 1, 0, none⟩), .pointer (some ⟨g + 1 + 1 + 1 + 1, 0, none⟩), .int .i64 0, .pointer (some ⟨gs, 0, none⟩), .pointer (some ⟨q, 0, none⟩), ptrV A (cs.map key) e.1, undef, undef, .agg #[.slice A n c, .slice B m d], .int .i64 0, .int .i64 0, .bool false, undef, .agg #[.slice A n c, .slice B m d], .func (.func 151) #[] #[.pointer (some ⟨p, 0, none⟩)], .agg (cP e.1).toArray, ptrV A (cs.map key) e.1, undef, undef, undef, undef, undef, undef, undef, undef, undef, undef, undef, undef, undef, undef, undef, undef, undef, undef, undef, undef, undef, undef, undef, undef, undef, undef, undef], defers := [] } ∧ Blk X q (cP e.1).toArray 93)
    (fun e a' _ X X' row h hg hr => by
      obtain ⟨q, h1, h2⟩ := h
      exact ⟨q, h1, blk_grown h2 hg (fun r e => (hr r e).2)⟩)
    ?assign ?body ?done ?stop
  case assign =>
    rintro l pre ⟨⟨r1, r2, r3, r4, r5, r6⟩, hr⟩ X K hI hK
    obtain ⟨Q, hQ⟩ : ∃ Q, ptrV A (cs.map key) (r1, r2, r3, r4, r5, r6) = Q := ⟨_, rfl⟩
    have BA : ∀ o, Bel X (X.alloc o) := fun o => (Bel.refl X).alloc o
    have HK := Lib.hid (hK { tmps := #[.agg #[.slice A n c, .slice B m d], .int .i64 o, .int .i64 v, .pointer (some ⟨g, 0, none⟩), .pointer (some ⟨g + 1, 0, none⟩), .pointer (some ⟨g + 1 + 1, 0, none⟩), .pointer (some ⟨g + 1 + 1 + 1, 0, none⟩), .pointer (some ⟨g + 1 + 1 + 1 + 1, 0, none⟩), .int .i64 0, .pointer (some ⟨gs, 0, none⟩), .pointer (some ⟨X.heap.size, 0, none⟩), Q, undef, undef, .agg #[.slice A n c, .slice B m d], .int .i64 0, .int .i64 0, .bool false, undef, .agg #[.slice A n c, .slice B m d], .func (.func 151) #[] #[.pointer (some ⟨p, 0, none⟩)], .agg #[.int .i64 r1, .int .i64 r2, .int .i64 r3, .int .i64 r4, .int .i64 r5, .int .u64 r6], Q, undef, undef, undef, undef, undef, undef, undef, undef, undef, undef, undef, undef, undef, undef, undef, undef, undef, undef, undef, undef, undef, undef, undef, undef, undef, undef, undef], defers := [] } (X.alloc (.cells #[.int .i64 r1, .int .i64 r2, .int .i64 r3, .int .i64 r4, .int .i64 r5, .int .u64 r6] 93))
      ((KeepsOthers.alloc X _).from _) (fun h => h.bel (BA _)) ⟨hI.hi.bel (BA _), hI.bo.bel (BA _), hI.bv.bel (BA _), (by obtain ⟨x, h3⟩ := hI.b3; exact ⟨x, h3.bel (BA _)⟩), (by obtain ⟨x, h3⟩ := hI.b4; exact ⟨x, h3.bel (BA _)⟩), hI.bs.bel (BA _), hI.bel.trans (BA _)⟩ ⟨X.heap.size, by rw [← hQ]; rfl, Blk.new _ _ _⟩)
    show Code.wpIn _ _ _ _ _ { tmps := (#[21, 22].zip #[.agg #[.int .i64 r1, .int .i64 r2, .int .i64 r3, .int .i64 r4, .int .i64 r5, .int .u64 r6], ptrV A (cs.map key) (r1, r2, r3, r4, r5, r6)]).foldl _ _, defers := [] } X
    rw [hQ]
    clear hK hQ BA
    gi_wp2
    exact HK.out
  case body =>
    rintro l pre ⟨⟨r1, r2, r3, r4, r5, r6⟩, hr⟩ a' X hl hex hI ⟨q, rfl, hq⟩ hlen
    have HII := Lib.hid hI
    have HQ := Lib.hid (show Blk X q #[.int .i64 r1, .int .i64 r2, .int .i64 r3, .int .i64 r4, .int .i64 r5, .int .u64 r6] 93 from hq)
    have hpo := (HOQ.out.po _ hr).2.2.2
    have hin : inB ordC cs (r2, r3, r4, r5, 0, 0) = true := by
      cases hc : inB ordC cs (r2, r3, r4, r5, 0, 0) with
      | true => rfl
      | false => exact absurd ((in_none cs _).2 hc) hpo
    obtain ⟨⟨s1, s2, s3, s4, s5, s6⟩, hrr, _, _, hpl⟩ := (pol_at cs (r2, r3, r4, r5, 0, 0)).2 hin
    have h0k : ordC (s1, s2, s3, s4, s5, s6) (stp (r1, r2, r3, r4, r5, r6)) = 0 := by
      have h1 := hin
      rw [inB_at ordC cs _ _ hrr] at h1
      exact of_decide_eq_true h1
    have hget := get_mem odC HSO.out (List.mem_of_getElem? hrr) h0k
    have hpT : polT cs (stp (r1, r2, r3, r4, r5, r6)) = s5 := by unfold polT; rw [hget]; rfl
    have hpS : polS cs (stp (r1, r2, r3, r4, r5, r6)) = s6 := by unfold polS; rw [hget]; rfl
    have hvE := val_ok HOQ.out HH0.out.wc HH0.out.wp hr
    have hst : owS cs o v ((pre.map (fun e : Ps ps => e.1)).foldl (owS cs o v) 0) (r1, r2, r3, r4, r5, r6) = if r1 = o ∧ r2 = v then IntKind.u64.wrap ((pre.map (fun e : Ps ps => e.1)).foldl (owS cs o v) 0 + Sh.valN s5 s6 r6) else (pre.map (fun e : Ps ps => e.1)).foldl (owS cs o v) 0 := by
      unfold owS
      rw [hpT, hpS]
      rfl
    have hsn : ((pre ++ [(⟨(r1, r2, r3, r4, r5, r6), hr⟩ : Ps ps)]).map (fun e : Ps ps => e.1)).foldl (owS cs o v) 0 = owS cs o v ((pre.map (fun e : Ps ps => e.1)).foldl (owS cs o v) 0) (r1, r2, r3, r4, r5, r6) := by
      rw [List.map_append, List.foldl_append]; rfl
    rw [hst] at hsn
    rw [hpT, hpS] at hvE
    replace hvE : Sh.valE s5 s6 r6 = 0 := hvE
    have hws := HH0.out.wc _ (List.mem_of_getElem? hrr)
    have hwr := HH0.out.wp _ hr
    obtain ⟨cur, hcur⟩ : ∃ cur, (pre.map (fun e : Ps ps => e.1)).foldl (owS cs o v) 0 = cur := ⟨_, rfl⟩
    rw [hcur] at hsn
    have HBS := Lib.hid (show Blk X gs #[.int .u64 cur] 32 by have := hI.bs; rw [hcur] at this; exact this)
    have VX := Lib.hid (fun V => Sh.valueE s5 s6 r6 V hws.1 hws.2.1 hws.2.2.1 hws.2.2.2 hwr.1 hwr.2)
    obtain ⟨wo, hwo⟩ : ∃ wo, Sh.valN s5 s6 r6 = wo := ⟨_, rfl⟩
    rw [hvE, hwo] at VX
    replace VX := Lib.hid (show ∀ V, Calls Tryz.prog 75 #[.agg #[.int .u64 s5, .int .u64 s6], .int .u64 r6] V fun r w' => r = .returned (.tuple #[.int .u64 wo, .int .i64 0]) ∧ Bel V w' from VX.out)
    rw [hwo] at hsn
    have hn0 : 0 < n := by have := HH0.out.cls.len; omega
    obtain ⟨bc, oc, rfl, hbc, hrow⟩ := (HH0.out.cls.bel hI.bel).at (by have := HH0.out.cls.len; omega) hrr
    have hptr : ptrV (some ⟨bc, oc, none⟩) (cs.map key) (r1, r2, r3, r4, r5, r6) = .pointer (some ⟨bc, oc + pos ordC cs (r2, r3, r4, r5, 0, 0) * 6 + 4, none⟩) := by
      show ptrO _ (inB ordC (cs.map key) (r2, r3, r4, r5, 0, 0)) (pos ordC (cs.map key) (r2, r3, r4, r5, 0, 0)) = _
      rw [in_key, pos_key, hin]
      rfl
    rw [hptr]
    obtain ⟨pk, hpk⟩ : ∃ pk, oc + pos ordC cs (r2, r3, r4, r5, 0, 0) * 6 = pk := ⟨_, rfl⟩
    rw [hpk] at hrow ⊢
    have HRW := Lib.hid (show X.rangeAt bc (pk + 4) [.int .u64 s5, .int .u64 s6] from fun j u hj => by
      match j, hj with
      | 0, hj => exact hrow 4 u hj
      | 1, hj => exact hrow 5 u hj)
    have HGO := Lib.hid (show ∀ (V : World) (u : Int), Bel X V → ((pre ++ [(⟨(r1, r2, r3, r4, r5, r6), hr⟩ : Ps ps)]).map (fun e : Ps ps => e.1)).foldl (owS cs o v) 0 = u → KeepsFrom W1.heap.size X (V.setCell ⟨gs, 0, none⟩ (.int .u64 u)) ∧ (Hi p (some ⟨bc, oc, none⟩) n c B m d (cs.map key) ps X → Hi p (some ⟨bc, oc, none⟩) n c B m d (cs.map key) ps (V.setCell ⟨gs, 0, none⟩ (.int .u64 u))) ∧ OwI w g gs p (some ⟨bc, oc, none⟩) n c B m d cs ps o v (pre ++ [⟨(r1, r2, r3, r4, r5, r6), hr⟩]) (V.setCell ⟨gs, 0, none⟩ (.int .u64 u)) from fun V u hv hu => by
      have hb := HBS.out.bel hv
      have h3 := (HII.out.hi.bel hv).set1 hb (by decide) (.int .u64 u)
      refine ⟨((KeepsOthers.of_grownBy (Kk.Bel.grownBy hv) (fun j o e => by cases e)).trans (KeepsOthers.setCell _ _ _)).from _, fun _ => h3, h3, (HII.out.bo.bel hv).other (blk_ne (HII.out.bo.bel hv) hb (by decide)) 0 _, (HII.out.bv.bel hv).other (blk_ne (HII.out.bv.bel hv) hb (by decide)) 0 _, ?_, ?_, ?_, (HII.out.bel.trans hv).set (by have := HGG.out; exact this) _⟩
      · obtain ⟨x, h4⟩ := HII.out.b3
        by_cases e : g + 1 + 1 + 1 = gs
        · rw [e]; exact ⟨_, hb.set 0 _⟩
        · exact ⟨x, (h4.bel hv).other e 0 _⟩
      · obtain ⟨x, h4⟩ := HII.out.b4
        exact ⟨x, (h4.bel hv).other (blk_ne (h4.bel hv) hb (by decide)) 0 _⟩
      · rw [hu]; exact hb.set 0 _)
    have HSKIP := Lib.hid (show ∀ (V : World), Bel X V → ((pre ++ [(⟨(r1, r2, r3, r4, r5, r6), hr⟩ : Ps ps)]).map (fun e : Ps ps => e.1)).foldl (owS cs o v) 0 = cur → KeepsFrom W1.heap.size X V ∧ (Hi p (some ⟨bc, oc, none⟩) n c B m d (cs.map key) ps X → Hi p (some ⟨bc, oc, none⟩) n c B m d (cs.map key) ps V) ∧ OwI w g gs p (some ⟨bc, oc, none⟩) n c B m d cs ps o v (pre ++ [⟨(r1, r2, r3, r4, r5, r6), hr⟩]) V from fun V hv hu => by
      refine ⟨(KeepsOthers.of_grownBy (Kk.Bel.grownBy hv) (fun j o e => by cases e)).from _, fun h => h.bel hv, HII.out.hi.bel hv, HII.out.bo.bel hv, HII.out.bv.bel hv, ?_, ?_, ?_, HII.out.bel.trans hv⟩
      · obtain ⟨x, h4⟩ := HII.out.b3; exact ⟨x, h4.bel hv⟩
      · obtain ⟨x, h4⟩ := HII.out.b4; exact ⟨x, h4.bel hv⟩
      · rw [hu]; exact HBS.out.bel hv)
    have HSN := Lib.hid hsn
    obtain ⟨d0, d1, d2, d3, d4, d5⟩ := rng6 (rngB (C := [.int .i64 r1, .int .i64 r2, .int .i64 r3, .int .i64 r4, .int .i64 r5, .int .u64 r6]) HQ.out)
    rw [Nat.zero_add] at d1 d2 d3 d4 d5
    have co := HII.out.bo.cell 0 rfl
    have cv := HII.out.bv.cell 0 rfl
    clear hI hq hpo hin hrr hpl h0k hget hpT hpS hvE hst hsn hws hwr hcur hwo hrow hptr hpk hlen hbc
    show Code.wpIn _ _ _ _ _ { tmps := #[.agg #[.slice (some ⟨bc, oc, none⟩) n c, .slice B m d], .int .i64 o, .int .i64 v, .pointer (some ⟨g, 0, none⟩), .pointer (some ⟨g + 1, 0, none⟩), .pointer (some ⟨g + 1 + 1, 0, none⟩), .pointer (some ⟨g + 1 + 1 + 1, 0, none⟩), .pointer (some ⟨g + 1 + 1 + 1 + 1, 0, none⟩), .int .i64 0, .pointer (some ⟨gs, 0, none⟩), .pointer (some ⟨q, 0, none⟩), .pointer (some ⟨bc, pk + 4, none⟩), undef, undef, .agg #[.slice (some ⟨bc, oc, none⟩) n c, .slice B m d], .int .i64 0, .int .i64 0, .bool false, undef, .agg #[.slice (some ⟨bc, oc, none⟩) n c, .slice B m d], .func (.func 151) #[] #[.pointer (some ⟨p, 0, none⟩)], .agg #[.int .i64 r1, .int .i64 r2, .int .i64 r3, .int .i64 r4, .int .i64 r5, .int .u64 r6], .pointer (some ⟨bc, pk + 4, none⟩), undef, undef, undef, undef, undef, undef, undef, undef, undef, undef, undef, undef, undef, undef, undef, undef, undef, undef, undef, undef, undef, undef, undef, undef, undef, undef, undef], defers := [] } X
    by_cases h1 : r1 = o
    case neg =>
      have h1b : (r1 != o) = true := by rw [bne_iff_ne]; exact h1
      have HS2 := Lib.hid (HSN.out.trans (if_neg (fun k => h1 k.1)))
      clear HSN
      clear h1
      gi_wp2_with fail
      exact HSKIP.out _ (Bel.refl _) HS2.out
    subst h1
    have h1b : (r1 != r1) = false := by simp
    by_cases h2 : r2 = v
    case neg =>
      have h2b : (r2 != v) = true := by rw [bne_iff_ne]; exact h2
      have HS2 := Lib.hid (HSN.out.trans (if_neg (fun k => h2 k.2)))
      clear HSN
      clear h2
      gi_wp2_with fail
      exact HSKIP.out _ (Bel.refl _) HS2.out
    subst h2
    have h2b : (r2 != r2) = false := by simp
    have HS2 := Lib.hid (HSN.out.trans (if_pos ⟨rfl, rfl⟩))
    clear HSN
    gi_wp2_with fail
    refine held_in (S := fun Vx => Bel X Vx) (by kernel_rfl) (by kernel_rfl) (by rintro ⟨_, _, h⟩; exact h) (Bel.refl _).drew (fun hS0 => ?_)
    obtain ⟨w6, hw6⟩ : ∃ w6, World.drew X = w6 := ⟨_, rfl⟩
    rw [hw6] at hS0 ⊢
    clear hw6
    refine ztk 0 { dst := some 35, op := .move (.tmp 11), type := 115, pos := "holding.go:62", after := #[], guard := none } (.pointer (some ⟨bc, pk + 4, none⟩)) (Or.inl ⟨by rfl, by intro w hSw; clear hSw; go_simp⟩) hS0 ?_
    try simp only [Act.put, zq1, zq2, zq3]
    refine ztk 1 { dst := some 36, op := Op.nilCheck (.tmp 35), type := 0, pos := "holding.go:62", after := #[{ on := 0, ground := .data }], guard := none } (.pointer (some ⟨bc, pk + 4, none⟩)) (Or.inl ⟨by rfl, by intro w hSw; clear hSw; go_simp⟩) hS0 ?_
    try simp only [Act.put, zq1, zq2, zq3]
    refine ztk 2 { dst := some 37, op := .load 46 (.tmp 36), type := 46, pos := "holding.go:62", after := #[{ on := 1, ground := .data }], guard := none } (.agg #[.int .u64 s5, .int .u64 s6]) (yieldsIf_load_mid (by rfl) _ _ rfl _ _ rfl _ _ (fun w h => rng_bel HRW.out h) Tryz.underlying46 rfl info_q) hS0 ?_
    try simp only [Act.put, zq1, zq2, zq3]
    refine ztk 3 { dst := some 38, op := .fieldAddr 93 (.tmp 10) 2, type := 0, pos := "holding.go:62", after := #[], guard := none } (.pointer (some ⟨q, 5, none⟩)) (Or.inl ⟨by rfl, by intro w hSw; clear hSw; go_simp⟩) hS0 ?_
    try simp only [Act.put, zq1, zq2, zq3]
    refine ztk 4 { dst := some 39, op := .load 32 (.tmp 38), type := 32, pos := "holding.go:62", after := #[{ on := 3, ground := .data }], guard := none } (.int .u64 r6) (Or.inl ⟨by rfl, by intro w h; have hcell := ((HQ.out.bel h).cell 5 rfl); clear h; go_simp⟩) hS0 ?_
    try simp only [Act.put, zq1, zq2, zq3]
    refine wpAnyH_ready (rs := [5]) (by kernel_rfl) (by simp) ?_
    refine AllReadyH.cons (o := { dst := some 40, op := .call { callee := .value (.func 75), args := #[.tmp 37, .tmp 39], argTypes := #[46, 32] }, type := 49, pos := "holding.go:62", after := #[{ on := 2, ground := .data }, { on := 4, ground := .data }], guard := none }) rfl (fun K hK => ?_) AllReadyH.nil
    go_simp
    refine (VX.out _).mono ?_
    rintro e v1 ⟨rfl, kb⟩
    go_wp2_with fail
    refine hK.out _ _ (hS0.trans kb) (fun hS1 => ?_)
    clear hK K
    try simp only [Act.put, zq1, zq2, zq3]
    refine ztk 6 { dst := some 34, op := .move (.tmp 40), type := 49, pos := "holding.go:62", after := #[{ on := 5, ground := .data }], guard := none } (.tuple #[.int .u64 wo, .int .i64 0]) (Or.inl ⟨by rfl, by intro w hSw; clear hSw; go_simp⟩) hS1 ?_
    try simp only [Act.put, zq1, zq2, zq3]
    refine ztk 7 { dst := some 41, op := .extract (.tmp 34) 0, type := 32, pos := "holding.go:62", after := #[{ on := 6, ground := .data }], guard := none } (.int .u64 wo) (Or.inl ⟨by rfl, by intro w hSw; clear hSw; go_simp⟩) hS1 ?_
    try simp only [Act.put, zq1, zq2, zq3]
    refine ztk 8 { dst := some 42, op := .extract (.tmp 34) 1, type := 30, pos := "holding.go:62", after := #[{ on := 6, ground := .data }, { on := 9, ground := .gcOnly .lateStores }], guard := none } (.int .i64 0) (Or.inl ⟨by rfl, by intro w hSw; clear hSw; go_simp⟩) hS1 ?_
    try simp only [Act.put, zq1, zq2, zq3]
    refine ztk 9 { dst := some 12, op := .assign (.tmp 41), type := 32, pos := "holding.go:62", after := #[{ on := 7, ground := .data }, { on := 5, ground := .chain }, { on := 0, ground := .phase }, { on := 1, ground := .phase }, { on := 2, ground := .phase }, { on := 3, ground := .phase }, { on := 4, ground := .phase }, { on := 5, ground := .phase }, { on := 6, ground := .phase }, { on := 7, ground := .phase }, { on := 8, ground := .textOnly .lateStores }], guard := none } (.int .u64 wo) (Or.inl ⟨by rfl, by intro w hSw; clear hSw; go_simp⟩) hS1 ?_
    try simp only [Act.put, zq1, zq2, zq3]
    refine ztk 10 { dst := some 13, op := .assign (.tmp 42), type := 30, pos := "holding.go:62", after := #[{ on := 8, ground := .data }, { on := 9, ground := .chain }, { on := 0, ground := .phase }, { on := 1, ground := .phase }, { on := 2, ground := .phase }, { on := 3, ground := .phase }, { on := 4, ground := .phase }, { on := 5, ground := .phase }, { on := 6, ground := .phase }, { on := 7, ground := .phase }, { on := 8, ground := .phase }, { on := 9, ground := .phase }], guard := none } (.int .i64 0) (Or.inl ⟨by rfl, by intro w hSw; clear hSw; go_simp⟩) hS1 ?_
    try simp only [Act.put, zq1, zq2, zq3]
    refine wpAnyH_done (by kernel_rfl) ?_ _
    have HE := Lib.hid hS1
    have s0 := (HBS.out.bel HE.out).cell 0 rfl
    have sf := (HBS.out.bel HE.out).frozen 0
    clear d0 d1 d2 d3 d4 d5 co cv
    gi_wp2_with fail
    exact HGO.out _ _ HE.out HS2.out
  case done =>
    rintro D xs X hD hxs hI hK
    have HII := Lib.hid hI
    have HK := Lib.hid hK
    have hcu := hI.bs
    rw [hxs] at hcu
    replace hcu : Blk X gs #[.int .u64 (owN cs ps o v)] 32 := hcu
    rw [HREQ.out] at hcu
    have HCU := Lib.hid hcu
    obtain ⟨x3, h3⟩ := hI.b3
    obtain ⟨x4, h4⟩ := hI.b4
    have H3 := Lib.hid h3
    have H4 := Lib.hid h4
    have s0 := hcu.cell 0 rfl
    have f3 := h3.frozen 0
    have f4 := h4.frozen 0
    have t3 := h3.cell 0 rfl
    have t4 := h4.cell 0 rfl
    have HK2 := Lib.hid (show ((X.setCell ⟨g + 1 + 1 + 1, 0, none⟩ (.int .u64 RR)).setCell ⟨g + 1 + 1 + 1 + 1, 0, none⟩ (.int .i64 0)).heap[D]? = some (.deferred (some [])) from (KeepsOthers.setCell _ _ _).same D _ ((KeepsOthers.setCell X ⟨g + 1 + 1 + 1, 0, none⟩ (.int .u64 RR)).same D _ hK rfl) rfl)
    clear hI hK hcu h3 h4 hxs
    go_wp2_with fail
    refine ⟨by simp, .inl ⟨_, _, rfl, run_takeDeferred HK2.out, ?_⟩⟩
    have hB3 := blk_grown ((H3.out.set 0 (.int .u64 RR)).other (b' := g + 1 + 1 + 1 + 1) (by omega) 0 (.int .i64 0)) (grownBy_putObj' _ D (.deferred none)) (fun r e => by cases e; exact ⟨_, HK2.out, rfl⟩)
    have hB4 := blk_grown ((H4.out.other (b' := g + 1 + 1 + 1) (by omega) 0 (.int .u64 RR)).set 0 (.int .i64 0)) (grownBy_putObj' _ D (.deferred none)) (fun r e => by cases e; exact ⟨_, HK2.out, rfl⟩)
    have hc3 := hB3.cell 0 rfl
    have hc4 := hB4.cell 0 rfl
    exact ⟨.tuple #[.int .u64 RR, .int .i64 0], by simp [results, Tryz.results26, go_sem, hc3, hc4], rfl, Kk.Bel.grown ((HII.out.bel.set (p := ⟨g + 1 + 1 + 1, 0, none⟩) (by have := HGE.out; show w.heap.size ≤ g + 1 + 1 + 1; omega) _).set (p := ⟨g + 1 + 1 + 1 + 1, 0, none⟩) (by have := HGE.out; show w.heap.size ≤ g + 1 + 1 + 1 + 1; omega) _) (grownBy_putObj' _ D _) (fun k e => by cases e; have := HGW.out; omega)⟩
  case stop =>
    rintro D cd pre X hD hpre h hK
    exact h.elim
end Ho
end Go.Proofs.YtneajcoiemkfbaaGreat
end

section
/-
  What at, SameHolding and does of the laws answer: an act makes of a holding what the document's Join, Leave or Cut do. Conditions: the holding has at most a million rows, amounts are words.
-/
namespace Go.Proofs.YtneajcoiemkfbaaGreat
open Go.RowKit Go.Shelf
set_option linter.unusedVariables false
set_option linter.unusedSimpArgs false
namespace Ho
open Kk Pm

/-- An act: What, Owner, the stamp, Validator, Height, N. -/
abbrev R9 := Int × Int × Int × Int × Int × Int × Int × Int × Int
def cA : R9 → List Value
  | (k, o, a, b, d, e, v, h, x) => [.int .i64 k, .int .i64 o, .int .i64 a, .int .i64 b, .int .i64 d, .int .i64 e, .int .i64 v, .int .i64 h, .int .u64 x]
def wA : Rw.Row R9 := ⟨cA, 9, fun _ => rfl, fun r u hu => by
  obtain ⟨k, o, a, b, d, e, v, h, x⟩ := r
  simp only [cA, List.mem_cons, List.not_mem_nil, or_false] at hu
  rcases hu with rfl | rfl | rfl | rfl | rfl | rfl | rfl | rfl | rfl <;> rfl, by decide⟩
/-- What an act tells of a holding, and makes of it. -/
def aE (cs ps : List R6) : R9 → Int
  | (k, o, a, b, d, e, v, h, x) => if k = 0 then chE cs ps (bJE o a b d e (polT cs (a, b, d, e, 0, 0)) (polS cs (a, b, d, e, 0, 0)) cs.length (sumT cs) x) else if k = 1 then chE cs ps (bLE (polT cs (a, b, d, e, 0, 0)) (polS cs (a, b, d, e, 0, 0)) (shs ps (o, a, b, d, e, 0)) x) else if k = 2 then chE cs ps (bKE v h x) else 0
def aC (cs ps : List R6) : R9 → List R6
  | (k, o, a, b, d, e, v, h, x) => if k = 0 then (if aE cs ps (k, o, a, b, d, e, v, h, x) = 0 then setC cs a b d e (Sh.joiT (polT cs (a, b, d, e, 0, 0)) (polS cs (a, b, d, e, 0, 0)) x) (Sh.joiS (polT cs (a, b, d, e, 0, 0)) (polS cs (a, b, d, e, 0, 0)) x) else [])
    else if k = 1 then (if aE cs ps (k, o, a, b, d, e, v, h, x) = 0 then setC cs a b d e (Sh.leaT (polT cs (a, b, d, e, 0, 0)) (polS cs (a, b, d, e, 0, 0)) x) (Sh.leaS (polT cs (a, b, d, e, 0, 0)) (polS cs (a, b, d, e, 0, 0)) x) else [])
    else if k = 2 then (if aE cs ps (k, o, a, b, d, e, v, h, x) = 0 then cutC cs v h x else []) else cs
def aP (cs ps : List R6) : R9 → List R6
  | (k, o, a, b, d, e, v, h, x) => if k = 0 then (if aE cs ps (k, o, a, b, d, e, v, h, x) = 0 then setP ps o a b d e (shs ps (o, a, b, d, e, 0) + Sh.joiN (polT cs (a, b, d, e, 0, 0)) (polS cs (a, b, d, e, 0, 0)) x) else [])
    else if k = 1 then (if aE cs ps (k, o, a, b, d, e, v, h, x) = 0 then setP ps o a b d e (shs ps (o, a, b, d, e, 0) - x) else [])
    else if k = 2 then (if aE cs ps (k, o, a, b, d, e, v, h, x) = 0 then cutP cs ps v h x else []) else ps
def aN (cs ps : List R6) : R9 → Int
  | (k, o, a, b, d, e, v, h, x) => if k = 0 then (if aE cs ps (k, o, a, b, d, e, v, h, x) = 0 then Sh.joiN (polT cs (a, b, d, e, 0, 0)) (polS cs (a, b, d, e, 0, 0)) x else 0)
    else if k = 1 then (if aE cs ps (k, o, a, b, d, e, v, h, x) = 0 then Sh.leaN (polT cs (a, b, d, e, 0, 0)) (polS cs (a, b, d, e, 0, 0)) x else 0)
    else if k = 2 then (if aE cs ps (k, o, a, b, d, e, v, h, x) = 0 then sumT (losL v h x cs cs.length) else 0) else 0
def aL (cs ps : List R6) : R9 → List R6
  | (k, o, a, b, d, e, v, h, x) => if k = 2 then (if aE cs ps (k, o, a, b, d, e, v, h, x) = 0 then losL v h x cs cs.length else []) else []

theorem at_ (v h : Int) (w : World) : Calls Tryz.prog 50 #[.int .i64 v, .int .i64 h] w fun e w' => e = .returned (.agg #[.int .i64 v, .int .i64 h, .int .i64 (-1), .int .i64 0]) ∧ Bel w w' := by
  obtain ⟨W, hW⟩ : ∃ W, w.alloc (.cells #[.int .i64 0, .int .i64 0, .int .i64 0, .int .i64 0] 37) = W := ⟨_, rfl⟩
  have PG := Lib.hid (show Blk W w.heap.size #[.int .i64 0, .int .i64 0, .int .i64 0, .int .i64 0] 37 by rw [← hW]; exact Blk.new _ _ _)
  have BW := Lib.hid (show Bel w W by rw [← hW]; exact (Bel.refl w).alloc _)
  have f0 := PG.out.frozen 0
  have f1 := PG.out.frozen 1
  have f2 := PG.out.frozen 2
  have f3 := PG.out.frozen 3
  have c0 := PG.out.cell 0 rfl
  have c1 := PG.out.cell 1 rfl
  have c2 := PG.out.cell 2 rfl
  have c3 := PG.out.cell 3 rfl
  go_enter Tryz.func50, Tryz.ntmps50
  go_upto_region 1 with fail
  try rw [hW]
  obtain ⟨g, hg⟩ : ∃ g, w.heap.size = g := ⟨_, rfl⟩
  have HG := Lib.hid hg
  rw [hg] at PG f0 f1 f2 f3 c0 c1 c2 c3 ⊢
  clear hg hW
  have PQ := Lib.hid ((((PG.out.set 0 (.int .i64 v)).set 1 (.int .i64 h)).set 2 (.int .i64 (-1))).set 3 (.int .i64 0))
  have BQ := Lib.hid ((((BW.out.set (p := ⟨g, 0, none⟩) (by rw [← HG.out]; exact Nat.le_refl _) (.int .i64 v)).set (p := ⟨g, 1, none⟩) (by rw [← HG.out]; exact Nat.le_refl _) (.int .i64 h)).set (p := ⟨g, 2, none⟩) (by rw [← HG.out]; exact Nat.le_refl _) (.int .i64 (-1))).set (p := ⟨g, 3, none⟩) (by rw [← HG.out]; exact Nat.le_refl _) (.int .i64 0))
  go_wp2_with fail
  refine bodyPost_ret (Pm.res_c rfl _ _ ⟨g, 0, none⟩ _ rfl (Pm.load_b (C := [.int .i64 v, .int .i64 h, .int .i64 (-1), .int .i64 0]) PQ.out Tryz.underlying37 rfl info_s)) rfl ⟨rfl, BQ.out⟩
set_option maxRecDepth 100000 in
set_option maxHeartbeats 4000000 in
theorem sameH (A A' : Option Addr) (n c n' c' : Nat) (B B' : Option Addr) (m d m' d' : Nat) (cs ps cs' ps' : List R6) (w : World) (h1 : RS cC w A n c cs) (h2 : RS cP w B m d ps) (h3 : RS cC w A' n' c' cs') (h4 : RS cP w B' m' d' ps') (hn : n ≤ 1000000) (hm : m ≤ 1000000) (hn' : n' ≤ 1000000) (hm' : m' ≤ 1000000) :
    Calls Tryz.prog 18 #[.agg #[.slice A n c, .slice B m d], .agg #[.slice A' n' c', .slice B' m' d']] w fun e w' => e = .returned (.bool (decide (cs = cs') && decide (ps = ps'))) ∧ Bel w w' := by
  obtain ⟨W, hW⟩ : ∃ W, (w.alloc (.cells #[.slice A n c, .slice B m d] 25)).alloc (.cells #[.slice A' n' c', .slice B' m' d'] 25) = W := ⟨_, rfl⟩
  have BW := Lib.hid (show Bel w W by rw [← hW]; exact ((Bel.refl w).alloc _).alloc _)
  have P1 := Lib.hid (show Blk W w.heap.size #[.slice A n c, .slice B m d] 25 by rw [← hW]; exact (Blk.new _ _ _).alloc _)
  have P2 := Lib.hid (show Blk W (w.heap.size + 1) #[.slice A' n' c', .slice B' m' d'] 25 by rw [← hW]; have h := Blk.new (w.alloc (.cells #[.slice A n c, .slice B m d] 25)) #[.slice A' n' c', .slice B' m' d'] 25; simpa using h)
  have SC := Lib.hid (fun V hV => same_classes A A' n c n' c' cs cs' V (rsC (h1.bel hV)) (rsC (h3.bel hV)) (by omega) (by omega))
  have SP := Lib.hid (fun V hV => same_positions B B' m d m' d' ps ps' V (rsP (h2.bel hV)) (rsP (h4.bel hV)) (by omega) (by omega))
  obtain ⟨y, hy⟩ : ∃ y, decide (cs = cs') = y := ⟨_, rfl⟩
  obtain ⟨z, hz⟩ : ∃ z, decide (ps = ps') = z := ⟨_, rfl⟩
  rw [hy] at SC ⊢
  rw [hz] at SP ⊢
  clear h1 h2 h3 h4 hy hz
  have c0 := P1.out.cell 0 rfl
  have c1 := P1.out.cell 1 rfl
  have d0 := P2.out.cell 0 rfl
  have d1 := P2.out.cell 1 rfl
  go_enter Tryz.func18, Tryz.ntmps18
  go_upto_region 1 with fail
  try rw [hW]
  obtain ⟨g, hg⟩ : ∃ g, w.heap.size = g := ⟨_, rfl⟩
  rw [hg] at P1 P2 c0 c1 d0 d1 ⊢
  clear hg hW
  go_wp2_with fail
  refine (SC.out _ BW.out).mono ?_
  rintro r V ⟨rfl, kb⟩
  have KB := Lib.hid (BW.out.trans kb)
  have c0 := (P1.out.bel kb).cell 0 rfl
  have c1 := (P1.out.bel kb).cell 1 rfl
  have d0 := (P2.out.bel kb).cell 0 rfl
  have d1 := (P2.out.bel kb).cell 1 rfl
  clear kb
  cases y
  · go_wp2_with fail
    go_ret
    exact ⟨rfl, KB.out⟩
  · go_wp2_with fail
    refine (SP.out _ KB.out).mono ?_
    rintro r V2 ⟨rfl, kb⟩
    have KB2 := Lib.hid (KB.out.trans kb)
    clear kb
    cases z <;> (go_wp2_with fail; go_ret; exact ⟨rfl, KB2.out⟩)
/-- What a slice reads as. -/
def RV (k : R6 → List Value) (w : World) (v : Value) (l : List R6) : Prop := ∃ A c, v = .slice A l.length c ∧ RS k w A l.length c l
theorem RV.bel {k : R6 → List Value} {w w' : World} {v : Value} {l : List R6} (h : RV k w v l) (hb : Bel w w') : RV k w' v l := by
  obtain ⟨A, c, h1, h2⟩ := h
  exact ⟨A, c, h1, h2.bel hb⟩
theorem OwnR.rv {k : R6 → List Value} (K : C6 k) {t : TypeId} {w : World} {base : Nat} {v : Value} {l : List R6} (h : OwnR k t w base v l) : RV k w v l := by
  obtain ⟨A, c, h1, h2, _⟩ := h.rs K
  exact ⟨A, c, h1, h2⟩
theorem RS.rv {k : R6 → List Value} {w : World} {A : Option Addr} {n c : Nat} {l : List R6} (h : RS k w A n c l) : RV k w (.slice A n c) l := by
  obtain rfl := h.len
  exact ⟨A, c, rfl, h⟩
theorem load_h {w : World} {g : Nat} {v1 v2 : Value} (h : Blk w g #[v1, v2] 25) : (loadVar 25 ⟨g, 0, none⟩).run Tryz.prog w = .ok (.agg #[v1, v2]) w := Pm.load_b (C := [v1, v2]) h Tryz.underlying25 rfl info_h
set_option maxRecDepth 100000 in
set_option maxHeartbeats 8000000 in
theorem does_ (A : Option Addr) (n c : Nat) (B : Option Addr) (m d0 : Nat) (cs ps : List R6) (k o a b d e v h x : Int) (w : World) (hh : HH w A n c B m d0 cs ps) (x0 : 0 ≤ x) (x1 : x ≤ 18446744073709551615) :
    Calls Tryz.prog 16 #[.agg #[.slice A n c, .slice B m d0], .agg #[.int .i64 k, .int .i64 o, .int .i64 a, .int .i64 b, .int .i64 d, .int .i64 e, .int .i64 v, .int .i64 h, .int .u64 x]] w fun r w' => ∃ v1 v2 lv, r = .returned (.tuple #[.agg #[v1, v2], .int .u64 (aN cs ps (k, o, a, b, d, e, v, h, x)), lv, .int .i64 (aE cs ps (k, o, a, b, d, e, v, h, x))]) ∧
      RV cC w' v1 (aC cs ps (k, o, a, b, d, e, v, h, x)) ∧ RV cP w' v2 (aP cs ps (k, o, a, b, d, e, v, h, x)) ∧ OwnL w' w.heap.size lv (aL cs ps (k, o, a, b, d, e, v, h, x)) ∧ Bel w w' ∧ (0 ≤ k → k ≤ 2 → OwnR cC 90 w' w.heap.size v1 (aC cs ps (k, o, a, b, d, e, v, h, x)) ∧ OwnR cP 93 w' w.heap.size v2 (aP cs ps (k, o, a, b, d, e, v, h, x))) := by
  obtain ⟨W, hW⟩ : ∃ W, ((w.alloc (.cells #[.slice A n c, .slice B m d0] 25)).alloc (.cells #[.int .i64 k, .int .i64 o, .int .i64 a, .int .i64 b, .int .i64 d, .int .i64 e, .int .i64 v, .int .i64 h, .int .u64 x] 39)).alloc (.cells #[.slice none 0 0, .slice none 0 0] 25) = W := ⟨_, rfl⟩
  have BW := Lib.hid (show Bel w W by rw [← hW]; exact (((Bel.refl w).alloc _).alloc _).alloc _)
  have P1 := Lib.hid (show Blk W w.heap.size #[.slice A n c, .slice B m d0] 25 by rw [← hW]; exact ((Blk.new _ _ _).alloc _).alloc _)
  have P2 := Lib.hid (show Blk W (w.heap.size + 1) #[.int .i64 k, .int .i64 o, .int .i64 a, .int .i64 b, .int .i64 d, .int .i64 e, .int .i64 v, .int .i64 h, .int .u64 x] 39 by rw [← hW]; have h := (Blk.new (w.alloc (.cells #[.slice A n c, .slice B m d0] 25)) #[.int .i64 k, .int .i64 o, .int .i64 a, .int .i64 b, .int .i64 d, .int .i64 e, .int .i64 v, .int .i64 h, .int .u64 x] 39).alloc (.cells #[.slice none 0 0, .slice none 0 0] 25); simpa using h)
  have P3 := Lib.hid (show Blk W (w.heap.size + 1 + 1) #[.slice none 0 0, .slice none 0 0] 25 by rw [← hW]; have h := Blk.new ((w.alloc (.cells #[.slice A n c, .slice B m d0] 25)).alloc (.cells #[.int .i64 k, .int .i64 o, .int .i64 a, .int .i64 b, .int .i64 d, .int .i64 e, .int .i64 v, .int .i64 h, .int .u64 x] 39)) #[.slice none 0 0, .slice none 0 0] 25; simpa using h)
  have J := Lib.hid (Join_ A n c B m d0 cs ps o a b d e x W (hh.bel BW.out) x0 x1)
  have L := Lib.hid (Leave_ A n c B m d0 cs ps o a b d e x W (hh.bel BW.out) x0 x1)
  have C := Lib.hid (Cut_ A n c B m d0 cs ps v h x W (hh.bel BW.out) x0 x1)
  have HH0 := Lib.hid hh
  have q0 := P1.out.cell 0 rfl
  have q1 := P1.out.cell 1 rfl
  obtain ⟨p0, p1, p2, p3, p4, p5, p6, p7, p8⟩ : (_ ∧ _ ∧ _ ∧ _ ∧ _ ∧ _ ∧ _ ∧ _ ∧ _) := ⟨P2.out.cell 0 rfl, P2.out.cell 1 rfl, P2.out.cell 2 rfl, P2.out.cell 3 rfl, P2.out.cell 4 rfl, P2.out.cell 5 rfl, P2.out.cell 6 rfl, P2.out.cell 7 rfl, P2.out.cell 8 rfl⟩
  have f0 := P3.out.frozen 0
  have f1 := P3.out.frozen 1
  have r0 := P3.out.cell 0 rfl
  have r1 := P3.out.cell 1 rfl
  clear hh
  by_cases hk0 : k = 0
  · subst hk0
    have JJ : Calls Tryz.prog 70 #[.agg #[.slice A n c, .slice B m d0], .int .i64 o, .agg #[.int .i64 a, .int .i64 b, .int .i64 d, .int .i64 e], .int .u64 x] W fun r w' => ∃ v1 v2, r = .returned (.tuple #[.agg #[v1, v2], .int .u64 (aN cs ps (0, o, a, b, d, e, v, h, x)), .int .i64 (aE cs ps (0, o, a, b, d, e, v, h, x))]) ∧ OwnR cC 90 w' W.heap.size v1 (aC cs ps (0, o, a, b, d, e, v, h, x)) ∧ OwnR cP 93 w' W.heap.size v2 (aP cs ps (0, o, a, b, d, e, v, h, x)) ∧ Bel W w' := J.out
    have b0 : ((0 : Int) == 0) = true := rfl
    have eL : aL cs ps (0, o, a, b, d, e, v, h, x) = [] := rfl
    obtain ⟨EE, hEE⟩ : ∃ E, aE cs ps (0, o, a, b, d, e, v, h, x) = E := ⟨_, rfl⟩
    obtain ⟨NN, hNN⟩ : ∃ N, aN cs ps (0, o, a, b, d, e, v, h, x) = N := ⟨_, rfl⟩
    obtain ⟨CC, hCC⟩ : ∃ l, aC cs ps (0, o, a, b, d, e, v, h, x) = l := ⟨_, rfl⟩
    obtain ⟨PP, hPP⟩ : ∃ l, aP cs ps (0, o, a, b, d, e, v, h, x) = l := ⟨_, rfl⟩
    obtain ⟨LL, hLL⟩ : ∃ l, aL cs ps (0, o, a, b, d, e, v, h, x) = l := ⟨_, rfl⟩
    rw [hLL] at eL
    rw [hEE, hNN, hCC, hPP] at JJ
    rw [hEE, hNN, hCC, hPP, hLL]
    have HJ := Lib.hid JJ
    have HEL := Lib.hid eL
    clear J L C JJ hEE hNN hCC hPP hLL eL
    go_enter Tryz.func16, Tryz.ntmps16
    go_upto_region 1 with fail
    try rw [hW]
    obtain ⟨g, hg⟩ : ∃ g, w.heap.size = g := ⟨_, rfl⟩
    have HG := Lib.hid hg
    rw [hg] at P1 P2 P3 q0 q1 p0 p1 p2 p3 p4 p5 p6 p7 p8 f0 f1 r0 r1 ⊢
    clear hg hW
    go_wp2_with fail
    refine HJ.out.mono ?_
    rintro r V ⟨v1, v2, rfl, h1, h2, kb⟩
    obtain ⟨A1, c1, hv1, g1, _⟩ := h1.rs c6C
    obtain ⟨A2, c2, hv2, g2, _⟩ := h2.rs c6P
    subst hv1 hv2
    obtain rfl : LL = [] := HEL.out
    have H1 := Lib.hid h1
    have H2 := Lib.hid h2
    have KB := Lib.hid kb
    have Q3 := Lib.hid (P3.out.bel kb)
    clear h1 h2 kb g1 g2 P3 f0 f1 r0 r1
    obtain ⟨V2, hV2⟩ : ∃ V2, V.alloc (.cells #[.slice A1 CC.length c1, .slice A2 PP.length c2] 25) = V2 := ⟨_, rfl⟩
    have BV := Lib.hid (show Bel V V2 by rw [← hV2]; exact (Bel.refl V).alloc _)
    have P8 := Lib.hid (show Blk V2 V.heap.size #[.slice A1 CC.length c1, .slice A2 PP.length c2] 25 by rw [← hV2]; exact Blk.new _ _ _)
    have P4 := Lib.hid (Q3.out.bel BV.out)
    have u0 := P8.out.cell 0 rfl
    have u1 := P8.out.cell 1 rfl
    have f0 := P4.out.frozen 0
    have f1 := P4.out.frozen 1
    have r0 := P4.out.cell 0 rfl
    have r1 := P4.out.cell 1 rfl
    go_upto_region 4 with fail
    try rw [hV2]
    obtain ⟨g8, hg8⟩ : ∃ g, V.heap.size = g := ⟨_, rfl⟩
    rw [hg8] at P8 u0 u1 ⊢
    clear hg8 hV2
    have PQ := Lib.hid ((P4.out.set 0 (.slice A1 CC.length c1)).set 1 (.slice A2 PP.length c2))
    have KQ := Lib.hid (show Kep (fun b => b = g + 1 + 1) V ((V2.setCell ⟨g + 1 + 1, 0, none⟩ (.slice A1 CC.length c1)).setCell ⟨g + 1 + 1, 1, none⟩ (.slice A2 PP.length c2)) from Kep.set (S := fun b => b = g + 1 + 1) (Kep.set (S := fun b => b = g + 1 + 1) (Kep.of_bel BV.out) rfl _) rfl _)
    go_wp2_with fail
    refine bodyPost_ret (res_cttt rfl _ _ ⟨g + 1 + 1, 0, none⟩ _ _ _ _ rfl rfl rfl rfl (load_h PQ.out)) rfl ?_
    have hsz : w.heap.size ≤ W.heap.size := Below.size BW.out
    have o1 := (H1.out.kep KQ.out (fun i e e' => own_ne H1.out Q3.out (by decide) (e' ▸ e))).mono hsz
    have o2 := (H2.out.kep KQ.out (fun i e e' => own_ne H2.out Q3.out (by decide) (e' ▸ e))).mono hsz
    refine ⟨_, _, _, rfl, o1.rv c6C, o2.rv c6P, OwnL.nil_ _ _, Kep.bel (BW.out.trans KB.out) KQ.out (fun k hk => by have := HG.out; omega), fun _ _ => ⟨o1, o2⟩⟩
  by_cases hk1 : k = 1
  · subst hk1
    have JJ : Calls Tryz.prog 51 #[.agg #[.slice A n c, .slice B m d0], .int .i64 o, .agg #[.int .i64 a, .int .i64 b, .int .i64 d, .int .i64 e], .int .u64 x] W fun r w' => ∃ v1 v2, r = .returned (.tuple #[.agg #[v1, v2], .int .u64 (aN cs ps (1, o, a, b, d, e, v, h, x)), .int .i64 (aE cs ps (1, o, a, b, d, e, v, h, x))]) ∧ OwnR cC 90 w' W.heap.size v1 (aC cs ps (1, o, a, b, d, e, v, h, x)) ∧ OwnR cP 93 w' W.heap.size v2 (aP cs ps (1, o, a, b, d, e, v, h, x)) ∧ Bel W w' := L.out
    have b0 : ((1 : Int) == 0) = false := rfl
    have b1 : ((1 : Int) == 1) = true := rfl
    have eL : aL cs ps (1, o, a, b, d, e, v, h, x) = [] := rfl
    obtain ⟨EE, hEE⟩ : ∃ E, aE cs ps (1, o, a, b, d, e, v, h, x) = E := ⟨_, rfl⟩
    obtain ⟨NN, hNN⟩ : ∃ N, aN cs ps (1, o, a, b, d, e, v, h, x) = N := ⟨_, rfl⟩
    obtain ⟨CC, hCC⟩ : ∃ l, aC cs ps (1, o, a, b, d, e, v, h, x) = l := ⟨_, rfl⟩
    obtain ⟨PP, hPP⟩ : ∃ l, aP cs ps (1, o, a, b, d, e, v, h, x) = l := ⟨_, rfl⟩
    obtain ⟨LL, hLL⟩ : ∃ l, aL cs ps (1, o, a, b, d, e, v, h, x) = l := ⟨_, rfl⟩
    rw [hLL] at eL
    rw [hEE, hNN, hCC, hPP] at JJ
    rw [hEE, hNN, hCC, hPP, hLL]
    have HJ := Lib.hid JJ
    have HEL := Lib.hid eL
    clear J L C JJ hEE hNN hCC hPP hLL eL
    go_enter Tryz.func16, Tryz.ntmps16
    go_upto_region 1 with fail
    try rw [hW]
    obtain ⟨g, hg⟩ : ∃ g, w.heap.size = g := ⟨_, rfl⟩
    have HG := Lib.hid hg
    rw [hg] at P1 P2 P3 q0 q1 p0 p1 p2 p3 p4 p5 p6 p7 p8 f0 f1 r0 r1 ⊢
    clear hg hW
    go_wp2_with fail
    refine HJ.out.mono ?_
    rintro r V ⟨v1, v2, rfl, h1, h2, kb⟩
    obtain ⟨A1, c1, hv1, g1, _⟩ := h1.rs c6C
    obtain ⟨A2, c2, hv2, g2, _⟩ := h2.rs c6P
    subst hv1 hv2
    obtain rfl : LL = [] := HEL.out
    have H1 := Lib.hid h1
    have H2 := Lib.hid h2
    have KB := Lib.hid kb
    have Q3 := Lib.hid (P3.out.bel kb)
    clear h1 h2 kb g1 g2 P3 f0 f1 r0 r1
    obtain ⟨V2, hV2⟩ : ∃ V2, V.alloc (.cells #[.slice A1 CC.length c1, .slice A2 PP.length c2] 25) = V2 := ⟨_, rfl⟩
    have BV := Lib.hid (show Bel V V2 by rw [← hV2]; exact (Bel.refl V).alloc _)
    have P8 := Lib.hid (show Blk V2 V.heap.size #[.slice A1 CC.length c1, .slice A2 PP.length c2] 25 by rw [← hV2]; exact Blk.new _ _ _)
    have P4 := Lib.hid (Q3.out.bel BV.out)
    have u0 := P8.out.cell 0 rfl
    have u1 := P8.out.cell 1 rfl
    have f0 := P4.out.frozen 0
    have f1 := P4.out.frozen 1
    have r0 := P4.out.cell 0 rfl
    have r1 := P4.out.cell 1 rfl
    go_upto_region 7 with fail
    try rw [hV2]
    obtain ⟨g8, hg8⟩ : ∃ g, V.heap.size = g := ⟨_, rfl⟩
    rw [hg8] at P8 u0 u1 ⊢
    clear hg8 hV2
    have PQ := Lib.hid ((P4.out.set 0 (.slice A1 CC.length c1)).set 1 (.slice A2 PP.length c2))
    have KQ := Lib.hid (show Kep (fun b => b = g + 1 + 1) V ((V2.setCell ⟨g + 1 + 1, 0, none⟩ (.slice A1 CC.length c1)).setCell ⟨g + 1 + 1, 1, none⟩ (.slice A2 PP.length c2)) from Kep.set (S := fun b => b = g + 1 + 1) (Kep.set (S := fun b => b = g + 1 + 1) (Kep.of_bel BV.out) rfl _) rfl _)
    go_wp2_with fail
    refine bodyPost_ret (res_cttt rfl _ _ ⟨g + 1 + 1, 0, none⟩ _ _ _ _ rfl rfl rfl rfl (load_h PQ.out)) rfl ?_
    have hsz : w.heap.size ≤ W.heap.size := Below.size BW.out
    have o1 := (H1.out.kep KQ.out (fun i e e' => own_ne H1.out Q3.out (by decide) (e' ▸ e))).mono hsz
    have o2 := (H2.out.kep KQ.out (fun i e e' => own_ne H2.out Q3.out (by decide) (e' ▸ e))).mono hsz
    refine ⟨_, _, _, rfl, o1.rv c6C, o2.rv c6P, OwnL.nil_ _ _, Kep.bel (BW.out.trans KB.out) KQ.out (fun k hk => by have := HG.out; omega), fun _ _ => ⟨o1, o2⟩⟩
  by_cases hk2 : k = 2
  · subst hk2
    have JJ : Calls Tryz.prog 48 #[.agg #[.slice A n c, .slice B m d0], .int .i64 v, .int .i64 h, .int .u64 x] W fun r w' => ∃ v1 v2 lv, r = .returned (.tuple #[.agg #[v1, v2], lv, .int .u64 (aN cs ps (2, o, a, b, d, e, v, h, x)), .int .i64 (aE cs ps (2, o, a, b, d, e, v, h, x))]) ∧ OwnR cC 90 w' W.heap.size v1 (aC cs ps (2, o, a, b, d, e, v, h, x)) ∧ OwnR cP 93 w' W.heap.size v2 (aP cs ps (2, o, a, b, d, e, v, h, x)) ∧ OwnL w' W.heap.size lv (aL cs ps (2, o, a, b, d, e, v, h, x)) ∧ Bel W w' := C.out
    have b0 : ((2 : Int) == 0) = false := rfl
    have b1 : ((2 : Int) == 1) = false := rfl
    have b2 : ((2 : Int) == 2) = true := rfl
    have eL : aL cs ps (2, o, a, b, d, e, v, h, x) = aL cs ps (2, o, a, b, d, e, v, h, x) := rfl
    obtain ⟨EE, hEE⟩ : ∃ E, aE cs ps (2, o, a, b, d, e, v, h, x) = E := ⟨_, rfl⟩
    obtain ⟨NN, hNN⟩ : ∃ N, aN cs ps (2, o, a, b, d, e, v, h, x) = N := ⟨_, rfl⟩
    obtain ⟨CC, hCC⟩ : ∃ l, aC cs ps (2, o, a, b, d, e, v, h, x) = l := ⟨_, rfl⟩
    obtain ⟨PP, hPP⟩ : ∃ l, aP cs ps (2, o, a, b, d, e, v, h, x) = l := ⟨_, rfl⟩
    obtain ⟨LL, hLL⟩ : ∃ l, aL cs ps (2, o, a, b, d, e, v, h, x) = l := ⟨_, rfl⟩
    rw [hLL] at eL
    rw [hEE, hNN, hCC, hPP, hLL] at JJ
    rw [hEE, hNN, hCC, hPP, hLL]
    have HJ := Lib.hid JJ
    have HEL := Lib.hid eL
    clear J L C JJ hEE hNN hCC hPP hLL eL
    go_enter Tryz.func16, Tryz.ntmps16
    go_upto_region 1 with fail
    try rw [hW]
    obtain ⟨g, hg⟩ : ∃ g, w.heap.size = g := ⟨_, rfl⟩
    have HG := Lib.hid hg
    rw [hg] at P1 P2 P3 q0 q1 p0 p1 p2 p3 p4 p5 p6 p7 p8 f0 f1 r0 r1 ⊢
    clear hg hW
    go_wp2_with fail
    refine HJ.out.mono ?_
    rintro r V ⟨v1, v2, lv, rfl, h1, h2, h3, kb⟩
    obtain ⟨A1, c1, hv1, g1, _⟩ := h1.rs c6C
    obtain ⟨A2, c2, hv2, g2, _⟩ := h2.rs c6P
    subst hv1 hv2
    obtain ⟨A3, c3, hv3⟩ := ownL_slice h3
    subst hv3
    have H3 := Lib.hid h3
    clear h3
    have H1 := Lib.hid h1
    have H2 := Lib.hid h2
    have KB := Lib.hid kb
    have Q3 := Lib.hid (P3.out.bel kb)
    clear h1 h2 kb g1 g2 P3 f0 f1 r0 r1
    obtain ⟨V2, hV2⟩ : ∃ V2, V.alloc (.cells #[.slice A1 CC.length c1, .slice A2 PP.length c2] 25) = V2 := ⟨_, rfl⟩
    have BV := Lib.hid (show Bel V V2 by rw [← hV2]; exact (Bel.refl V).alloc _)
    have P8 := Lib.hid (show Blk V2 V.heap.size #[.slice A1 CC.length c1, .slice A2 PP.length c2] 25 by rw [← hV2]; exact Blk.new _ _ _)
    have P4 := Lib.hid (Q3.out.bel BV.out)
    have u0 := P8.out.cell 0 rfl
    have u1 := P8.out.cell 1 rfl
    have f0 := P4.out.frozen 0
    have f1 := P4.out.frozen 1
    have r0 := P4.out.cell 0 rfl
    have r1 := P4.out.cell 1 rfl
    go_upto_region 10 with fail
    try rw [hV2]
    obtain ⟨g8, hg8⟩ : ∃ g, V.heap.size = g := ⟨_, rfl⟩
    rw [hg8] at P8 u0 u1 ⊢
    clear hg8 hV2
    have PQ := Lib.hid ((P4.out.set 0 (.slice A1 CC.length c1)).set 1 (.slice A2 PP.length c2))
    have KQ := Lib.hid (show Kep (fun b => b = g + 1 + 1) V ((V2.setCell ⟨g + 1 + 1, 0, none⟩ (.slice A1 CC.length c1)).setCell ⟨g + 1 + 1, 1, none⟩ (.slice A2 PP.length c2)) from Kep.set (S := fun b => b = g + 1 + 1) (Kep.set (S := fun b => b = g + 1 + 1) (Kep.of_bel BV.out) rfl _) rfl _)
    go_wp2_with fail
    refine bodyPost_ret (res_cttt rfl _ _ ⟨g + 1 + 1, 0, none⟩ _ _ _ _ rfl rfl rfl rfl (load_h PQ.out)) rfl ?_
    have hsz : w.heap.size ≤ W.heap.size := Below.size BW.out
    have o1 := (H1.out.kep KQ.out (fun i e e' => own_ne H1.out Q3.out (by decide) (e' ▸ e))).mono hsz
    have o2 := (H2.out.kep KQ.out (fun i e e' => own_ne H2.out Q3.out (by decide) (e' ▸ e))).mono hsz
    refine ⟨_, _, _, rfl, o1.rv c6C, o2.rv c6P, (H3.out.kep KQ.out (fun i e e' => by obtain ⟨_, D, hD⟩ := ownL_blk H3.out e; have hQ := Q3.out; rw [e'] at hD; exact absurd (blk_ty hD hQ) (by decide))).mono hsz, Kep.bel (BW.out.trans KB.out) KQ.out (fun k hk => by have := HG.out; omega), fun _ _ => ⟨o1, o2⟩⟩
  obtain ⟨E0, E1, E2, E3, E4⟩ : (aE cs ps (k, o, a, b, d, e, v, h, x) = 0 ∧ aC cs ps (k, o, a, b, d, e, v, h, x) = cs ∧ aP cs ps (k, o, a, b, d, e, v, h, x) = ps ∧ aN cs ps (k, o, a, b, d, e, v, h, x) = 0 ∧ aL cs ps (k, o, a, b, d, e, v, h, x) = []) := by
    refine ⟨?_, ?_, ?_, ?_, ?_⟩ <;> simp [aE, aC, aP, aN, aL, hk0, hk1, hk2]
  rw [E0, E1, E2, E3, E4]
  have b0 : (k == 0) = false := beq_eq_false_iff_ne.2 hk0
  have b1 : (k == 1) = false := beq_eq_false_iff_ne.2 hk1
  have b2 : (k == 2) = false := beq_eq_false_iff_ne.2 hk2
  have HK := Lib.hid (show ¬ (0 ≤ k ∧ k ≤ 2) by omega)
  clear hk0 hk1 hk2 J L C E0 E1 E2 E3 E4
  go_enter Tryz.func16, Tryz.ntmps16
  go_upto_region 1 with fail
  try rw [hW]
  obtain ⟨g, hg⟩ : ∃ g, w.heap.size = g := ⟨_, rfl⟩
  have HG := Lib.hid hg
  rw [hg] at P1 P2 P3 q0 q1 p0 p1 p2 p3 p4 p5 p6 p7 p8 f0 f1 r0 r1 ⊢
  clear hg hW
  have PQ := Lib.hid ((P3.out.set 0 (.slice A n c)).set 1 (.slice B m d0))
  have BQ := Lib.hid ((BW.out.set (p := ⟨g + 1 + 1, 0, none⟩) (by have := HG.out; show w.heap.size ≤ g + 1 + 1; omega) (.slice A n c)).set (p := ⟨g + 1 + 1, 1, none⟩) (by have := HG.out; show w.heap.size ≤ g + 1 + 1; omega) (.slice B m d0))
  go_wp2_with fail
  refine bodyPost_ret (res_cttt rfl _ _ ⟨g + 1 + 1, 0, none⟩ _ _ _ _ rfl rfl rfl rfl (load_h PQ.out)) rfl ?_
  exact ⟨_, _, _, rfl, (HH0.out.cls.bel BQ.out).rv, (HH0.out.pos.bel BQ.out).rv, OwnL.nil_ _ _, BQ.out, fun h1 h2 => absurd ⟨h1, h2⟩ HK.out⟩
end Ho
end Go.Proofs.YtneajcoiemkfbaaGreat
end
